/-
  .
-/
import Derived.Test.YtonapijgfalpaaaGreatVManyQw
import Derived.Deep.QuietTactic
import Derived.BigQuiet
import Derived.Deep.MidRow
import Derived.Deep.WholeRow
import Derived.Test.YtonapijgfalpaaaGreatJPgQw
set_option maxRecDepth 100000
set_option maxHeartbeats 40000000

namespace Go.Proofs.YtonapijgfalpaaaGreat
open Go.RowKit
theorem zaz {s : Sl} (h : ¬ (0 < s.kinds.length ∧ 0 ≤ s.least ∧ s.least ≤ s.most ∧ s.most ≤ 1000)) : qZ s = false := by
 cases h2 : qZ s
 · rfl
 · simp [qZ] at h2
   exact absurd ⟨List.length_pos_iff.2 (by first | exact h2.1.1.1 | exact List.length_pos_iff.1 h2.1.1.1), h2.1.1.2, h2.1.2, h2.2⟩ h
def zgL (w : World) (c : Array Value) (n : Int) (l : List Int) (a i : Value) (wr : World) : Prop :=
 ∃ (k : Nat) (x : Int), k ≤ l.length ∧ i = .int .i64 k ∧ a = .int .i64 x ∧ wr.heap[w.heap.size]? = some (.cells c 55 (0, 0)) ∧ Below w.heap.size w wr ∧ rise n (-1) l = rise n x (l.drop k)
theorem zac (w : World) (v : Value) (s : Sl) (n : Int) (hv : zcy w v s) (hf : s.few) : Calls Tryz.prog 143 #[v, .int .i64 n] w (Says (qN n s) w) := by
 obtain ⟨ka, kc, rfl, hk⟩ := hv
 obtain ⟨l, lo, hi⟩ := s
 simp only at hk
 have hfl : l.length ≤ 1000000 := hf
 have HK := hH hk
 clear hf hk
 go_enter Tryz.func143, Tryz.ntmps143
 go_wp2_with fail
 go_loopw [5, 11] (fun a i wr => zgL w #[.slice ka l.length kc, .int .i64 lo, .int .i64 hi] n l a i wr) (fun _ i _ => l.length - (intOf i).toNat)
 case atStart => exact ⟨0, -1, Nat.zero_le _, rfl, rfl, heap_alloc_new w _, zh _ _, rfl⟩
 case round =>
  obtain ⟨k, a, hkl, rfl, rfl, hb, hbel, hany⟩ := hrel
  have HB := hH (aN hb hbel)
  have HA := hH hany
  by_cases hlt : k < l.length
  · obtain ⟨x, hx⟩ : ∃ x, l[k]? = some x := ⟨l[k], List.getElem?_eq_getElem hlt⟩
    obtain ⟨b, off, rfl, hblt, hc⟩ := (HK.out.below hbel) (by omega)
    have c0 := hc k x hx
    have HX := hH (zdn HA.out hx)
    have hkl2 : (k : Int) < (l.length : Int) := by omega
    clear hx hc hb hbel hany
    by_cases h1 : x ≤ a
    · go_wp2_with fail
      go_ret
      exact Says.mk (by rw [qN, HX.out]; simp; intro h; omega) HB.out.2
    · by_cases h2 : n ≤ x
      · go_wp2_with fail
        go_ret
        exact Says.mk (by rw [qN, HX.out]; simp; intro _ h; omega) HB.out.2
      · go_wp2_with fail
        exact ⟨⟨k + 1, x, by omega, by go_num, rfl, HB.out.1, HB.out.2, by rw [HX.out]; simp; omega⟩, by simp [intOf]; omega⟩
  · have p0 : wr.cell? ⟨w.heap.size, 0, none⟩ = some (.slice ka l.length kc) := by rw [cell_of_row wr _ 0 _ _ _ hb]; rfl
    have p1 : wr.cell? ⟨w.heap.size, 1, none⟩ = some (.int .i64 lo) := by rw [cell_of_row wr _ 1 _ _ _ hb]; rfl
    have p2 : wr.cell? ⟨w.heap.size, 2, none⟩ = some (.int .i64 hi) := by rw [cell_of_row wr _ 2 _ _ _ hb]; rfl
    have HE := hH (show qN n ⟨l, lo, hi⟩ = qZ ⟨l, lo, hi⟩ by rw [qN, zdz HA.out (by omega)]; rfl)
    have hkl2 : ¬ (k : Int) < (l.length : Int) := by omega
    have HN : ¬ (0 < l.length ∧ 0 ≤ lo ∧ lo ≤ hi ∧ hi ≤ 1000) → qN n ⟨l, lo, hi⟩ = false := fun h => HE.out.trans (zaz (s := ⟨l, lo, hi⟩) h)
    have HNN := hH HN
    clear HN hb hbel hany
    by_cases h1 : 0 < l.length
    · have h1' : (0 : Int) < (l.length : Int) := by omega
      by_cases h2 : 0 ≤ lo
      · by_cases h3 : lo ≤ hi
        · by_cases h4 : hi ≤ 1000
          · go_wp2_with fail
            go_ret
            exact Says.mk (by rw [HE.out]; simp [qZ, h2, h3, h4]; omega) HB.out.2
          · go_wp2_with fail
            go_ret
            exact Says.mk (HNN.out (by omega)) HB.out.2
        · go_wp2_with fail
          go_ret
          exact Says.mk (HNN.out (by omega)) HB.out.2
      · go_wp2_with fail
        go_ret
        exact Says.mk (HNN.out (by omega)) HB.out.2
    · have h1' : ¬ (0 : Int) < (l.length : Int) := by omega
      go_wp2_with fail
      go_ret
      exact Says.mk (HNN.out (by omega)) HB.out.2
def Ahead (l : List Int) (k : Nat) (a : Int) : Prop := (k = 0 → a = -1) ∧ ∀ m, k = m + 1 → l[m]? = some a
def qM (l : List Int) (x : Int) : Bool := l.any fun y => decide (y = x)
def zgZ (w : World) (l : List Int) (x : Int) (i : Value) (wr : World) : Prop := ∃ k : Nat, k ≤ l.length ∧ i = .int .i64 k ∧ w = wr ∧ qM l x = qM (l.drop k) x
def zbB (b : Bool) (w : World) (e : Ending) (w' : World) : Prop := ∃ n : Int, e = .returned (.int .i64 n) ∧ (b = true → 0 ≤ n) ∧ (b = false → n < 0) ∧ w = w'
theorem zbB.yes {b : Bool} {w : World} {k : Nat} (h : b = true) : zbB b w (.returned (.int .i64 (k : Int))) w := ⟨k, rfl, (fun _ => by omega), (fun e => by rw [h] at e; cases e), rfl⟩
theorem zbB.no {b : Bool} {w : World} (h : b = false) : zbB b w (.returned (.int .i64 (-1))) w := ⟨-1, rfl, (fun e => by rw [h] at e; cases e), (fun _ => by omega), rfl⟩
theorem zeq {l : List Int} {x y : Int} {k : Nat} {r : Bool} (hr : r = qM (l.drop k) x) (h : l[k]? = some y) : r = (decide (y = x) || qM (l.drop (k + 1)) x) := zeP hr h
theorem zcC (w : World) (a : Option Addr) (cap : Nat) (l : List Int) (x : Int) (h : qI w a l) (hf : l.length ≤ 1000000) : Calls Tryz.prog 163 #[.slice a l.length cap, .int .i64 x] w (zbB (qM l x) w) := by
 have HK := hH h
 clear h
 go_enter Tryz.func163, Tryz.ntmps163
 go_wp2_with fail
 go_loopw [8] (fun i wr => zgZ w l x i wr) (fun i _ => l.length - (intOf i).toNat)
 case atStart => exact ⟨0, Nat.zero_le _, rfl, rfl, rfl⟩
 case round =>
  obtain ⟨k, hkl, rfl, rfl, hany⟩ := hrel
  have HA := hH hany
  clear hany
  by_cases hlt : k < l.length
  · obtain ⟨y, hy⟩ : ∃ y, l[k]? = some y := ⟨l[k], List.getElem?_eq_getElem hlt⟩
    obtain ⟨b, off, rfl, hblt, hc⟩ := HK.out (by omega)
    have c0 := hc k y hy
    have HX := hH (zeq HA.out hy)
    have hkl2 : (k : Int) < (l.length : Int) := by omega
    clear hy hc
    by_cases he : x = y
    · have HE := hH he.symm
      subst he
      go_wp2_with fail
      go_ret
      exact zbB.yes (by rw [HX.out]; simp)
    · have HE := hH he
      go_wp2_with fail
      exact ⟨⟨k + 1, by omega, by go_num, rfl, by rw [HX.out, decide_eq_false (fun e => HE.out e.symm)]; rfl⟩, by simp [intOf]; omega⟩
  · have HE := hH (show qM l x = false from zfx HA.out (by omega))
    have hkl2 : ¬ (k : Int) < (l.length : Int) := by omega
    go_wp2_with fail
    go_ret
    exact zbB.no HE.out
theorem J3 (w : World) (a : Option Addr) (cap : Nat) (l : List Int) (x : Int) (h : qI w a l) (hf : l.length ≤ 1000000) : Calls Tryz.prog 162 #[.slice a l.length cap, .int .i64 x] w fun e w' => e = .returned (.bool (qM l x)) ∧ w = w' := by
 have HK := hH (zcC w a cap l x h hf)
 clear h
 obtain ⟨bb, hbb⟩ : ∃ bb, qM l x = bb := ⟨_, rfl⟩
 rw [hbb]
 rw [hbb] at HK
 clear hbb
 go_enter Tryz.func162, Tryz.ntmps162
 cases bb
 · go_wp2_with (go_at_call 163; ((with_reducible refine HK.out.mono ?_); rintro e w2 ⟨n, rfl, _, h2, rfl⟩; have h3 := hH (h2 rfl); clear h2))
   go_ret
   exact ⟨by show Ending.returned (.bool (decide (0 ≤ n))) = _; rw [decide_eq_false (by have := h3.out; omega)], rfl⟩
 · go_wp2_with (go_at_call 163; ((with_reducible refine HK.out.mono ?_); rintro e w2 ⟨n, rfl, h2, _, rfl⟩; have h3 := h2 rfl; clear h2))
   go_ret
   exact ⟨rfl, rfl⟩
def vec (f : Nat → Bool) : Array Value := ((List.range 201).map fun j => Value.bool (f j)).toArray
theorem yt (f : Nat → Bool) : (vec f).size = 201 := by simp [vec]
theorem jF (f : Nat → Bool) (j : Nat) (h : j < 201) : (vec f)[j]? = some (.bool (f j)) := by
 simp [vec, h]
theorem Jy (f : Nat → Bool) (i : Nat) (b : Bool) : (vec f).setIfInBounds i (.bool b) = vec (fun j => if j = i then b else f j) := by
 apply Array.ext_getElem?
 intro j
 by_cases hj : j < 201
 · rw [jF _ j hj, Array.getElem?_setIfInBounds]
   by_cases e : i = j
   · subst e; rw [if_pos rfl, if_pos (by rw [yt]; exact hj), if_pos rfl]
   · rw [if_neg e, jF _ j hj, if_neg (fun h => e h.symm)]
 · rw [Array.getElem?_eq_none (by simp [yt]; omega), Array.getElem?_eq_none (by rw [yt]; omega)]
theorem zcA {f g : Nat → Bool} (h : ∀ j, j < 201 → f j = g j) : vec f = vec g := by
 apply Array.ext_getElem?
 intro j
 by_cases hj : j < 201
 · rw [jF _ j hj, jF _ j hj, h j hj]
 · rw [Array.getElem?_eq_none (by rw [yt]; omega), Array.getElem?_eq_none (by rw [yt]; omega)]
def zbA (cs : Array Value) : Bool := cs.all (·.oneCell')
theorem zfd (f : Nat → Bool) : zbA (vec f) = true := by
 refine Array.all_eq_true_iff_forall_mem.2 fun u hu => ?_
 simp only [vec, List.mem_toArray, List.mem_map] at hu
 obtain ⟨b, _, rfl⟩ := hu; rfl
def blk (w : World) (b : Nat) : Array Value := match w.heap[b]? with
 | some (.cells cs _ _) => cs
 | _ => #[]
theorem ZJ {w : World} {b : Nat} {cs : Array Value} {t : TypeId} {fr : Nat × Nat} (h : w.heap[b]? = some (.cells cs t fr)) : blk w b = cs := by simp [blk, h]
theorem blk_alloc_new (w : World) (cs : Array Value) (t : TypeId) (n : Nat) (hn : n = w.heap.size) : blk (w.alloc (.cells cs t)) n = cs := by
 subst hn; exact ZJ (heap_alloc_new w _)
theorem zeN {w : World} {b : Nat} {v : Value} (j : Nat) (h : (blk w b)[j]? = some v) : w.cell? ⟨b, j, none⟩ = some v := by
 unfold blk at h
 split at h
 · rename_i cs t fr hb; rw [cell_of_row w b j cs t fr hb]; exact h
 · simp at h
theorem Zy {P : Program} (w : World) (b s : Nat) (ty : TypeId) (d : TypeDesc) (hu : P.underlying ty = some d) (hd : d.isRow = true) (hi : (P.info? ty).map (·.size) = some s) (h : (blk w b).size = s) :
 (loadVar ty ⟨b, 0, none⟩).run P w = .ok (.agg (blk w b)) w := by
 have := run_loadVar_mid (P := P) w b 0 ty (blk w b).toList d (fun j v hv => by
  refine zeN _ ?_
  rw [Nat.zero_add]; rw [Array.getElem?_toList] at hv; exact hv) hu hd (by rw [Array.length_toList, h]; exact hi)
 rw [Array.toArray_toList] at this
 exact this
theorem Tryz.zez : (Tryz.prog.info? 205).map (·.size) = some 201 := by kernel_rfl
def jN : Value → Nat
 | .pointer (some a) => a.block
 | _ => 0
def jU : Value → Bool
 | .pointer (some a) => a.off == 0 && a.spot.isNone
 | _ => false
theorem jy (a : Addr) : jN (.pointer (some a)) = a.block := rfl
theorem Za (b n : Nat) : jU (.pointer (some ⟨b, n, none⟩)) = (n == 0) := by simp [jU]
theorem Qn {v : Value} (h : jU v = true) : v = .pointer (some ⟨jN v, 0, none⟩) := by
 unfold jU at h
 split at h
 · rename_i a
   obtain ⟨b, n, s⟩ := a
   simp at h
   obtain ⟨rfl, rfl⟩ := h
   rfl
 · cases h
def zbw : Value → Array Value
 | .agg cs => cs
 | _ => #[]
def isT : Value → Bool
 | .agg cs => cs.size == 201 && zbA cs
 | _ => false
theorem Qy (cs : Array Value) : zbw (.agg cs) = cs := rfl
theorem JC (f : Nat → Bool) : isT (.agg (vec f)) = true := by simp [isT, yt, zfd]
theorem zfn {v : Value} (h : isT v = true) : v = .agg (zbw v) ∧ (zbw v).size = 201 ∧ zbA (zbw v) = true := by
 unfold isT at h
 split at h
 · simp at h; exact ⟨rfl, h.1, h.2⟩
 · cases h
def vW (w : World) (b : Nat) : Bool := match w.heap[b]? with
 | some (.cells cs _ fr) => cs.size == 201 && fr == (0, 0)
 | _ => false
theorem vY (w : World) (c : Array Value) (t : TypeId) (n : Nat) (hn : n = w.heap.size) : vW (w.alloc (.cells c t)) n = (c.size == 201) := by
 subst hn
 unfold vW
 rw [heap_alloc_new]
 simp
theorem kS {w : World} {b : Nat} {cs : Array Value} {t : TypeId} (h : w.heap[b]? = some (.cells cs t (0, 0))) (hs : cs.size = 201) : vW w b = true := by simp [vW, h, hs]
theorem zbb {w : World} {b : Nat} (h : vW w b = true) : ∃ cs t, w.heap[b]? = some (.cells cs t (0, 0)) ∧ cs.size = 201 := by
 unfold vW at h
 split at h
 · rename_i cs t fr hb
   simp at h
   obtain ⟨h1, rfl⟩ := h
   exact ⟨cs, t, hb, h1⟩
 · cases h
theorem vw (w : World) (c c' : Array Value) (t : TypeId) (n : Nat) (hn : n = w.heap.size) : (w.alloc (.cells c t)).setRow n c' = w.alloc (.cells c' t) := by
 subst hn; exact World.setRow_alloc_new w c c' t
def noF : Nat → Bool := fun _ => false
def Jl : Nat → Bool := fun j => decide (j = 0)
section
variable (w : World) (ρ : Operand → Value) (a : Act) (dst : Option Tmp) (x y : Operand) (ty' : TypeId) (pos : String) (aft : Array Edge) (g : Option (Nat × Bool)) (K : Act → World → Prop) (Q : Exit → Act → World → Prop)
theorem loadT (h : jU (ρ x) = true) (h2 : (blk w (jN (ρ x))).size = 201) : (execOp ρ ⟨dst, .load 205 x, ty', pos, aft, g⟩).run Tryz.prog w = .ok (.value (.agg (blk w (jN (ρ x))))) w := by
 have e := Qn h
 simp only [execOp, Sem.run_bind]
 rw [e]
 simp only [Instr.loadAt, Instr.sureAddr, Sem.run_bind, Sem.run_pure, Result.andThen_ok, jy]
 rw [Zy (P := Tryz.prog) w (jN (ρ x)) 201 205 _ Tryz.underlying205 rfl Tryz.zez h2]
 rfl
theorem JU (h : jU (a.eval x) = true) (h2 : (blk w (jN (a.eval x))).size = 201) : Oper.wp Tryz.prog ⟨dst, .load 205 x, ty', pos, aft, g⟩ a w K Q = K (a.put dst (.agg (blk w (jN (a.eval x))))) w := by
 unfold Oper.wp
 rw [loadT w a.eval dst x ty' pos aft g h h2]
 rfl
theorem storeT (h : jU (ρ x) = true) (h2 : vW w (jN (ρ x)) = true) (h3 : isT (ρ y) = true) :
 (execOp ρ ⟨dst, .store 205 x y, ty', pos, aft, g⟩).run Tryz.prog w = .ok .skip (w.setRow (jN (ρ x)) (zbw (ρ y))) := by
 have e1 := Qn h
 obtain ⟨e2, e3, e4⟩ := zfn h3
 obtain ⟨cs, t, hb, hs⟩ := zbb h2
 have hr := run_storeVar_row (P := Tryz.prog) w (jN (ρ x)) t 205 cs (zbw (ρ y)) hb (by rw [e3]; exact Tryz.zez) (by omega) e4
 simp only [execOp, Sem.run_bind]
 rw [e2, e1]
 simp only [Instr.storeAt, Instr.sureAddr, Sem.run_bind, Sem.run_pure, Result.andThen_ok, jy]
 rw [hr]
 rfl
theorem QE (h : jU (a.eval x) = true) (h2 : vW w (jN (a.eval x)) = true) (h3 : isT (a.eval y) = true) :
 Oper.wp Tryz.prog ⟨dst, .store 205 x y, ty', pos, aft, g⟩ a w K Q = K (a.put dst undef) (w.setRow (jN (a.eval x)) (zbw (a.eval y))) := by
 unfold Oper.wp
 rw [storeT w a.eval dst x y ty' pos aft g h h2 h3]
 rfl
theorem JV : (execOp ρ ⟨dst, .alloc 205, ty', pos, aft, g⟩).run Tryz.prog w = .ok (.value (.pointer (some ⟨w.heap.size, 0, none⟩))) (w.alloc (.cells (vec noF) 205)) := by kernel_rfl
theorem Qo : Oper.wp Tryz.prog ⟨dst, .alloc 205, ty', pos, aft, g⟩ a w K Q = K (a.put dst (.pointer (some ⟨w.heap.size, 0, none⟩))) (w.alloc (.cells (vec noF) 205)) := by
 unfold Oper.wp
 rw [JV w a.eval dst ty' pos aft g]
 rfl
theorem zfl : (Instr.build 205 #[(0, .bool true)]).run Tryz.prog w = .ok (.agg (vec Jl)) w := by kernel_rfl
theorem JW (h : ρ x = .bool true) : (execOp ρ ⟨dst, .build 205 #[(0, x)], ty', pos, aft, g⟩).run Tryz.prog w = .ok (.value (.agg (vec Jl))) w := by
 simp only [execOp, List.map_toArray, List.map_cons, List.map_nil, Sem.run_bind]
 rw [h, zfl]
 rfl
theorem YV (h : a.eval x = .bool true) : Oper.wp Tryz.prog ⟨dst, .build 205 #[(0, x)], ty', pos, aft, g⟩ a w K Q = K (a.put dst (.agg (vec Jl))) w := by
 unfold Oper.wp
 rw [JW w a.eval dst x ty' pos aft g h]
 rfl
end
end Go.Proofs.YtonapijgfalpaaaGreat
