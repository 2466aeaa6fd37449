/-
  .
-/
import Derived.Test.YtonapijgfalpaaaGreatETSameQw
import Derived.Test.YtonapijgfalpaaaGreatERowQw
import Derived.Test.YtonapijgfalpaaaGreatECountNQw
import Derived.Deep.AppendLies
import Derived.Test.YtonapijgfalpaaaGreatERevQw
import Derived.RangeFuncNested
import Derived.RangeFuncBound
import Derived.RangeFuncCalls
import Derived.RangeFuncLeaves
import Derived.RangeFuncWrites
import Derived.Shelf.RegionOpen
import Derived.OwnWalkIn
import Derived.TacticsInMore
import Derived.LoopNIn
import Derived.LoopIn
import Derived.OrdersIn
import Derived.Test.YtonapijgfalpaaaGreatKDelQw
import Derived.Test.YtonapijgfalpaaaGreatJPgQw
set_option maxRecDepth 100000
set_option maxHeartbeats 40000000
set_option linter.unusedVariables false
set_option linter.unusedSimpArgs false
namespace Go.Proofs.YtonapijgfalpaaaGreat
open Go.RowKit
theorem YU (d : Nat) : ∀ (f : Fo) (b o : Nat) (k : Int × Int × ByteArray) (l : Fo), spF d (kX f b o k l) = spF d f ++ ((d, k, l) :: spF (d + 1) l)
 | .nil, _, _, _, _ => by simp [kX, spF]
 | .node _ _ _ l' r, b, o, k, l => by simp [kX, spF, YU d r b o k l, List.append_assoc]
def spT (d : Nat) (t : Tr) : List Sp := (d, (t.id, t.kind, t.text), t.kids) :: spF (d + 1) t.kids
theorem zek (t : Tr) : spT 1 t = spF 1 (zm t) := by simp [spT, zm, spF]
def ZU (w : World) (S : Nat → Prop) (xs : List Value) (i : Nat) (x : Sp) : Prop :=
 xs[i * 5]? = some (.int .i64 x.2.1.1) ∧ xs[i * 5 + 1]? = some (.int .i64 x.2.1.2.1) ∧ xs[i * 5 + 2]? = some (.string x.2.1.2.2) ∧ (∃ ka cap, xs[i * 5 + 3]? = some (.slice ka (zb x.2.2) cap) ∧ zb x.2.2 ≤ cap ∧ zF w S x.2.2 ka) ∧ xs[i * 5 + 4]? = some (.int .i64 (x.1 : Int))
def vI (S : Nat → Prop) (w : World) (B : Nat) (rv : Value) (n : Nat) (T : List Sp) : Prop := T.length = n ∧ ∃ xs, w.ownsRow B 76 5 rv n xs ∧ ∀ i x, T[i]? = some x → ZU w S xs i x
theorem ZU.kept {w w' : World} {S : Nat → Prop} {xs : List Value} {i : Nat} {x : Sp} (h : ZU w S xs i x) (hk : ∀ k, S k → w'.heap[k]? = w.heap[k]?) : ZU w' S xs i x := by
 obtain ⟨a, b, c, ⟨ka, cap, e, f, g⟩, z⟩ := h
 exact ⟨a, b, c, ⟨ka, cap, e, f, g.kept fun k hs => ⟨hs, hk k hs⟩⟩, z⟩
theorem vI.bounds {S : Nat → Prop} {w : World} {B : Nat} {rv : Value} {n : Nat} {T : List Sp} (h : vI S w B rv n T) {g : Nat} (hg : rv.ownBlock = some g) : B ≤ g ∧ g < w.heap.size := by
 obtain ⟨_, xs, ho, _⟩ := h
 exact zq ho hg
theorem Zf.zgN {S : Nat → Prop} {w wr : World} {B n : Nat} {rv l : Value} {T : List Sp} (h : Zf w wr rv l) (hs : vI S w B rv n T) (hB : B ≤ w.heap.size) : ∀ k, k < B → wr.heap[k]? = w.heap[k]? := fun k hk =>
 h.1.block k (by omega) (fun e => by have := (hs.bounds e.symm).1; omega)
theorem zaB {w w' : World} {S : Nat → Prop} {xs : List Value} {n : Nat} {T : List Sp} {x : Sp} {ka : Option Addr} {cap : Nat} (hl : xs.length = n * 5) (hT : T.length = n) (hx : ∀ i y, T[i]? = some y → ZU w S xs i y) (hk : ∀ k, S k → w'.heap[k]? = w.heap[k]?) (hc : zb x.2.2 ≤ cap) (hf : zF w' S x.2.2 ka) :
 ∀ i y, (T ++ [x])[i]? = some y → ZU w' S (xs ++ [.int .i64 x.2.1.1, .int .i64 x.2.1.2.1, .string x.2.1.2.2, .slice ka (zb x.2.2) cap, .int .i64 (x.1 : Int)]) i y := fun i y hi => by
 by_cases h : i < n
 · rw [List.getElem?_append_left (by omega)] at hi
   obtain ⟨a, b, c, ⟨kb, cb, e, f, g⟩, z⟩ := (hx i y hi).kept hk
   exact ⟨by rw [List.getElem?_append_left (by omega)]; exact a, by rw [List.getElem?_append_left (by omega)]; exact b, by rw [List.getElem?_append_left (by omega)]; exact c, ⟨kb, cb, by rw [List.getElem?_append_left (by omega)]; exact e, f, g⟩, by rw [List.getElem?_append_left (by omega)]; exact z⟩
 · have hil := (List.getElem?_eq_some_iff.1 hi).1
   have : i = n := by simp at hil; omega
   subst this
   rw [List.getElem?_append_right (by omega), hT, Nat.sub_self] at hi
   simp at hi
   subst hi
   refine ⟨?_, ?_, ?_, ⟨ka, cap, ?_, hc, hf⟩, ?_⟩ <;> (rw [List.getElem?_append_right (by omega), hl]; simp)
theorem zb6 {P : Program} {e : TypeId} {size bytes : Nat} (h : (P.info? e).map (fun i => (i.size, i.bytes, i.zero.map (fun z => z.cells.size))) = some (size, bytes, some size)) :
 ∃ i z, P.info? e = some i ∧ i.zero = some z ∧ i.size = size ∧ i.bytes = bytes ∧ z.cells.size = size := by
 rw [Option.map_eq_some_iff] at h
 obtain ⟨i, hi, he⟩ := h
 simp only [Prod.mk.injEq, Option.map_eq_some_iff] at he
 obtain ⟨h1, h2, z, hz, h3⟩ := he
 exact ⟨i, z, hi, hz, h1, h2, h3⟩
theorem zbP {α : Type} (M : Nat) (A B : List α) : ((A.take M) ++ B).take M = (A ++ B).take M := by
 rw [List.take_append, List.take_append, List.take_take, Nat.min_self, List.length_take]
 congr 2
 omega
theorem jH : ∀ (d : Nat) (f : Fo) (x : Sp), x ∈ spF d f → ze x.2.2 + 1 ≤ ze f ∧ d ≤ x.1 ∧ x.1 + ze x.2.2 < d + ze f
 | _, .nil, x, h => by simp [spF] at h
 | d, .node _ _ k l r, x, h => by
   simp only [spF, List.mem_cons, List.mem_append] at h
   simp only [ze]
   rcases h with rfl | h | h
   · simp only; omega
   · have := jH (d + 1) l x h; omega
   · have := jH d r x h; omega
def zbs (x : Sp) : Tr := ⟨x.2.1.1, x.2.1.2.1, x.2.1.2.2, x.2.2⟩
end Go.Proofs.YtonapijgfalpaaaGreat
namespace Go.Proofs.YtonapijgfalpaaaGreat
open Go.RowKit Go.Shelf
attribute [local go_sem] Oper.semAt_some
theorem YieldAt.zcM {m : Nat} (m' : Nat) {P : Program} {l : Nat} {args : Array Value} {W : World} {R : Ending → World → Prop} (h : YieldAt Fence.wide m P l args W R) : YieldAt Fence.wide m' P l args W R := by
 obtain ⟨fn, tmps, assign, body, hy, hr⟩ := h
 exact ⟨fn, tmps, assign, body, hy, hr.1, fun c cs _ => hr.2 c cs (room_wide _)⟩
structure zeR (P : Program) (m l n₀ : Nat) (S : Nat → Prop) (tot : List Sp) (J : List Sp → World → Prop) (Jx : World → Prop) : Prop where
 turn : ∀ {pre : List Sp} {V V' : World}, J pre V → Below n₀ V V' → J pre V'
 J7 : ∀ {V V' : World}, Jx V → Below n₀ V V' → Jx V'
 yield : ∀ {pre rest : List Sp} {d : Nat} {key : Int × Int × ByteArray} {k : Fo} {V : World} {b off kc : Nat} {ka : Option Addr}, tot = pre ++ (d, key, k) :: rest → J pre V → n₀ ≤ V.heap.size → S b →
  V.cell? ⟨b, off, none⟩ = some (.int .i64 key.1) → V.cell? ⟨b, off + 1, none⟩ = some (.int .i64 key.2.1) → V.cell? ⟨b, off + 2, none⟩ = some (.string key.2.2) → V.cell? ⟨b, off + 3, none⟩ = some (.slice ka (zb k) kc) → zb k ≤ kc → zF V S k ka →
  YieldAt Fence.wide m P l #[.int .i64 (d : Int), .pointer (some ⟨b, off, none⟩)] V fun e V' => (V.heap.size ≤ V'.heap.size ∧ (∀ y, S y → V'.heap[y]? = V.heap[y]?)) ∧ ((e = .returned (.bool true) ∧ J (pre ++ [(d, key, k)]) V') ∨ (e = .returned (.bool false) ∧ Jx V'))
def zgb (S : Nat → Prop) (J : List Sp → World → Prop) (Jx : World → Prop) (pre L : List Sp) (w : World) (e : Ending) (w' : World) : Prop :=
 ∃ bl, e = .returned (.bool bl) ∧ w.heap.size ≤ w'.heap.size ∧ (∀ y, S y → w'.heap[y]? = w.heap[y]?) ∧ (bl = true → J (pre ++ L) w') ∧ (bl = false → Jx w')
theorem QU : ∀ (j d : Nat) (f : Fo), spF d f = spF d (zC j f) ++ spF d (zt j f)
 | 0, _, f => by cases f <;> simp [zC, zt, spF]
 | _ + 1, _, .nil => by simp [zC, zt, spF]
 | j + 1, d, .node _ _ k l r => by simp only [zC, zt, spF, List.cons_append, List.append_assoc]; rw [QU j d r]
def zeD (S : Nat → Prop) (J : List Sp → World → Prop) (w : World) (d : Nat) (key : Int × Int × ByteArray) (k : Fo) (pre : List Sp) (j : Nat) (wr : World) : Prop :=
 J (pre ++ (d, key, k) :: spF (d + 1) (zC j k)) wr ∧ w.heap.size ≤ wr.heap.size ∧ ∀ y, S y → wr.heap[y]? = w.heap[y]?
theorem zcU {m l n₀ : Nat} {S : Nat → Prop} {tot : List Sp} {J : List Sp → World → Prop} {Jx : World → Prop} (hB : zeR Tryz.prog m l n₀ S tot J Jx) : ∀ (q d : Nat) (key : Int × Int × ByteArray) (k : Fo) (pre rest : List Sp) (w : World) (b off kc : Nat) (ka : Option Addr), ze k < q → q ≤ 1000000 → d + q ≤ 2000000 → tot = pre ++ ((d, key, k) :: (spF (d + 1) k ++ rest)) → J pre w → n₀ ≤ w.heap.size → S b →
 w.cell? ⟨b, off, none⟩ = some (.int .i64 key.1) → w.cell? ⟨b, off + 1, none⟩ = some (.int .i64 key.2.1) → w.cell? ⟨b, off + 2, none⟩ = some (.string key.2.2) → w.cell? ⟨b, off + 3, none⟩ = some (.slice ka (zb k) kc) → zb k ≤ kc → zF w S k ka →
 Calls Tryz.prog 145 #[.pointer (some ⟨b, off, none⟩), .int .i64 (d : Int), .func (.yield l) #[] #[]] w (zgb S J Jx pre ((d, key, k) :: spF (d + 1) k) w) := by
 intro q
 induction q with
 | zero => intro d key k pre rest w b off kc ka h; omega
 | succ q ih =>
   intro d key k pre rest w b off kc ka hq hq6 hdq htot hJ hn0 hSb c0 c1 c2 c3 hcp hk
   obtain ⟨fn, tmps, assign, body, hy, hR⟩ := YieldAt.zcM 5 (hB.yield htot hJ hn0 hSb c0 c1 c2 c3 hcp hk)
   obtain ⟨n, hn⟩ : ∃ n, n = zb k := ⟨_, rfl⟩
   have hn6 : n ≤ 1000000 := by have := zX k; omega
   have hd6 : (d : Int) ≤ 2000000 := by omega
   have hd0 : (0 : Int) ≤ (d : Int) := by omega
   rw [← hn] at c3 hcp
   have H := hH (aN hq (aN hq6 (aN hdq (aN htot (aN hn0 (aN hSb (aN c3 (aN hcp (aN hk hn)))))))))
   have HR := hH hR
   have HIH := hH ih
   clear hq hq6 hdq htot hJ hn0 hSb c0 c1 c2 c3 hcp hk hn hR ih
   refine (callsIn_wide (n := 6)).1 ?_
   refine callsIn_of_wp Tryz.func145 rfl trivial ?_ rfl
   simp only [Tryz.ntmps145, List.size_toArray, List.length_cons, List.length_nil, Nat.reduceAdd, Nat.reduceSub, Array.replicate_succ, Array.replicate_zero, List.push_toArray, List.append_toArray, List.nil_append, List.cons_append]
   gi_wp2
   refine HR.out.mono ?_
   clear HR hy
   rintro e w1 ⟨⟨hs1, hS1⟩, (⟨rfl, hJ1⟩ | ⟨rfl, hx1⟩)⟩
   · have p3 : w1.cell? ⟨b, off + 3, none⟩ = some (.slice ka n kc) := (World.cell?_of_block (a := ⟨b, off + 3, none⟩) (hS1 b H.out.2.2.2.2.2.1)).trans H.out.2.2.2.2.2.2.1
     have HS := hH (show zeD S J w d key k pre 0 w1 from ⟨by simpa [zC, spF] using hJ1, hs1, hS1⟩)
     clear hJ1 hs1 hS1
     gi_wp2
     gi_loopw [7, 18] (fun _ i wr => ∃ j : Nat, j ≤ n ∧ i = .int .i64 (j : Int) ∧ Hid (zeD S J w d key k pre j wr)) (fun _ i _ => n - (intOf i).toNat)
     case atStart => exact ⟨0, Nat.zero_le _, rfl, HS⟩
     case round =>
      obtain ⟨j, hj, rfl, hh⟩ := hrel
      have p3r : wr.cell? ⟨b, off + 3, none⟩ = some (.slice ka n kc) := (World.cell?_of_block (a := ⟨b, off + 3, none⟩) (hh.out.2.2 b H.out.2.2.2.2.2.1)).trans H.out.2.2.2.2.2.2.1
      by_cases hlt : j < n
      · have hk1 : zF wr S k ka := H.out.2.2.2.2.2.2.2.2.1.kept fun x hx => ⟨hx, hh.out.2.2 x hx⟩
        obtain ⟨b0, o0, kkey, l', r, hd1', b', off', a1, n1, rfl, hSb', e0, e1, e2, e3, hc1, hl1⟩ := hk1.at j (by have := H.out.2.2.2.2.2.2.2.2.2; omega)
        obtain ⟨_, _, _, _, _, f1, f2, hsz1, htk⟩ := yU j k (by have := H.out.2.2.2.2.2.2.2.2.2; omega)
        rw [hd1'] at f1; cases f1
        have htot2 : tot = (pre ++ (d, key, k) :: spF (d + 1) (zC j k)) ++ ((d + 1, kkey, l') :: (spF (d + 1 + 1) l' ++ (spF (d + 1) r ++ rest))) := by
         rw [H.out.2.2.2.1, QU j (d + 1) k, hd1']
         simp [spF, List.append_assoc]
        have hcall := HIH.out (d + 1) kkey l' (pre ++ (d, key, k) :: spF (d + 1) (zC j k)) (spF (d + 1) r ++ rest) wr b' (off' + j * 4) n1 a1 (by have := H.out.1; omega) (by have := H.out.2.1; omega) (by have := H.out.2.2.1; omega) htot2 hh.out.1 (Nat.le_trans H.out.2.2.2.2.1 hh.out.2.1) hSb' e0 e1 e2 e3 hc1 hl1
        have hcast : (((d + 1 : Nat)) : Int) = (d : Int) + 1 := by omega
        rw [hcast] at hcall
        have hnx : (pre ++ (d, key, k) :: spF (d + 1) (zC j k)) ++ ((d + 1, kkey, l') :: spF (d + 1 + 1) l') = pre ++ (d, key, k) :: spF (d + 1) (zC (j + 1) k) := by rw [htk, YU]; simp [List.append_assoc]
        have HC := hH (aN hcall hnx)
        have hji : (j : Int) < (n : Int) := by omega
        clear hk1 hd1' f2 hsz1 htk htot2 hcall hcast hnx e0 e1 e2 e3 hc1 hl1 hSb'
        have hlt5 : (j : Int) + 1 ≤ 1000001 := by omega
        have HLT := hH hlt
        clear hlt
        gi_wp2_with (refine ⟨trivial, ?_⟩; gi_at_call 145; refine (callsIn_wide.2 HC.out.1).mono ?_; rintro e w2 ⟨bl, rfl, hs2, hS2, hJ2, hx2⟩; have HE := hH (aN hs2 (aN hS2 (aN hJ2 hx2))); clear hs2 hS2 hJ2 hx2; cases bl)
        · go_ret
          exact ⟨false, rfl, Nat.le_trans hh.out.2.1 HE.out.1, fun y hy => (HE.out.2.1 y hy).trans (hh.out.2.2 y hy), (fun e => by cases e), fun _ => HE.out.2.2.2 (by first | rfl | trivial)⟩
        · refine ⟨⟨j + 1, by have := HLT.out; omega, by go_num, hH ⟨?_, Nat.le_trans hh.out.2.1 HE.out.1, fun y hy => (HE.out.2.1 y hy).trans (hh.out.2.2 y hy)⟩⟩, by have := HLT.out; simp [intOf]; omega⟩
          have h := HE.out.2.2.1 (by first | rfl | trivial)
          rw [HC.out.2] at h
          exact h
      · have hjn : ¬ (j : Int) < (n : Int) := by omega
        have HJN := hH (show j = n by omega)
        clear hlt
        gi_wp2
        go_ret
        refine ⟨true, rfl, hh.out.2.1, hh.out.2.2, fun _ => ?_, fun e => by cases e⟩
        have h := hh.out.1
        rw [vN j k (by rw [HJN.out, H.out.2.2.2.2.2.2.2.2.2]; exact Nat.le_refl _)] at h
        exact h
   · have HE := hH (aN hs1 (aN hS1 hx1))
     clear hs1 hS1 hx1
     gi_wp2
     go_ret
     exact ⟨false, rfl, HE.out.1, HE.out.2.1, (fun e => by cases e), fun _ => HE.out.2.2⟩
end Go.Proofs.YtonapijgfalpaaaGreat
namespace Go.Proofs.YtonapijgfalpaaaGreat
open Go.RowKit Go.Shelf
attribute [local go_sem] Oper.semAt_some
def ZC (w : World) (S : Nat → Prop) (t : Tr) (TB : Nat) : Prop := ∃ ka kc, S TB ∧ w.heap[TB]? = some (.cells #[.int .i64 t.id, .int .i64 t.kind, .string t.text, .slice ka (zb t.kids) kc] 37 (0, 0)) ∧ zb t.kids ≤ kc ∧ zF w S t.kids ka
theorem zbJ {m l : Nat} {SS : Nat → Prop} {t : Tr} {J : List Sp → World → Prop} {Jx : World → Prop} (w : World) (hB : zeR Tryz.prog m l w.heap.size SS (spF 1 (zm t)) J Jx) (TB : Nat) (hw : ZC w SS t TB) (hsz : ze t.kids + 1 ≤ 500000) (h0 : J [] w) :
 Calls Tryz.prog 144 #[.func (.yield l) #[] #[], .pointer (some ⟨TB, 0, none⟩)] w fun e V => (∃ v, e = .returned v) ∧ (J (spF 1 (zm t)) V ∨ Jx V) := by
 obtain ⟨ka, kc, hS, hb, hc, hk⟩ := hw
 have hcall := zcU hB 500001 1 (t.id, t.kind, t.text) t.kids [] [] w TB 0 kc ka (by omega) (by omega) (by omega) (by simp [zm, spF]) h0 (Nat.le_refl _) hS (by rw [cell_of_row _ _ 0 _ _ _ hb]; rfl) (by rw [cell_of_row _ _ 1 _ _ _ hb]; rfl) (by rw [cell_of_row _ _ 2 _ _ _ hb]; rfl) (by rw [cell_of_row _ _ 3 _ _ _ hb]; rfl) hc hk
 have HC := hH hcall
 clear hcall hS hb hc hk h0 hB
 go_enter Tryz.func144, Tryz.ntmps144
 go_wp2_with fail
 refine HC.out.mono ?_
 rintro e w2 ⟨bl, rfl, _, _, hJ2, hx2⟩
 have HE := hH (aN hJ2 hx2)
 clear hJ2 hx2
 go_wp2_with fail
 cases bl
 · exact bodyPost_end (results_none rfl _ _ _) rfl ⟨⟨_, rfl⟩, .inr (HE.out.2 rfl)⟩
 · refine bodyPost_end (results_none rfl _ _ _) rfl ⟨⟨_, rfl⟩, .inl ?_⟩
   have h := HE.out.1 rfl
   simpa [zm, spF] using h
def zba (B : Nat) (SS : Nat → Prop) (I : List Sp → World → Prop) (Ix : Code → World → Prop) (pre : List Sp) (W : World) (e : Exit) (_ : Act) (V : World) : Prop :=
 (W.heap.size ≤ V.heap.size ∧ ∀ y, (B ≤ y ∨ SS y) → y < W.heap.size → V.heap[y]? = W.heap[y]?) ∧ ((e = .normal ∧ I pre V) ∨ (e = .ret ∧ Ix .ret V) ∨ ∃ id, e = .exit id ∧ Ix (.exit id) V)
theorem zcz {n : Nat} {g : Operand} {ps : Array Tmp} {assign body : Code} {Q : Exit → Act → World → Prop} {a : Act} {w : World} (h1 : 1 ≤ n) {TB : Nat} (hg : a.eval g = .func (.func 144) #[] #[.pointer (some ⟨TB, 0, none⟩)])
 (SS : Nat → Prop) (t : Tr) (hwa : ZC w SS t TB) (hSS : ∀ x, SS x → x < w.heap.size) (hsz : ze t.kids + 1 ≤ 500000) (hps : ps.size = 2)
 (I : List Sp → World → Prop) (Ix : Code → World → Prop) (hI : ∀ {pre : List Sp} {V V' : World}, I pre V → Below w.heap.size V V' → I pre V') (hIx : ∀ {c : Code} {V V' : World}, Ix c V → Below w.heap.size V V' → Ix c V')
 (h0 : I [] w)
 (hround : ∀ (l : Nat), l = w.heap.size + 1 → ∀ (pre rest : List Sp) (d : Nat) (key : Int × Int × ByteArray) (k : Fo) (V : World) (b off kc : Nat) (ka : Option Addr), spF 1 (zm t) = pre ++ (d, key, k) :: rest → w.heap.size + 2 ≤ V.heap.size → I pre V → SS b →
   V.cell? ⟨b, off, none⟩ = some (.int .i64 key.1) → V.cell? ⟨b, off + 1, none⟩ = some (.int .i64 key.2.1) → V.cell? ⟨b, off + 2, none⟩ = some (.string key.2.2) → V.cell? ⟨b, off + 3, none⟩ = some (.slice ka (zb k) kc) → zb k ≤ kc → zF V SS k ka →
   ∀ (K : Act → World → Prop), (∀ a₁ V0, Below V.heap.size V V0 → (∀ V', (∃ o', V' = V0.putObj l o' ∧ ∃ o, V0.heap[l]? = some o ∧ o.isCells = false) → body.wpIn (Fence.wide.inRound l) (n - 1 - 1) Tryz.prog (zba w.heap.size SS I Ix (pre ++ [(d, key, k)]) V') a₁ V') → K a₁ V0) →
    assign.wpIn (Fence.wide.inRound l) (n - 1 - 1) Tryz.prog (Exit.then K (fun _ _ _ => False)) { tmps := (ps.zip #[.int .i64 (d : Int), .pointer (some ⟨b, off, none⟩)]).foldl (fun t (p, v) => t.setIfInBounds p v) a.tmps, defers := [] } V)
 (hdone : ∀ (D : Nat) (V : World), w.heap.size ≤ D → I (spF 1 (zm t)) V → V.heap[D]? = some (.deferred (some [])) → Q .normal { a with defers := { target := .collected D, args := #[] } :: a.defers } V)
 (hstop : ∀ (D : Nat) (c : Code) (V : World), w.heap.size ≤ D → Ix c V → V.heap[D]? = some (.deferred (some [])) → c.wpIn Fence.wide n Tryz.prog Q { a with defers := { target := .collected D, args := #[] } :: a.defers } V) :
 (Code.rangeFunc g ps assign body).wpIn Fence.wide n Tryz.prog Q a w := by
 obtain ⟨B, hB⟩ : ∃ B, w.heap.size = B := ⟨_, rfl⟩
 simp only [hB] at hI hIx hround hdone hstop
 refine wpIn_rangeFunc fun fn hfn => ?_
 obtain ⟨rec, hrec⟩ : ∃ rec : LoopState → Option Code → Loop, rec = fun st pe => { state := st, pending := pe, fn, tmps := a.tmps, params := ps, assign, body, defers := B } := ⟨_, rfl⟩
 obtain ⟨W1, hW1⟩ : ∃ W1, W1 = (w.alloc (.deferred (some []))).alloc (.loop (rec .ready none)) := ⟨_, rfl⟩
 have hsz1 : W1.heap.size = B + 2 := by rw [hW1]; simp [hB]
 have hblk : ∀ x, x < B → W1.heap[x]? = w.heap[x]? := fun x hx => by rw [hW1, Below.heap_alloc _ _ _ (by simp; omega), Below.heap_alloc _ _ _ (by omega)]
 have hbk : Book B (rec .ready none) W1 := by
  rw [hW1, ← hB]
  refine ⟨?_, (Below.heap_alloc _ _ _ (by simp)).trans (World.alloc_heap_new w _)⟩
  have := World.alloc_heap_new (w.alloc (.deferred (some []))) (.loop (rec .ready none))
  rwa [World.size_alloc] at this
 have hI1 : I [] W1 := hI h0 (by rw [hW1, ← hB]; exact ((Below.refl _ w).alloc (Nat.le_refl _) _).alloc (by simp) _)
 have hSl : ∀ x, SS x → x < B := fun x hx => by have := hSS x hx; omega
 have hwa1 : ZC W1 SS t TB := by
  obtain ⟨ka, kc, c0, c1, c2, c3⟩ := hwa
  exact ⟨ka, kc, c0, (hblk _ (hSl _ c0)).trans c1, c2, c3.kept fun x hx => ⟨hx, hblk x (hSl x hx)⟩⟩
 refine ⟨B + 1, [{ target := .collected B, args := #[] }], W1, { target := .fn (.func 144) #[.pointer (some ⟨TB, 0, none⟩)], args := #[.func (.yield (B + 1)) #[] #[]] }, W1, 144, #[.func (.yield (B + 1)) #[] #[]] ++ #[.pointer (some ⟨TB, 0, none⟩)], W1, ?_, ?_, ?_, ?_, fun _ => h1, ?_⟩
 · rw [hW1, hrec, ← hB]; exact run_enterLoop_outer _ _ _ _ _
 · simp only [resolve, hg]
   simp [go_sem]
 · intro f' hf'; simp [Target.leads] at hf'; subst hf'; exact trivial
 · simp [invoke, go_sem]
 · obtain ⟨J, hJ⟩ : ∃ J : List Sp → World → Prop, J = fun pre V => I pre V ∧ Book B (rec .ready none) V := ⟨_, rfl⟩
   obtain ⟨Jx, hJx⟩ : ∃ Jx : World → Prop, Jx = fun V => ∃ c, Ix c V ∧ Book B (rec .done (some c)) V := ⟨_, rfl⟩
   have hbody : zeR Tryz.prog (n - 1 - 1) (B + 1) W1.heap.size SS (spF 1 (zm t)) J Jx := by
    subst hJ hJx
    refine ⟨?_, ?_, ?_⟩
    · rintro pre V V' ⟨j1, j2⟩ hb
      rw [hsz1] at hb
      exact ⟨hI j1 (hb.mono (by omega)), (hb.block _ (by omega)).trans j2.1, (hb.block _ (by omega)).trans j2.2⟩
    · rintro V V' ⟨c, j1, j2⟩ hb
      rw [hsz1] at hb
      exact ⟨c, hIx j1 (hb.mono (by omega)), (hb.block _ (by omega)).trans j2.1, (hb.block _ (by omega)).trans j2.2⟩
    · rintro pre rest d key k V b off kc ka htot ⟨j1, j2⟩ hV hSb e0 e1 e2 e3 ec hk
      rw [hsz1] at hV
      have hr := hround (B + 1) rfl pre rest d key k V b off kc ka htot hV j1 hSb e0 e1 e2 e3 ec hk
      have hy := run_yield (P := Tryz.prog) (args := #[.int .i64 (d : Int), .pointer (some ⟨b, off, none⟩)]) j2.1 (by rw [hrec]; exact hps.symm)
      rw [hrec] at hy
      refine ⟨fn, _, assign, body, hy, roundIn_of_wpIn hfn (hr _ fun a₁ V0 hb0 hb => ?_)⟩
      have j20 : Book B (rec .ready none) V0 := ⟨(hb0.block _ (lt_of_heap j2.1)).trans j2.1, (hb0.block _ (lt_of_heap j2.2)).trans j2.2⟩
      refine ⟨_, run_beginRound j20.1 (by rw [hrec]), ?_⟩
      have hb2 : Book B { rec .ready none with state := .busy } (V0.putObj (B + 1) (.loop { rec .ready none with state := .busy })) := j20.put
      refine wpIn_mono (hb _ ⟨_, rfl, _, j20.1, rfl⟩) ?_
      rintro e3 a3 U ⟨⟨hk1, hk2⟩, hp⟩
      have hb3 : Book B { rec .ready none with state := .busy } U := ⟨(hk2 _ (Or.inl (by omega)) (lt_of_heap hb2.1)).trans hb2.1, (hk2 _ (Or.inl (Nat.le_refl _)) (lt_of_heap hb2.2)).trans hb2.2⟩
      have fin := fun jump => run_endRound (P := Tryz.prog) jump hb3.1
      rw [hrec] at fin hb3
      have hs0 := hb0.size
      have hsU : V0.heap.size ≤ U.heap.size := by simpa [World.putObj] using hk1
      have hall : ∀ o', V.heap.size ≤ (U.putObj (B + 1) o').heap.size ∧ ∀ y, SS y → (U.putObj (B + 1) o').heap[y]? = V.heap[y]? := fun o' => ⟨by simp [World.putObj]; omega, fun y hy => by
       have hyl := hSl y hy
       have hyB : y ≠ B + 1 := by omega
       rw [World.putObj_heap_other hyB, hk2 y (Or.inr hy) (by simp [World.putObj]; omega), World.putObj_heap_other hyB, hb0.block y (by omega)]⟩
      have hpb : ∀ o', Below B U (U.putObj (B + 1) o') := fun o' => ⟨rfl, rfl, rfl, by simp [World.putObj], fun y hy => World.putObj_heap_other (by omega)⟩
      rcases hp with ⟨rfl, hi3⟩ | ⟨rfl, hi3⟩ | ⟨id, rfl, hi3⟩
      · refine ⟨_, _, fin none, hall _, .inl ⟨rfl, hI hi3 (hpb _), ?_⟩⟩
        rw [hrec]; exact hb3.put
      · refine ⟨_, _, fin (some .ret), hall _, .inr ⟨rfl, .ret, hIx hi3 (hpb _), ?_⟩⟩
        rw [hrec]; exact hb3.put
      · refine ⟨_, _, fin (some (.exit id)), hall _, .inr ⟨rfl, .exit id, hIx hi3 (hpb _), ?_⟩⟩
        rw [hrec]; exact hb3.put
   have hstart : J [] W1 := by rw [hJ]; exact ⟨hI1, hbk⟩
   refine (callsIn_wide.2 (zbJ W1 hbody TB hwa1 hsz hstart)).mono ?_
   rintro e W2 ⟨⟨v, rfl⟩, (hj | hj)⟩
   · rw [hJ] at hj
     obtain ⟨hi, hb⟩ := hj
     have := run_endLoop (P := Tryz.prog) hb.1 (by rw [hrec]; simp)
     rw [hrec] at this
     exact ⟨none, _, this, hdone B _ (Nat.le_refl _) (hI hi ⟨rfl, rfl, rfl, by simp [World.putObj], fun y hy => World.putObj_heap_other (by omega)⟩) ((World.putObj_heap_other (by omega)).trans hb.2)⟩
   · rw [hJx] at hj
     obtain ⟨c, hi, hb⟩ := hj
     have := run_endLoop (P := Tryz.prog) hb.1 (by rw [hrec]; simp)
     rw [hrec] at this
     exact ⟨some c, _, this, hstop B c _ (Nat.le_refl _) (hIx hi ⟨rfl, rfl, rfl, by simp [World.putObj], fun y hy => World.putObj_heap_other (by omega)⟩) ((World.putObj_heap_other (by omega)).trans hb.2)⟩
end Go.Proofs.YtonapijgfalpaaaGreat
namespace Go.Proofs.YtonapijgfalpaaaGreat
open Go.RowKit
def zg5 (S : Nat → Prop) (w : World) (B : Nat) (rv : Value) (T : List Sp) (M d : Nat) (t : Tr) (e : Ending) (w' : World) : Prop :=
 ∃ rv', e = .returned rv' ∧ vI S w' B rv' ((T ++ spT d t).take M).length ((T ++ spT d t).take M) ∧ Zf w w' rv rv'
def zc7 (S : Nat → Prop) (w : World) (B : Nat) (rv : Value) (T : List Sp) (M : Nat) (x : Sp) (c1 : Array Value) (ks : Fo) (len : Nat) (l i : Value) (wr : World) : Prop :=
 ∃ (k : Nat) (L : List Sp), k ≤ len ∧ i = .int .i64 (k : Nat) ∧ Hid (L = (T ++ (x :: spF (x.1 + 1) (zC k ks))).take M) ∧ vI S wr B l L.length L ∧ Zf w wr rv l ∧ wr.heap[w.heap.size]? = some (.cells c1 37 (0, 0)) ∧ T.length + 1 ≤ L.length ∧ L.length ≤ M
theorem zbp (M : Nat) (hM : M ≤ 2000000) : ∀ (m : Nat) (w : World) (S : Nat → Prop) (v : Value) (t : Tr) (B : Nat) (rv : Value) (n : Nat) (T : List Sp) (d : Nat), ze t.kids < m → zb t.kids ≤ 9223372036854775807 → jv t.kids → (∀ k, S k → k < B) → B ≤ w.heap.size → zL w S v t →
 vI S w B rv n T → n ≤ M → d ≤ n + 1 →
 Calls Tryz.prog 49 #[rv, v, .int .i64 (d : Int), .int .i64 (M : Int)] w (zg5 S w B rv T M d t) := by
 intro m
 induction m with
 | zero => intro w S v t B rv n T d h; omega
 | succ m ih =>
   intro w S v t B rv n T d hm hm5 hfit hS hB hv hrow hnM hd1
   obtain ⟨ka, cap, rfl, hcpt, hk⟩ := hv
   obtain ⟨id, kd, tx, ks⟩ := t
   simp only at hk hm hcpt hm5 hfit
   simp only
   obtain ⟨hT, xs, ho, hxs⟩ := hrow
   obtain ⟨ra, rcap, rfl⟩ := zw ho
   obtain ⟨len, hlen⟩ : ∃ len, len = zb ks := ⟨_, rfl⟩
   have hlen2 : len ≤ 9223372036854775807 := by omega
   rw [← hlen] at hcpt ⊢
   have HN := hH (aN hm hfit)
   have HLEN := hH (aN hlen hcpt)
   have HK := hH hk
   have HSS := hH (aN hS hB)
   have HIH := hH ih
   have HO := hH (aN ho hxs)
   have HT := hH hT
   have HD := hH hd1
   have hdM : (d : Int) ≤ 2000001 := by omega
   have hd0 : (0 : Int) ≤ (d : Int) := by omega
   have hn5 : n ≤ 2000000 := by omega
   clear hlen hk hm hm5 hfit hS hB ih ho hxs hT hcpt hd1
   by_cases hful : M ≤ n
   · have hMn : (M : Int) ≤ (n : Int) := by omega
     have HF := hH (show (T ++ spT d ⟨id, kd, tx, ks⟩).take M = T by rw [List.take_append_of_le_length (by rw [HT.out]; exact hful), List.take_of_length_le (by rw [HT.out]; exact hnM)])
     clear hful
     go_enter Tryz.func49, Tryz.ntmps49
     go_wp2_with fail
     go_ret
     refine ⟨_, rfl, ?_, Zf.box _⟩
     rw [HF.out, HT.out]
     exact ⟨HT.out, xs, HO.out.1.alloc _, fun i x hi => (HO.out.2 i x hi).kept fun k hk => Below.heap_alloc _ _ _ (nL (HSS.out.1 k hk) HSS.out.2)⟩
   have hnn : ¬ (M : Int) ≤ (n : Int) := by omega
   have hnM1 : n + 1 ≤ M := by omega
   have HFN := hH hful
   clear hful
   go_enter Tryz.func49, Tryz.ntmps49
   obtain ⟨i0, z0, hi0, hz0, hz1, hz2, hz3⟩ := zb6 Tryz.zf0
   have hnew : ((w.alloc (.cells #[.int .i64 id, .int .i64 kd, .string tx, .slice ka len cap] 37)).alloc (.cells #[.int .i64 id, .int .i64 kd, .string tx, .slice ka len cap, .int .i64 (d : Int)] 76)).heap[w.heap.size + 1]? = some (.cells #[.int .i64 id, .int .i64 kd, .string tx, .slice ka len cap, .int .i64 (d : Int)] 76 (0, 0)) := heap_alloc2_new w _ _
   have HNEW := hH hnew
   have hBw : B ≤ w.heap.size := HSS.out.2
   clear hnew
   go_wp2_with (at_builtin; refine wpList_append_lies _ rfl (.tmp 15) (.tmp 19) _ rfl B 76 i0 z0 5 64 Tryz.underlying52 hi0 hz0 hz1 hz2 hz3 (by omega) (.slice ra n rcap) n xs rfl ((HO.out.1.alloc _).alloc _) ⟨w.heap.size + 1, 0, none⟩ 1 1 [.int .i64 id, .int .i64 kd, .string tx, .slice ka len cap, .int .i64 (d : Int)] rfl rfl (World.news_of_block (cs := #[.int .i64 id, .int .i64 kd, .string tx, .slice ka len cap, .int .i64 (d : Int)]) (t := 76) (fr := (0, 0)) HNEW.out) (by simp [Value.oneCell']) (by omega) (by unfold maxLen; omega) (by omega) (by simp; omega) (w.heap.size + 1 + 1) (by simp) ?_; intro gg cap' w1 hown1 hgrow hat hlt1)
   have hg1 : Zf w w1 (.slice ra n rcap) (.slice (some ⟨gg, 0, none⟩) (n + 1) cap') := Zf.first hgrow hat
   have hsp0 : vI S w B (.slice ra n rcap) n T := ⟨HT.out, xs, HO.out⟩
   have hlow1 := hg1.zgN hsp0 hBw
   have hsp1 : vI S w1 B (.slice (some ⟨gg, 0, none⟩) (n + 1) cap') (n + 1) (T ++ [(d, (id, kd, tx), ks)]) := ⟨by rw [List.length_append, HT.out]; rfl, _, hown1, by
    have := zaB (x := (d, (id, kd, tx), ks)) (ka := ka) (cap := cap) HO.out.1.1 HT.out HO.out.2 (w' := w1) (fun k hk => hlow1 k (HSS.out.1 k hk)) (by show zb ks ≤ cap; rw [← HLEN.out.1]; exact HLEN.out.2) (HK.out.kept fun x hx => ⟨hx, hlow1 x (HSS.out.1 x hx)⟩)
    simp only [← HLEN.out.1] at this
    exact this⟩
   have hob : ∀ g, (Value.slice ra n rcap).ownBlock = some g → g < w.heap.size := fun g hg => (zq HO.out.1 hg).2
   have hbox : w1.heap[w.heap.size]? = some (.cells #[.int .i64 id, .int .i64 kd, .string tx, .slice ka len cap] 37 (0, 0)) := by
    rw [hgrow.block _ (by simp; omega) (fun e => by have := hob _ e.symm; omega)]; exact heap_alloc2_old w _ _
   have HG := hH (aN hg1 (aN hsp1 (aN hob hbox)))
   clear hg1 hsp1 hob hbox hgrow hown1 hat hsp0 hlow1
   go_loopw [0, 9] (fun l i wr => zc7 S w B (.slice ra n rcap) T M (d, (id, kd, tx), ks) #[.int .i64 id, .int .i64 kd, .string tx, .slice ka len cap] ks len l i wr) (fun _ i _ => len - (intOf i).toNat)
   case atStart => exact ⟨0, T ++ [(d, (id, kd, tx), ks)], Nat.zero_le _, rfl, hH (by simp only [zC, spF]; rw [List.take_of_length_le (by rw [List.length_append, HT.out]; exact hnM1)]), by rw [List.length_append, HT.out]; exact HG.out.2.1, HG.out.1, HG.out.2.2.2, by simp, by rw [List.length_append, HT.out]; exact hnM1⟩
   case round =>
    obtain ⟨k, L, hk, rfl, HL, hsp, hgr, hbx, hTL, hLM⟩ := hrel
    have p1 : wr.cell? ⟨w.heap.size, 3, none⟩ = some (.slice ka len cap) := by rw [cell_of_row wr _ 3 _ _ _ hbx]; rfl
    have HR := hH (aN hsp (aN hgr (aN hbx hTL)))
    clear hsp hgr hbx hTL
    by_cases hlt : k < len
    · have hlow := HR.out.2.1.zgN ⟨HT.out, xs, HO.out⟩ hBw
      have hk1 : zF wr S ks ka := HK.out.kept fun x hx => ⟨hx, hlow x (HSS.out.1 x hx)⟩
      obtain ⟨b0, o0, ⟨ki, kk, kt⟩, l', r, hd1', b, off, a1, n1, rfl, hSb, c0, c1, c2, c3, hcp, hl1⟩ := hk1.at k (by rw [← HLEN.out.1]; exact hlt)
      obtain ⟨_, _, _, _, _, e1, e2, hsz1, htk⟩ := yU k ks (by rw [← HLEN.out.1]; exact hlt)
      rw [hd1'] at e1; cases e1
      have hft := kR k HN.out.2 hd1'
      have hcall := HIH.out wr S (.agg #[.int .i64 ki, .int .i64 kk, .string kt, .slice a1 (zb l') n1]) ⟨ki, kk, kt, l'⟩ B u0 L.length L (d + 1) (by have := HN.out.1; simp only; omega) hft.1 hft.2 HSS.out.1 (Nat.le_trans hBw HR.out.2.1.1.size) ⟨a1, n1, rfl, hcp, hl1⟩ HR.out.1 hLM (by have := HD.out; have := HR.out.2.2.2; have := HT.out; omega)
      obtain ⟨m1, hm1⟩ : ∃ m, m = zb l' := ⟨_, rfl⟩
      rw [← hm1] at hcall c3
      simp only at c0 c1 c2
      have hcast : (((d + 1 : Nat)) : Int) = (d : Int) + 1 := by omega
      rw [hcast] at hcall
      have HC := hH hcall
      have htk2 : spF (d + 1) (zC (k + 1) ks) = spF (d + 1) (zC k ks) ++ ((d + 1, (ki, kk, kt), l') :: spF (d + 1 + 1) l') := by rw [htk, YU]
      have HTK := hH htk2
      have hkl : (k : Int) < (len : Int) := by omega
      clear hk1 hlow hd1' hcall hm1 htk htk2 hl1 hsz1 hSb e2 hcp hcast hft
      go_wp2_with fail
      refine HC.out.mono ?_
      rintro e w2 ⟨l2, rfl, hsp2, hg2⟩
      have HE := hH (aN hsp2 hg2)
      clear hsp2 hg2
      go_wp2_with fail
      have hne : some w.heap.size ≠ u0.ownBlock := fun e => by
       rcases HR.out.2.1.2 with h | h
       · have := HG.out.2.2.1 _ (h.symm.trans e.symm); omega
       · have := h _ e.symm; omega
      have hLL : (L ++ spT (d + 1) ⟨ki, kk, kt, l'⟩).take M = (T ++ ((d, (id, kd, tx), ks) :: spF (d + 1) (zC (k + 1) ks))).take M := by
       rw [HL.out, zbP, HTK.out]
       simp [spT, List.append_assoc]
      have hle : L.length ≤ ((L ++ spT (d + 1) ⟨ki, kk, kt, l'⟩).take M).length := by
       rw [List.length_take, List.length_append]; omega
      refine ⟨⟨k + 1, (L ++ spT (d + 1) ⟨ki, kk, kt, l'⟩).take M, by omega, by go_num, hH hLL, HE.out.1, HR.out.2.1.trans HE.out.2, (HE.out.2.1.block _ (lt_of_some HR.out.2.2.1) hne).trans HR.out.2.2.1, by have := HR.out.2.2.2; omega, by rw [List.length_take]; omega⟩, by simp [intOf]; omega⟩
    · have hkk : k = len := by omega
      have HKK := hH hkk
      have hkl : ¬ (k : Int) < (len : Int) := by omega
      clear hkk
      go_wp2_with fail
      go_ret
      refine ⟨_, rfl, ?_, HR.out.2.1⟩
      have h := HR.out.1
      have hL := HL.out
      rw [vN k ks (by rw [HKK.out, HLEN.out.1]; exact Nat.le_refl _)] at hL
      show vI S _ B _ ((T ++ spT d ⟨id, kd, tx, ks⟩).take M).length ((T ++ spT d ⟨id, kd, tx, ks⟩).take M)
      have e : (T ++ spT d ⟨id, kd, tx, ks⟩).take M = L := hL.symm
      rw [e]
      exact h
def WalkM (w : World) (S : Nat → Prop) (t : Tr) (M : Nat) (e : Ending) (w' : World) : Prop := ∃ a cap, e = .returned (.slice a ((spF 1 (zm t)).take M).length cap) ∧ vI S w' w.heap.size (.slice a ((spF 1 (zm t)).take M).length cap) ((spF 1 (zm t)).take M).length ((spF 1 (zm t)).take M) ∧ Below w.heap.size w w'
theorem kv (M : Nat) (hM : M ≤ 2000000) (w : World) (S : Nat → Prop) (v : Value) (t : Tr) (hlen : zb t.kids ≤ 9223372036854775807) (hfit : jv t.kids) (hS : ∀ k, S k → k < w.heap.size) (hv : zL w S v t) :
 Calls Tryz.prog 22 #[v, .int .i64 (M : Int)] w (WalkM w S t M) := by
 obtain ⟨ka, cap, rfl, hcp, hk⟩ := hv
 have hb : Below w.heap.size w (w.alloc (.cells #[.int .i64 t.id, .int .i64 t.kind, .string t.text, .slice ka (zb t.kids) cap] 37)) := (Below.refl _ _).alloc (Nat.le_refl _) _
 have hc := zbp M hM _ (w.alloc (.cells #[.int .i64 t.id, .int .i64 t.kind, .string t.text, .slice ka (zb t.kids) cap] 37)) S _ t w.heap.size (.slice none 0 0) 0 [] 1 (Nat.lt_succ_self _) hlen hfit hS hb.size ⟨ka, cap, rfl, hcp, hk.below hb hS⟩ ⟨rfl, [], World.ownsRow_nil _ _ _ _, fun i p hi => by simp at hi⟩ (Nat.zero_le _) (by omega)
 have HC := hH (aN hc hb)
 clear hc hb hk hS hcp hlen hfit
 obtain ⟨len, hl⟩ : ∃ len, len = zb t.kids := ⟨_, rfl⟩
 rw [← hl] at HC
 rw [← hl]
 clear hl
 go_enter Tryz.func22, Tryz.ntmps22
 go_wp2_with fail
 refine HC.out.1.mono ?_
 rintro e w2 ⟨rv, rfl, hsp, hg⟩
 have hb2 : Below w.heap.size w w2 := HC.out.2.trans ⟨hg.1.os, hg.1.tape, hg.1.output, hg.1.size, fun k hk => hg.1.block k (by have := HC.out.2.size; omega) (by simp [Value.ownBlock])⟩
 have hsp' := hsp
 obtain ⟨hT, xs, ho, _⟩ := hsp
 obtain ⟨a, cap', rfl⟩ := zw ho
 have HE := hH (aN hsp' hb2)
 clear hsp' ho hg hT
 rw [List.nil_append, zek] at HE ⊢
 obtain ⟨q, hq⟩ : ∃ q, q = ((spF 1 (zm t)).take M).length := ⟨_, rfl⟩
 rw [← hq] at HE ⊢
 have HQ := hH hq
 clear hq
 go_wp2_with fail
 go_ret
 exact ⟨_, _, by rw [← HQ.out]; rfl, by rw [← HQ.out]; exact HE.out.1, HE.out.2⟩
end Go.Proofs.YtonapijgfalpaaaGreat
