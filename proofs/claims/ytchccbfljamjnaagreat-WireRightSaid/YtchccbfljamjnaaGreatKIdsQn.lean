/-
  .
-/
import Derived.Deep.RegionHeld
import Derived.Deep.RegionLaw
import Derived.Test.YtchccbfljamjnaaGreatICopyPQn
import Derived.Lib.BufSteps
import Derived.Test.YtchccbfljamjnaaGreatJPgQn
set_option maxRecDepth 100000
set_option maxHeartbeats 40000000
namespace Go.Proofs.YtchccbfljamjnaaGreat
open Go.RowKit Go.Shelf
set_option linter.unusedVariables false
set_option linter.unusedSimpArgs false
def idF : Fo → List Int
 | .nil => []
 | .node _ _ k l r => k.1 :: (idF l ++ idF r)
def idT (t : Tr) : List Int := t.id :: idF t.kids
theorem yC : ∀ f : Fo, (idF f).length = ze f
 | .nil => rfl
 | .node _ _ k l r => by simp [idF, ze, yC l, yC r]
theorem vD (t : Tr) : (idT t).length = ze t.kids + 1 := by simp [idT, yC]
theorem kK : ∀ (f : Fo) (j : Nat) (u : Tr), jy f j = some u → idF (zC (j + 1) f) = idF (zC j f) ++ idT u
 | .nil, j, u, h => by cases j <;> simp [jy, zH, zc5] at h
 | .node b o k l r, 0, u, h => by
   simp only [jy, zH, zc5] at h
   cases h
   simp [zC, idF, idT]
 | .node b o k l r, j + 1, u, h => by
   have := kK r j u (by simpa [jy, zH] using h)
   simp only [zC, idF, this, List.cons_append, List.append_assoc]
structure Zw (W : World) (LB UB DB : Nat) (up : Int) (l : List Int) (X : World) : Prop where
 row : ∃ a c, X.heap[LB]? = some (.cells #[.slice a l.length c] 30 (0, 0)) ∧ X.ownsRow W.heap.size 3 1 (.slice a l.length c) l.length (l.map zau)
 below : ∀ y, y < W.heap.size → y ≠ LB → X.heap[y]? = W.heap[y]?
 size : W.heap.size ≤ X.heap.size
 os : X.os = W.os
 tape : X.tape = W.tape
 output : X.output = W.output
structure IdW (W : World) (LB UB DB : Nat) (up : Int) : Prop where
 down : W.heap[DB]? = some (.cells #[.func (.func 137) #[] #[.pointer (some ⟨LB, 0, none⟩), .pointer (some ⟨UB, 0, none⟩), .pointer (some ⟨DB, 0, none⟩)]] 185 (0, 0))
 upTo : W.heap[UB]? = some (.cells #[.int .i64 up] 3 (0, 0))
 hd : DB < W.heap.size ∧ DB ≠ LB
 hu : UB < W.heap.size ∧ UB ≠ LB
 hl : LB < W.heap.size
def IdC (W : World) (LB UB DB : Nat) (up : Int) (l : List Int) (e : Ending) (X : World) : Prop := e = .returned (.tuple #[]) ∧ Zw W LB UB DB up l X
theorem Zw.add {W Y Z : World} {LB UB DB : Nat} {up : Int} {l : List Int} {X : World} {id : Int} {a a' : Option Addr} {c c' : Nat} (h : Zw W LB UB DB up l X) (hLB : LB < W.heap.size) (hl : X.heap[LB]? = some (.cells #[.slice a l.length c] 30 (0, 0))) (hro : X.ownsRow W.heap.size 3 1 (.slice a l.length c) l.length (l.map zau))
 (hY : Below X.heap.size X Y) (hown : Z.ownsRow W.heap.size 3 1 (.slice a' (l.length + 1) c') (l.length + 1) (l.map zau ++ [zau id])) (hg : Y.grownBy Z (Value.slice a l.length c).ownBlock) : Zw W LB UB DB up (l ++ [id]) (Z.setCell ⟨LB, 0, none⟩ (.slice a' (l.length + 1) c')) ∧ Z.heap[LB]? = some (.cells #[.slice a l.length c] 30 (0, 0)) := by
 have hob : ∀ y, y < W.heap.size → some y ≠ (Value.slice a l.length c).ownBlock := fun y hy e => by
  have := zF hro (g := y) e.symm
  omega
 have hkeep : ∀ y, y < W.heap.size → Z.heap[y]? = X.heap[y]? := fun y hy => by
  have h1 := h.size
  have h2 := hY.size
  exact (hg.block y (by omega) (hob y hy)).trans (hY.block y (by omega))
 have hz := (hkeep LB hLB).trans hl
 refine ⟨⟨⟨a', c', ?_, ?_⟩, fun y hy hn => ?_, ?_, ?_, ?_, ?_⟩, hz⟩
 · rw [heap_setCell_same Z LB 0 _ _ _ hz]; simp
 · rw [List.length_append, List.map_append]
   exact zI hown (fun g' cur hc hg' => Below.heap_setCell _ _ _ _ (by
    have := zF hown (g := g') hg'
    simp only; omega))
 · rw [Below.heap_setCell _ _ _ _ hn, hkeep y hy]; exact h.below y hy hn
 · have h1 := h.size
   have h2 := hY.size
   have h3 := hg.size
   simp [World.setCell]; omega
 · exact hg.os.trans (hY.os.trans h.os)
 · exact hg.tape.trans (hY.tape.trans h.tape)
 · exact hg.output.trans (hY.output.trans h.output)
theorem yA {P : Program} {ops : Array Oper} {o : Oper} {a : Act} {w : World} {K : Act → World → Prop} {Q : Exit → Act → World → Prop} {E : Prop}
 (hg : o.guard = none) (d x : Operand) (dT sT : TypeId) (hop : o.op = Op.call { callee := Callee.builtin Builtin.append, args := #[d, x], argTypes := #[dT, sT] })
 (v u : Value) (hd : a.eval d = v) (hx : a.eval x = u) {v' : Value} {w' : World} (hr : (Builtin.append_ #[dT, sT] o.type #[v, u]).run P w = .ok v' w') (hK : K (a.put o.dst v') w') :
 if Region.wanted o (yielded ops a.tmps) = true then Oper.wp P o a w K Q else E := by
 have hw : Region.wanted o (yielded ops a.tmps) = true := by simp [Region.wanted, hg]
 rw [if_pos hw]
 unfold Oper.wp execOp
 simp only [hop, resolve, invoke, builtin, Sem.run_bind, Sem.run_pure, Result.andThen_ok, List.map_toArray, List.map_cons, List.map_nil, hd, hx, hr]
 exact hK
theorem zcT {W : World} {LB UB DB : Nat} {up : Int} {S : Nat → Prop} (hW : IdW W LB UB DB up) (hS : ∀ y, S y → y < W.heap.size ∧ y ≠ LB) (hup : up ≤ 1000000) :
 ∀ (M : Nat) (X : World) (l : List Int) (u : Tr) (b off : Nat), ze u.kids < M → Qe W S u b off → Zw W LB UB DB up l X → ((l.length + ze u.kids + 1 : Nat) : Int) ≤ up →
 Calls Tryz.prog 137 #[.pointer (some ⟨b, off, none⟩), .pointer (some ⟨LB, 0, none⟩), .pointer (some ⟨UB, 0, none⟩), .pointer (some ⟨DB, 0, none⟩)] X (IdC W LB UB DB up (l ++ idT u)) := by
 intro M
 induction M with
 | zero => intro X l u b off h; omega
 | succ M ih =>
   intro X l u b off hM hu hX hle
   obtain ⟨hb, n0, n1, n2, ka, kc, n3, hkc, hkk⟩ := hu
   obtain ⟨n, hn⟩ : ∃ n, n = foLen u.kids := ⟨_, rfl⟩
   rw [← hn] at n3 hkc
   obtain ⟨a, c, hl, hro⟩ := hX.row
   have hlLB := hW.hl
   have hWb : ∀ Y, Zw W LB UB DB up (l ++ [u.id]) Y → True := fun _ _ => trivial
   have hcell : ∀ (Y : World) (m : List Int), Zw W LB UB DB up m Y → Y.cell? ⟨b, off, none⟩ = some (.int .i64 u.id) ∧ Y.cell? ⟨b, off + 3, none⟩ = some (.slice ka n kc) ∧ Y.cell? ⟨DB, 0, none⟩ = some (.func (.func 137) #[] #[.pointer (some ⟨LB, 0, none⟩), .pointer (some ⟨UB, 0, none⟩), .pointer (some ⟨DB, 0, none⟩)]) ∧ Y.cell? ⟨UB, 0, none⟩ = some (.int .i64 up) := fun Y m h => by
    have e := h.below b (hS b hb).1 (hS b hb).2
    exact ⟨(World.cell?_of_block (a := ⟨b, off, none⟩) e).trans n0, (World.cell?_of_block (a := ⟨b, off + 3, none⟩) e).trans n3, by rw [cell_of_row _ _ 0 _ _ _ ((h.below DB hW.hd.1 hW.hd.2).trans hW.down)]; rfl, by rw [cell_of_row _ _ 0 _ _ _ ((h.below UB hW.hu.1 hW.hu.2).trans hW.upTo)]; rfl⟩
   obtain ⟨k0, k3, kd, ku⟩ := hcell X l hX
   have hl0 : X.cell? ⟨LB, 0, none⟩ = some (.slice a l.length c) := by rw [cell_of_row _ _ 0 _ _ _ hl]; rfl
   obtain ⟨ln, hln⟩ : ∃ ln, ln = l.length := ⟨_, rfl⟩
   obtain ⟨Y1, hY1⟩ : ∃ Y1, Y1 = (X.alloc (.cells #[.int .i64 u.id] 3)).drew := ⟨_, rfl⟩
   have hbY : Below X.heap.size X Y1 := by
    rw [hY1]
    have h := (Below.refl X.heap.size X).alloc (Nat.le_refl _) (.cells #[.int .i64 u.id] 3)
    exact ⟨h.os, h.tape, h.output, h.size, h.block⟩
   obtain ⟨i0, hi0, hz0, hz1, hz2⟩ := info_parts Tryz.Qm
   have hroY := zI (w' := Y1) hro (fun g cur hg _ => hbY.block g (lt_of_heap hg))
   have hnew : Y1.cell? ⟨X.heap.size, 0, none⟩ = some (.int .i64 u.id) := by
    have h := heap_alloc_new X (.cells #[.int .i64 u.id] 3)
    rw [hY1]
    show (X.alloc (.cells #[.int .i64 u.id] 3)).cell? ⟨X.heap.size, 0, none⟩ = _
    rw [cell_of_row _ _ 0 _ _ _ h]; rfl
   obtain ⟨v', Z, hrun, hown, hgr, _, _⟩ := run_append_own_at (P := Tryz.prog) Y1 W.heap.size 30 30 3 i0 _ 1 8 Tryz.underlying30 hi0 hz0 hz1 hz2 rfl (by decide) _ _ _ hroY ⟨X.heap.size, 0, none⟩ 1 1 [.int .i64 u.id] rfl (fun j v hj => by
    match j, hj with
    | 0, hj => simp at hj; subst hj; exact hnew
    | j + 1, hj => simp at hj) (fun v hv => by simp only [List.mem_cons, List.not_mem_nil, or_false] at hv; rw [hv]; rfl) (by unfold maxLen; omega) (by omega) (by have := hX.size; have := hbY.size; omega)
   obtain ⟨a', c', rfl⟩ := zO hown
   obtain ⟨hA, hzl⟩ := hX.add hlLB hl hro hbY hown hgr
   have hzl0 : Z.cell? ⟨LB, 0, none⟩ = some (.slice a l.length c) := by rw [cell_of_row _ _ 0 _ _ _ hzl]; rfl
   have hzf : ∀ j, Z.frozen? ⟨LB, j, none⟩ = false := fun j => frozen_of_row _ _ j _ _ hzl
   rw [← hln] at hrun hl0 hzl0 hA
   obtain ⟨V, hV⟩ : ∃ V, V = Z.setCell ⟨LB, 0, none⟩ (.slice a' (ln + 1) c') := ⟨_, rfl⟩
   rw [← hV] at hA
   obtain ⟨SW, hSW⟩ : ∃ SW : World → Prop, SW = fun Y => Y.cell? ⟨b, off, none⟩ = some (.int .i64 u.id) := ⟨_, rfl⟩
   have HSW := hH (fun (Y : World) (h : SW Y) => (show Y.cell? ⟨b, off, none⟩ = some (.int .i64 u.id) by rw [hSW] at h; exact h))
   have hzk : Z.heap[b]? = X.heap[b]? := by
    have h1 := hX.size
    have h2 := hbY.size
    have h3 := (hS b hb).1
    refine (hgr.block b (by omega) (fun e => ?_)).trans (hbY.block b (by omega))
    have := zF hro (g := b) e.symm
    omega
   have hS0 : SW X.drew := by rw [hSW]; exact k0
   have hSY : SW Y1 := by rw [hSW]; exact (World.cell?_of_block (a := ⟨b, off, none⟩) (hbY.block b (by have := (hS b hb).1; have := hX.size; omega))).trans k0
   have hSZ : SW Z := by rw [hSW]; exact (World.cell?_of_block (a := ⟨b, off, none⟩) hzk).trans k0
   have hSV : SW V := by rw [hSW]; exact (hcell V _ hA).1
   have HSS := hH (aN hSY (aN hSZ hSV))
   have HYE := hH hY1
   have HVE := hH hV
   have HA := hH hA
   have HCELL := hH hcell
   have HIH := hH ih
   have HT := hH (aN hb (aN hkk (aN hn (aN hkc (aN hle (aN hM hln))))))
   have HRUN := hH hrun
   have HL1 : Hid (Y1.cell? ⟨LB, 0, none⟩ = some (.slice a ln c)) := hH (by
    rw [cell_of_row _ _ 0 _ _ _ ((hbY.block LB (lt_of_heap hl)).trans hl), hln]; rfl)
   have HZ := hH (aN hzl0 hzf)
   clear ih hcell hWb hlLB hro hl hX k0 k3 kd ku hbY hroY hnew hrun hown hgr hA hzl hzl0 hzf hSW hzk hSY hSZ hSV hY1 hV hkk n0 n1 n2 n3 hkc hn hle hM hln hi0 hz0 hz1 hz2 hb
   go_enter Tryz.func137, Tryz.ntmps137
   go_wp2_with fail
   refine wp_region_held_drew (S := SW) (by kernel_rfl) hS0 (fun hHeld => ?_)
   clear hS0
   refine tkH (i := 1) (.pointer (some ⟨b, off, none⟩)) rfl (Or.inl ⟨by rfl, fun X _ => by clear hHeld; go_simp⟩) (by assumption) ?_
   simp only [Act.put, pg]
   refine tkH (i := 2) (.pointer (some ⟨b, off, none⟩)) rfl (Or.inl ⟨by rfl, fun X _ => by clear hHeld; go_simp⟩) (by assumption) ?_
   simp only [Act.put, pg]
   refine tkH (i := 3) (.pointer (some ⟨b, off, none⟩)) rfl (Or.inl ⟨by rfl, fun X _ => by clear hHeld; go_simp⟩) (by assumption) ?_
   simp only [Act.put, pg]
   refine tkH (i := 4) (.int .i64 u.id) rfl (Or.inl ⟨by rfl, ?_⟩) (by assumption) ?_
   · clear hHeld; intro X hSw; have s0 := HSW.out X hSw; clear hSw; go_simp
   simp only [Act.put, pg]
   have hH00 := hHeld
   refine wpAnyH_ready (rs := [0, 5]) (by kernel_rfl) (by simp) ?_
   refine AllReadyH.cons (o := _) rfl (fun K hK => ?_) (AllReadyH.cons (o := _) rfl (fun K hK => ?_) (AllReadyH.nil))
   · rw [if_pos (by rfl)]
     simp only [pg3]
     have HK := hH hK
     clear hK hHeld
     go_wp2_with fail
     refine HK.out _ _ hH00 (fun hHeld => ?_)
     clear HK
     refine wpAnyH_ready (rs := [5]) (by kernel_rfl) (by simp) ?_
     refine AllReadyH.cons (o := _) rfl (fun K hK => ?_) (AllReadyH.nil)
     rw [if_pos (by rfl)]
     simp only [pg3]
     have HK := hH hK
     clear hK hHeld
     go_wp2_with fail
     rw [← HYE.out]
     refine HK.out _ _ HSS.out.1 (fun hHeld => ?_)
     clear HK
     refine wpAnyH_ready (rs := [6]) (by kernel_rfl) (by simp) ?_
     refine AllReadyH.cons (o := _) rfl (fun K hK => ?_) (AllReadyH.nil)
     refine yA rfl (.tmp 6) (.tmp 11) 30 30 rfl (.slice a ln c) (.slice (some ⟨X.heap.size, 0, none⟩) 1 1) (by simp [Act.eval, Act.put]) (by simp [Act.eval, Act.put]) HRUN.out (hK _ _ HSS.out.2.1 (fun hHeld => ?_))
     clear hK
     refine wpAnyH_ready (rs := [7]) (by kernel_rfl) (by simp) ?_
     refine AllReadyH.cons (o := _) rfl (fun K hK => ?_) (AllReadyH.nil)
     rw [if_pos (by rfl)]
     simp only [pg3]
     have HK := hH hK
     clear hK hHeld
     obtain ⟨hzl0, hzf⟩ := HZ.out
     go_wp2_with fail
     rw [← HVE.out]
     refine HK.out _ _ HSS.out.2.2 (fun hHeld => ?_)
     clear HK hHeld hzl0 hzf hl0
     refine wpAnyH_done (by kernel_rfl) ?_ _
     go_wp2_with fail
     go_loopw [5] (fun i wr => ∃ k : Nat, k ≤ n ∧ i = .int .i64 (k : Int) ∧ Hid (Zw W LB UB DB up (l ++ [u.id] ++ idF (zC k u.kids)) wr)) (fun i _ => n - (intOf i).toNat)
     case atStart => exact ⟨0, Nat.zero_le _, rfl, hH (by
      have e : zC 0 u.kids = .nil := by cases u.kids <;> rfl
      rw [e]; simpa [idF] using HA.out)⟩
     case round =>
      obtain ⟨k, hk, rfl, hr⟩ := hrel
      obtain ⟨wo, hwo⟩ : ∃ wo, wo = wr := ⟨_, rfl⟩
      subst hwo
      obtain ⟨w0, w3, wd, wu⟩ := HCELL.out _ _ hr.out
      obtain ⟨a2, c2, hl2, _⟩ := hr.out.row
      obtain ⟨L, hL⟩ : ∃ L, L = (l ++ [u.id] ++ idF (zC k u.kids)).length := ⟨_, rfl⟩
      rw [← hL] at hl2
      have wl : wo.cell? ⟨LB, 0, none⟩ = some (.slice a2 L c2) := by rw [cell_of_row _ _ 0 _ _ _ hl2]; rfl
      by_cases hlt : k < n
      · obtain ⟨hb, hkk, hn, hkc, hle, hM, hln⟩ := HT.out
        obtain ⟨b0, o0, key, ll, rr, hd, g, go, na, nc, hka, hSg, q0, q1, q2, q3, qc, qk⟩ := hkk.at k (by omega)
        have hkid : jy u.kids k = some ⟨key.1, key.2.1, key.2.2, ll⟩ := by rw [jy, hd]; rfl
        have hksz := kV hkid
        have htk := kK u.kids k _ hkid
        have hlen : L = l.length + 1 + ze (zC k u.kids) := by rw [hL]; simp [yC]; omega
        have hfs : ze (zC (k + 1) u.kids) = ze (zC k u.kids) + ze ll + 1 := by
         have := congrArg List.length htk
         rw [List.length_append, yC, yC, vD] at this
         simp only at this; omega
        have hfl : ∀ (j : Nat) (f : Fo), ze (zC j f) ≤ ze f := by
         intro j
         induction j with
         | zero => intro f; cases f <;> simp [zC, ze]
         | succ j ih => intro f; cases f with
           | nil => simp [zC, ze]
           | node _ _ _ l r => have := ih r; simp only [zC, ze]; omega
        have hfk := hfl (k + 1) u.kids
        have hLu : (L : Int) < up := by omega
        have hkl : (k : Int) < (n : Int) := by omega
        have hk0 : (0 : Int) ≤ (k : Int) := by omega
        have hk6 : (k : Int) ≤ 1000000 := by have := yG u.kids; omega
        have hnode : Qe W S ⟨key.1, key.2.1, key.2.2, ll⟩ g (go + k * 4) := ⟨hSg, q0, q1, q2, na, nc, q3, qc, qk⟩
        have hcall := HIH.out wo.drew (l ++ [u.id] ++ idF (zC k u.kids)) ⟨key.1, key.2.1, key.2.2, ll⟩ g (go + k * 4) (by simp only; omega) hnode ⟨hr.out.row, hr.out.below, hr.out.size, hr.out.os, hr.out.tape, hr.out.output⟩ (by rw [← hL]; simp only; omega)
        subst hka
        have HCALL := hH hcall
        have HLT := hH hlt
        have HTK := hH htk
        obtain ⟨S4, hS4⟩ : ∃ S4 : World → Prop, S4 = fun Y => Y.cell? ⟨DB, 0, none⟩ = some (.func (.func 137) #[] #[.pointer (some ⟨LB, 0, none⟩), .pointer (some ⟨UB, 0, none⟩), .pointer (some ⟨DB, 0, none⟩)]) ∧ Y.cell? ⟨b, off + 3, none⟩ = some (.slice (some ⟨g, go, none⟩) n kc) := ⟨_, rfl⟩
        have HS4 := hH (fun (Y : World) (h : S4 Y) => (show Y.cell? ⟨DB, 0, none⟩ = some (.func (.func 137) #[] #[.pointer (some ⟨LB, 0, none⟩), .pointer (some ⟨UB, 0, none⟩), .pointer (some ⟨DB, 0, none⟩)]) ∧ Y.cell? ⟨b, off + 3, none⟩ = some (.slice (some ⟨g, go, none⟩) n kc) by rw [hS4] at h; exact h))
        have HMK := hH (fun (Y : World) (m : List Int) (h : Zw W LB UB DB up m Y) => (show S4 Y by rw [hS4]; exact ⟨(HCELL.out Y m h).2.2.1, (HCELL.out Y m h).2.1⟩))
        have hS0 : S4 wo.drew := by rw [hS4]; exact ⟨wd, w3⟩
        clear hb hkk hn hkc hle hM hln hd hSg q0 q1 q2 q3 qc qk hkid hksz htk hlen hfs hfl hfk hnode hcall hlt hS4 hl2 hL
        go_wp2_with fail
        refine wp_region_held_drew (S := S4) (by kernel_rfl) hS0 (fun hHeld => ?_)
        clear hS0
        refine tkH (i := 0) (.func (.func 137) #[] #[.pointer (some ⟨LB, 0, none⟩), .pointer (some ⟨UB, 0, none⟩), .pointer (some ⟨DB, 0, none⟩)]) rfl (Or.inl ⟨by rfl, ?_⟩) (by assumption) ?_
        · clear hHeld; intro X hSw; obtain ⟨s0, s1⟩ := HS4.out X hSw; clear hSw; go_simp
        simp only [Act.put, pg]
        refine tkH (i := 1) (.pointer (some ⟨b, off, none⟩)) rfl (Or.inl ⟨by rfl, fun X _ => by clear hHeld; go_simp⟩) (by assumption) ?_
        simp only [Act.put, pg]
        refine tkH (i := 2) (.pointer (some ⟨b, off, none⟩)) rfl (Or.inl ⟨by rfl, fun X _ => by clear hHeld; go_simp⟩) (by assumption) ?_
        simp only [Act.put, pg]
        refine tkH (i := 3) (.pointer (some ⟨b, off + 3, none⟩)) rfl (Or.inl ⟨by rfl, fun X _ => by clear hHeld; go_simp⟩) (by assumption) ?_
        simp only [Act.put, pg]
        refine tkH (i := 4) (.slice (some ⟨g, go, none⟩) n kc) rfl (Or.inl ⟨by rfl, ?_⟩) (by assumption) ?_
        · clear hHeld; intro X hSw; obtain ⟨s0, s1⟩ := HS4.out X hSw; clear hSw; go_simp
        simp only [Act.put, pg]
        refine tkH (i := 5) (.int .i64 (k : Int)) rfl (Or.inl ⟨by rfl, fun X _ => by clear hHeld; go_simp⟩) (by assumption) ?_
        simp only [Act.put, pg]
        refine tkH (i := 6) (.pointer (some ⟨g, go + k * 4, none⟩)) rfl (Or.inl ⟨by rfl, fun X _ => by clear hHeld; go_simp⟩) (by assumption) ?_
        simp only [Act.put, pg]
        refine wpAnyH_ready (rs := [7]) (by kernel_rfl) (by simp) ?_
        refine AllReadyH.cons (o := _) rfl (fun K hK => ?_) (AllReadyH.nil)
        rw [if_pos (by rfl)]
        simp only [pg3]
        have HK := hH hK
        clear hK hHeld
        go_wp2_with (go_at_call 137; refine HCALL.out.mono ?_; rintro e X' ⟨rfl, hd⟩; have HD := hH hd; clear hd)
        refine HK.out _ _ (HMK.out _ _ HD.out) (fun hHeld => ?_)
        clear HK hHeld
        refine wpAnyH_done (by kernel_rfl) ?_ _
        clear w0 w3 wd wu wl hLu
        go_wp2_with fail
        exact ⟨⟨k + 1, HLT.out, by go_num, hH (by rw [HTK.out, ← List.append_assoc]; exact HD.out)⟩, by have := HLT.out; simp [intOf]; omega⟩
      · have hkn : k = n := by omega
        subst hkn
        have HN := hH HT.out.2.2.1
        clear hlt hL hl2
        go_wp2_with fail
        go_end0
        refine ⟨rfl, ?_⟩
        have := hr.out
        rw [qp k u.kids (by rw [HN.out]; exact Nat.le_refl _)] at this
        simpa [idT, List.append_assoc] using this
   · rw [if_pos (by rfl)]
     simp only [pg3]
     have HK := hH hK
     clear hK hHeld
     go_wp2_with fail
     rw [← HYE.out]
     refine HK.out _ _ HSS.out.1 (fun hHeld => ?_)
     clear HK
     refine wpAnyH_ready (rs := [0]) (by kernel_rfl) (by simp) ?_
     refine AllReadyH.cons (o := _) rfl (fun K hK => ?_) (AllReadyH.nil)
     rw [if_pos (by rfl)]
     simp only [pg3]
     have HK := hH hK
     clear hK hHeld
     have hl1 := HL1.out
     go_wp2_with fail
     refine HK.out _ _ HSS.out.1 (fun hHeld => ?_)
     clear HK hl1
     refine wpAnyH_ready (rs := [6]) (by kernel_rfl) (by simp) ?_
     refine AllReadyH.cons (o := _) rfl (fun K hK => ?_) (AllReadyH.nil)
     refine yA rfl (.tmp 6) (.tmp 11) 30 30 rfl (.slice a ln c) (.slice (some ⟨X.heap.size, 0, none⟩) 1 1) (by simp [Act.eval, Act.put]) (by simp [Act.eval, Act.put]) HRUN.out (hK _ _ HSS.out.2.1 (fun hHeld => ?_))
     clear hK
     refine wpAnyH_ready (rs := [7]) (by kernel_rfl) (by simp) ?_
     refine AllReadyH.cons (o := _) rfl (fun K hK => ?_) (AllReadyH.nil)
     rw [if_pos (by rfl)]
     simp only [pg3]
     have HK := hH hK
     clear hK hHeld
     obtain ⟨hzl0, hzf⟩ := HZ.out
     go_wp2_with fail
     rw [← HVE.out]
     refine HK.out _ _ HSS.out.2.2 (fun hHeld => ?_)
     clear HK hHeld hzl0 hzf hl0
     refine wpAnyH_done (by kernel_rfl) ?_ _
     go_wp2_with fail
     go_loopw [5] (fun i wr => ∃ k : Nat, k ≤ n ∧ i = .int .i64 (k : Int) ∧ Hid (Zw W LB UB DB up (l ++ [u.id] ++ idF (zC k u.kids)) wr)) (fun i _ => n - (intOf i).toNat)
     case atStart => exact ⟨0, Nat.zero_le _, rfl, hH (by
      have e : zC 0 u.kids = .nil := by cases u.kids <;> rfl
      rw [e]; simpa [idF] using HA.out)⟩
     case round =>
      obtain ⟨k, hk, rfl, hr⟩ := hrel
      obtain ⟨wo, hwo⟩ : ∃ wo, wo = wr := ⟨_, rfl⟩
      subst hwo
      obtain ⟨w0, w3, wd, wu⟩ := HCELL.out _ _ hr.out
      obtain ⟨a2, c2, hl2, _⟩ := hr.out.row
      obtain ⟨L, hL⟩ : ∃ L, L = (l ++ [u.id] ++ idF (zC k u.kids)).length := ⟨_, rfl⟩
      rw [← hL] at hl2
      have wl : wo.cell? ⟨LB, 0, none⟩ = some (.slice a2 L c2) := by rw [cell_of_row _ _ 0 _ _ _ hl2]; rfl
      by_cases hlt : k < n
      · obtain ⟨hb, hkk, hn, hkc, hle, hM, hln⟩ := HT.out
        obtain ⟨b0, o0, key, ll, rr, hd, g, go, na, nc, hka, hSg, q0, q1, q2, q3, qc, qk⟩ := hkk.at k (by omega)
        have hkid : jy u.kids k = some ⟨key.1, key.2.1, key.2.2, ll⟩ := by rw [jy, hd]; rfl
        have hksz := kV hkid
        have htk := kK u.kids k _ hkid
        have hlen : L = l.length + 1 + ze (zC k u.kids) := by rw [hL]; simp [yC]; omega
        have hfs : ze (zC (k + 1) u.kids) = ze (zC k u.kids) + ze ll + 1 := by
         have := congrArg List.length htk
         rw [List.length_append, yC, yC, vD] at this
         simp only at this; omega
        have hfl : ∀ (j : Nat) (f : Fo), ze (zC j f) ≤ ze f := by
         intro j
         induction j with
         | zero => intro f; cases f <;> simp [zC, ze]
         | succ j ih => intro f; cases f with
           | nil => simp [zC, ze]
           | node _ _ _ l r => have := ih r; simp only [zC, ze]; omega
        have hfk := hfl (k + 1) u.kids
        have hLu : (L : Int) < up := by omega
        have hkl : (k : Int) < (n : Int) := by omega
        have hk0 : (0 : Int) ≤ (k : Int) := by omega
        have hk6 : (k : Int) ≤ 1000000 := by have := yG u.kids; omega
        have hnode : Qe W S ⟨key.1, key.2.1, key.2.2, ll⟩ g (go + k * 4) := ⟨hSg, q0, q1, q2, na, nc, q3, qc, qk⟩
        have hcall := HIH.out wo.drew (l ++ [u.id] ++ idF (zC k u.kids)) ⟨key.1, key.2.1, key.2.2, ll⟩ g (go + k * 4) (by simp only; omega) hnode ⟨hr.out.row, hr.out.below, hr.out.size, hr.out.os, hr.out.tape, hr.out.output⟩ (by rw [← hL]; simp only; omega)
        subst hka
        have HCALL := hH hcall
        have HLT := hH hlt
        have HTK := hH htk
        obtain ⟨S4, hS4⟩ : ∃ S4 : World → Prop, S4 = fun Y => Y.cell? ⟨DB, 0, none⟩ = some (.func (.func 137) #[] #[.pointer (some ⟨LB, 0, none⟩), .pointer (some ⟨UB, 0, none⟩), .pointer (some ⟨DB, 0, none⟩)]) ∧ Y.cell? ⟨b, off + 3, none⟩ = some (.slice (some ⟨g, go, none⟩) n kc) := ⟨_, rfl⟩
        have HS4 := hH (fun (Y : World) (h : S4 Y) => (show Y.cell? ⟨DB, 0, none⟩ = some (.func (.func 137) #[] #[.pointer (some ⟨LB, 0, none⟩), .pointer (some ⟨UB, 0, none⟩), .pointer (some ⟨DB, 0, none⟩)]) ∧ Y.cell? ⟨b, off + 3, none⟩ = some (.slice (some ⟨g, go, none⟩) n kc) by rw [hS4] at h; exact h))
        have HMK := hH (fun (Y : World) (m : List Int) (h : Zw W LB UB DB up m Y) => (show S4 Y by rw [hS4]; exact ⟨(HCELL.out Y m h).2.2.1, (HCELL.out Y m h).2.1⟩))
        have hS0 : S4 wo.drew := by rw [hS4]; exact ⟨wd, w3⟩
        clear hb hkk hn hkc hle hM hln hd hSg q0 q1 q2 q3 qc qk hkid hksz htk hlen hfs hfl hfk hnode hcall hlt hS4 hl2 hL
        go_wp2_with fail
        refine wp_region_held_drew (S := S4) (by kernel_rfl) hS0 (fun hHeld => ?_)
        clear hS0
        refine tkH (i := 0) (.func (.func 137) #[] #[.pointer (some ⟨LB, 0, none⟩), .pointer (some ⟨UB, 0, none⟩), .pointer (some ⟨DB, 0, none⟩)]) rfl (Or.inl ⟨by rfl, ?_⟩) (by assumption) ?_
        · clear hHeld; intro X hSw; obtain ⟨s0, s1⟩ := HS4.out X hSw; clear hSw; go_simp
        simp only [Act.put, pg]
        refine tkH (i := 1) (.pointer (some ⟨b, off, none⟩)) rfl (Or.inl ⟨by rfl, fun X _ => by clear hHeld; go_simp⟩) (by assumption) ?_
        simp only [Act.put, pg]
        refine tkH (i := 2) (.pointer (some ⟨b, off, none⟩)) rfl (Or.inl ⟨by rfl, fun X _ => by clear hHeld; go_simp⟩) (by assumption) ?_
        simp only [Act.put, pg]
        refine tkH (i := 3) (.pointer (some ⟨b, off + 3, none⟩)) rfl (Or.inl ⟨by rfl, fun X _ => by clear hHeld; go_simp⟩) (by assumption) ?_
        simp only [Act.put, pg]
        refine tkH (i := 4) (.slice (some ⟨g, go, none⟩) n kc) rfl (Or.inl ⟨by rfl, ?_⟩) (by assumption) ?_
        · clear hHeld; intro X hSw; obtain ⟨s0, s1⟩ := HS4.out X hSw; clear hSw; go_simp
        simp only [Act.put, pg]
        refine tkH (i := 5) (.int .i64 (k : Int)) rfl (Or.inl ⟨by rfl, fun X _ => by clear hHeld; go_simp⟩) (by assumption) ?_
        simp only [Act.put, pg]
        refine tkH (i := 6) (.pointer (some ⟨g, go + k * 4, none⟩)) rfl (Or.inl ⟨by rfl, fun X _ => by clear hHeld; go_simp⟩) (by assumption) ?_
        simp only [Act.put, pg]
        refine wpAnyH_ready (rs := [7]) (by kernel_rfl) (by simp) ?_
        refine AllReadyH.cons (o := _) rfl (fun K hK => ?_) (AllReadyH.nil)
        rw [if_pos (by rfl)]
        simp only [pg3]
        have HK := hH hK
        clear hK hHeld
        go_wp2_with (go_at_call 137; refine HCALL.out.mono ?_; rintro e X' ⟨rfl, hd⟩; have HD := hH hd; clear hd)
        refine HK.out _ _ (HMK.out _ _ HD.out) (fun hHeld => ?_)
        clear HK hHeld
        refine wpAnyH_done (by kernel_rfl) ?_ _
        clear w0 w3 wd wu wl hLu
        go_wp2_with fail
        exact ⟨⟨k + 1, HLT.out, by go_num, hH (by rw [HTK.out, ← List.append_assoc]; exact HD.out)⟩, by have := HLT.out; simp [intOf]; omega⟩
      · have hkn : k = n := by omega
        subst hkn
        have HN := hH HT.out.2.2.1
        clear hlt hL hl2
        go_wp2_with fail
        go_end0
        refine ⟨rfl, ?_⟩
        have := hr.out
        rw [qp k u.kids (by rw [HN.out]; exact Nat.le_refl _)] at this
        simpa [idT, List.append_assoc] using this
end Go.Proofs.YtchccbfljamjnaaGreat
