/-
  .
-/
import Derived.Test.YtgkmmnihaiopaaaInsWQa
import Derived.Test.YtgkmmnihaiopaaaJPgQa
set_option maxRecDepth 100000
set_option maxHeartbeats 40000000
set_option linter.unusedVariables false
set_option linter.unusedSimpArgs false
namespace Go.Proofs.Ytgkmmnihaiopaaa
open Go.RowKit Go.Shelf
def inW (root : Int) (t : Tr) (op id par : Int) : Bool := qH (vU root t) root op id par
theorem JI (w : World) (S : Nat → Prop) (nv : Value) (t : Tr) (root op id par at_ xi xk : Int) (tx xt : ByteArray) (sa : Option Addr) (sn sc : Nat) (hS : ∀ x, S x → zK w x) (ht : zH w S nv t) (hsz : zg t.kids + 1 ≤ 2000) (hd : (idT t).Nodup) (hok : ∀ i ∈ idT t, (Lit.int .i64 i).wf = true) (hw1 : (Lit.int .i64 id).wf = true) (hw2 : (Lit.int .i64 par).wf = true) :
 Calls Try.prog 27 #[nv, .int .i64 root, .agg #[.int .i8 op, .int .i64 id, .int .i64 par, .int .i64 at_, .string tx, .int .i64 xi, .int .i64 xk, .string xt, .slice sa sn sc]] w (Says (inW root t op id par) w) := by
 obtain ⟨ka, tc, rfl, hcap, hk⟩ := ht
 obtain ⟨nk, hnk⟩ : ∃ n, n = foLen t.kids := ⟨_, rfl⟩
 rw [← hnk]
 have hSl : ∀ q, S q → q < w.heap.size := fun q hq => by obtain ⟨_, _, _, h⟩ := hS q hq; exact lt_of_heap h
 obtain ⟨W, hW⟩ : ∃ W, W = zq w [.cells #[.int .i64 t.id, .int .i64 t.kind, .string t.text, .slice ka nk tc] 27, .cells #[.int .i8 op, .int .i64 id, .int .i64 par, .int .i64 at_, .string tx, .int .i64 xi, .int .i64 xk, .string xt, .slice sa sn sc] 49] := ⟨_, rfl⟩
 have hb : Below w.heap.size w W := by rw [hW]; exact zm _ _
 have e0 : W.heap[w.heap.size]? = some (.cells #[.int .i64 t.id, .int .i64 t.kind, .string t.text, .slice ka nk tc] 27 (0, 0)) := by rw [hW]; exact zi _ _ 0 _ rfl
 have e1 : W.heap[w.heap.size + 1]? = some (.cells #[.int .i8 op, .int .i64 id, .int .i64 par, .int .i64 at_, .string tx, .int .i64 xi, .int .i64 xk, .string xt, .slice sa sn sc] 49 (0, 0)) := by rw [hW]; exact zi _ _ 1 _ rfl
 have hcx : ∀ X, Below W.heap.size W X → (X.cell? ⟨w.heap.size, 0, none⟩ = some (.int .i64 t.id) ∧ X.cell? ⟨w.heap.size, 1, none⟩ = some (.int .i64 t.kind) ∧ X.cell? ⟨w.heap.size, 2, none⟩ = some (.string t.text) ∧ X.cell? ⟨w.heap.size, 3, none⟩ = some (.slice ka nk tc)) ∧ X.cell? ⟨w.heap.size + 1, 0, none⟩ = some (.int .i8 op) ∧ X.cell? ⟨w.heap.size + 1, 1, none⟩ = some (.int .i64 id) ∧ X.cell? ⟨w.heap.size + 1, 2, none⟩ = some (.int .i64 par) ∧ X.cell? ⟨w.heap.size + 1, 3, none⟩ = some (.int .i64 at_) ∧ X.cell? ⟨w.heap.size + 1, 4, none⟩ = some (.string tx) ∧ X.cell? ⟨w.heap.size + 1, 5, none⟩ = some (.int .i64 xi) ∧ X.cell? ⟨w.heap.size + 1, 6, none⟩ = some (.int .i64 xk) ∧ X.cell? ⟨w.heap.size + 1, 7, none⟩ = some (.string xt) ∧ X.cell? ⟨w.heap.size + 1, 8, none⟩ = some (.slice sa sn sc) := fun X hX => ⟨zF ((hX.block _ (lt_of_heap e0)).trans e0), Qp ((hX.block _ (lt_of_heap e1)).trans e1)⟩
 have hsub : ∀ X, Below W.heap.size W X → Calls Try.prog 43 #[.agg #[.int .i64 t.id, .int .i64 t.kind, .string t.text, .slice ka nk tc], .int .i64 root] X (zgw X (vU root t)) := fun X hX => by
  have hwX := hb.trans (hX.mono hb.size)
  exact zbE X S _ t root (fun x hx => by obtain ⟨cs, tt, fr, h⟩ := hS x hx; exact ⟨cs, tt, fr, (hwX.block x (lt_of_heap h)).trans h⟩) ⟨ka, tc, by rw [hnk], hcap, hk.below hwX hSl⟩ hsz hd hok
 obtain ⟨l, hl⟩ : ∃ l, l = vU root t := ⟨_, rfl⟩
 rw [← hl] at hsub
 have hr : inW root t op id par = qH l root op id par := by rw [hl]; rfl
 rw [hr]
 obtain ⟨r, hr2⟩ : ∃ r, r = qH l root op id par := ⟨_, rfl⟩
 rw [← hr2]
 have HR := hH (aN hr2 (aN hw1 hw2))
 have HSUB := hH hsub
 have HCX := hH hcx
 have HB := hH hb
 have HW := hH hW
 have hbt : Below W.heap.size W (W.drewN 1) := ⟨rfl, rfl, rfl, Nat.le_refl _, fun _ _ => rfl⟩
 clear hb e0 e1 hcx hsub hl hr hr2 hw1 hw2 hsz hd hok hS hSl hcap hk hnk hW
 go_enter Try.func27, Try.ntmps27
 go_upto_region 1 with fail
 change Code.wp _ _ _ _ (zq w [.cells #[.int .i64 t.id, .int .i64 t.kind, .string t.text, .slice ka nk tc] 27, .cells #[.int .i8 op, .int .i64 id, .int .i64 par, .int .i64 at_, .string tx, .int .i64 xi, .int .i64 xk, .string xt, .slice sa sn sc] 49])
 rw [← HW.out]
 clear HW
 refine wp_region_held_drew (S := fun X => Below W.heap.size W X) (by kernel_rfl) hbt (fun hHeld => ?_)
 clear hbt
 refine tkH (i := 0) (.agg #[.int .i64 t.id, .int .i64 t.kind, .string t.text, .slice ka nk tc]) rfl (Or.inl ⟨by rfl, ?_⟩) (by assumption) ?_
 · clear hHeld; intro X hSw; obtain ⟨⟨b0, b1, b2, b3⟩, a0, a1, a2, a3, a4, a5, a6, a7, a8⟩ := HCX.out X hSw; clear hSw; go_simp
 simp only [Act.put, pg]
 refine tkH (i := 1) (.int .i64 root) rfl (Or.inl ⟨by rfl, ?_⟩) (by assumption) ?_
 · clear hHeld; intro X hSw; obtain ⟨⟨b0, b1, b2, b3⟩, a0, a1, a2, a3, a4, a5, a6, a7, a8⟩ := HCX.out X hSw; clear hSw; go_simp
 simp only [Act.put, pg]
 refine tkH (i := 3) (.int .i64 root) rfl (Or.inl ⟨by rfl, ?_⟩) (by assumption) ?_
 · clear hHeld; intro X hSw; obtain ⟨⟨b0, b1, b2, b3⟩, a0, a1, a2, a3, a4, a5, a6, a7, a8⟩ := HCX.out X hSw; clear hSw; go_simp
 simp only [Act.put, pg]
 refine tkH (i := 4) (.agg #[.int .i8 op, .int .i64 id, .int .i64 par, .int .i64 at_, .string tx, .int .i64 xi, .int .i64 xk, .string xt, .slice sa sn sc]) rfl (Or.inl ⟨by rfl, ?_⟩) (by assumption) ?_
 · clear hHeld; intro X hSw; obtain ⟨⟨b0, b1, b2, b3⟩, a0, a1, a2, a3, a4, a5, a6, a7, a8⟩ := HCX.out X hSw; clear hSw; go_simp
 simp only [Act.put, pg]
 refine wpAnyH_ready (rs := [2]) (by kernel_rfl) (by simp) ?_
 refine AllReadyH.cons (o := _) rfl (fun K hK => ?_) AllReadyH.nil
 rw [if_pos (by rfl)]
 simp only [pg3]
 have HK := hH hK
 have HS := hH hHeld
 clear hK hHeld
 go_wp2_with (go_at_call 43; refine (HSUB.out _ HS.out).mono ?_; rintro e X1 ⟨mb, n, rfl, hm, _, hb1⟩)
 have hS1 := HS.out.trans (hb1.mono HS.out.size)
 have HC2 := hH (aN (zch X1 mb n l root op id par at_ xi xk tx xt sa sn sc hm HR.out.2.1 HR.out.2.2) hS1)
 rw [← HR.out.1] at HC2
 refine HK.out _ _ hS1 (fun hHeld => ?_)
 clear HK HS hS1 hm hb1
 refine wpAnyH_ready (rs := [5]) (by kernel_rfl) (by simp) ?_
 refine AllReadyH.cons (o := _) rfl (fun K hK => ?_) AllReadyH.nil
 rw [if_pos (by rfl)]
 simp only [pg3]
 have HK := hH hK
 have HS := hH hHeld
 clear hK hHeld
 go_wp2_with (go_at_call 42; refine HC2.out.1.mono ?_; rintro e X2 ⟨rfl, hb2⟩)
 have hS2 := HC2.out.2.trans (hb2.mono HC2.out.2.size)
 have HE := hH (HB.out.trans (hS2.mono HB.out.size))
 refine HK.out _ _ hS2 (fun hHeld => ?_)
 clear HK HS hS2 hb2 HC2
 refine tkH (i := 6) (.bool r) rfl (Or.inl ⟨by rfl, ?_⟩) (by assumption) ?_
 · clear hHeld; intro X hSw; obtain ⟨⟨b0, b1, b2, b3⟩, a0, a1, a2, a3, a4, a5, a6, a7, a8⟩ := HCX.out X hSw; clear hSw; go_simp
 simp only [Act.put, pg]
 refine wpAnyH_done (by kernel_rfl) ?_ _
 clear hHeld
 go_wp2_with fail
 go_ret
 exact ⟨rfl, HE.out⟩
def Yb : Tr := ⟨1, 0, ⟨#[]⟩, .node 0 0 (2, 0, ⟨#[]⟩) (.node 0 0 (3, 0, ⟨#[]⟩) .nil .nil) (.node 0 0 (4, 0, ⟨#[]⟩) .nil .nil)⟩
theorem yM (w : World) : Calls Try.prog 16 #[] w (Says true w) := by
 obtain ⟨W, hW⟩ : ∃ W, W = zq w [Obj.cells #[.int .i64 3, .int .i64 0, .string ⟨#[]⟩, .slice none 0 0] 27 (0, 0), Obj.cells #[.int .i64 2, .int .i64 0, .string ⟨#[]⟩, .slice (some ⟨w.heap.size, 0, none⟩) 1 1, .int .i64 4, .int .i64 0, .string ⟨#[]⟩, .slice none 0 0] 27 (0, 0), Obj.cells #[.int .i64 1, .int .i64 0, .string ⟨#[]⟩, .slice (some ⟨w.heap.size + 1, 0, none⟩) 2 2] 27 (0, 0)] := ⟨_, rfl⟩
 have hb : Below w.heap.size w W := by rw [hW]; exact zm _ _
 have h1 : W.heap[w.heap.size]? = some (Obj.cells #[.int .i64 3, .int .i64 0, .string ⟨#[]⟩, .slice none 0 0] 27 (0, 0)) := by rw [hW]; exact zi _ _ 0 _ rfl
 have h2 : W.heap[w.heap.size + 1]? = some (Obj.cells #[.int .i64 2, .int .i64 0, .string ⟨#[]⟩, .slice (some ⟨w.heap.size, 0, none⟩) 1 1, .int .i64 4, .int .i64 0, .string ⟨#[]⟩, .slice none 0 0] 27 (0, 0)) := by rw [hW]; exact zi _ _ 1 _ rfl
 have h3 : W.heap[w.heap.size + 1 + 1]? = some (Obj.cells #[.int .i64 1, .int .i64 0, .string ⟨#[]⟩, .slice (some ⟨w.heap.size + 1, 0, none⟩) 2 2] 27 (0, 0)) := by rw [hW]; exact zi _ _ 2 _ rfl
 have k1 : zC W (fun x => zK W x) (.node 0 0 (3, 0, ⟨#[]⟩) .nil .nil) (some ⟨w.heap.size, 0, none⟩) := by
  refine ⟨_, 0, none, 0, rfl, ⟨_, _, _, h1⟩, ?_, ?_, ?_, ?_, Nat.le_refl _, True.intro, True.intro⟩
  · rw [cell_of_row _ _ 0 _ _ _ h1]; rfl
  · rw [cell_of_row _ _ 1 _ _ _ h1]; rfl
  · rw [cell_of_row _ _ 2 _ _ _ h1]; rfl
  · rw [cell_of_row _ _ 3 _ _ _ h1]; rfl
 have k2 : zC W (fun x => zK W x) Yb.kids (some ⟨w.heap.size + 1, 0, none⟩) := by
  refine ⟨_, 0, some ⟨w.heap.size, 0, none⟩, 1, rfl, ⟨_, _, _, h2⟩, ?_, ?_, ?_, ?_, Nat.le_refl _, k1, _, 4, none, 0, rfl, ⟨_, _, _, h2⟩, ?_, ?_, ?_, ?_, Nat.le_refl _, True.intro, True.intro⟩
  · rw [cell_of_row _ _ 0 _ _ _ h2]; rfl
  · rw [cell_of_row _ _ 1 _ _ _ h2]; rfl
  · rw [cell_of_row _ _ 2 _ _ _ h2]; rfl
  · rw [cell_of_row _ _ 3 _ _ _ h2]; rfl
  · rw [cell_of_row _ _ 4 _ _ _ h2]; rfl
  · rw [cell_of_row _ _ 5 _ _ _ h2]; rfl
  · rw [cell_of_row _ _ 6 _ _ _ h2]; rfl
  · rw [cell_of_row _ _ 7 _ _ _ h2]; rfl
 have hc : ∀ (X : World), Below W.heap.size W X → ∀ op id par : Int, (Lit.int .i64 id).wf = true → (Lit.int .i64 par).wf = true → Calls Try.prog 27 #[.agg #[.int .i64 1, .int .i64 0, .string ⟨#[]⟩, .slice (some ⟨w.heap.size + 1, 0, none⟩) 2 2], .int .i64 2, .agg #[.int .i8 op, .int .i64 id, .int .i64 par, .int .i64 0, .string ⟨#[]⟩, .int .i64 0, .int .i64 0, .string ⟨#[]⟩, .slice none 0 0]] X (Says (inW 2 Yb op id par) X) := fun X hX op id par a1 a2 =>
  JI X (fun x => zK X x) _ Yb 2 op id par 0 0 0 ⟨#[]⟩ ⟨#[]⟩ none 0 0 (fun x hx => hx) ⟨some ⟨w.heap.size + 1, 0, none⟩, 2, rfl, Nat.le_refl _, k2.kept fun q hq => by obtain ⟨cs, tt, fr, h⟩ := hq; exact ⟨⟨cs, tt, fr, (hX.block q (lt_of_heap h)).trans h⟩, hX.block q (lt_of_heap h)⟩⟩ (by decide) (by decide) (by decide) a1 a2
 have H0 : Hid (∀ X, Below W.heap.size W X → Calls Try.prog 27 #[.agg #[.int .i64 1, .int .i64 0, .string ⟨#[]⟩, .slice (some ⟨w.heap.size + 1, 0, none⟩) 2 2], .int .i64 2, .agg #[.int .i8 4, .int .i64 2, .int .i64 0, .int .i64 0, .string ⟨#[]⟩, .int .i64 0, .int .i64 0, .string ⟨#[]⟩, .slice none 0 0]] X (Says true X)) := hH fun X hX => by have := hc X hX 4 2 0 (by decide) (by decide); rwa [show inW 2 Yb 4 2 0 = true by decide] at this
 have H1 : Hid (∀ X, Below W.heap.size W X → Calls Try.prog 27 #[.agg #[.int .i64 1, .int .i64 0, .string ⟨#[]⟩, .slice (some ⟨w.heap.size + 1, 0, none⟩) 2 2], .int .i64 2, .agg #[.int .i8 1, .int .i64 0, .int .i64 3, .int .i64 0, .string ⟨#[]⟩, .int .i64 0, .int .i64 0, .string ⟨#[]⟩, .slice none 0 0]] X (Says true X)) := hH fun X hX => by have := hc X hX 1 0 3 (by decide) (by decide); rwa [show inW 2 Yb 1 0 3 = true by decide] at this
 have H2 : Hid (∀ X, Below W.heap.size W X → Calls Try.prog 27 #[.agg #[.int .i64 1, .int .i64 0, .string ⟨#[]⟩, .slice (some ⟨w.heap.size + 1, 0, none⟩) 2 2], .int .i64 2, .agg #[.int .i8 2, .int .i64 3, .int .i64 0, .int .i64 0, .string ⟨#[]⟩, .int .i64 0, .int .i64 0, .string ⟨#[]⟩, .slice none 0 0]] X (Says true X)) := hH fun X hX => by have := hc X hX 2 3 0 (by decide) (by decide); rwa [show inW 2 Yb 2 3 0 = true by decide] at this
 have H3 : Hid (∀ X, Below W.heap.size W X → Calls Try.prog 27 #[.agg #[.int .i64 1, .int .i64 0, .string ⟨#[]⟩, .slice (some ⟨w.heap.size + 1, 0, none⟩) 2 2], .int .i64 2, .agg #[.int .i8 2, .int .i64 2, .int .i64 0, .int .i64 0, .string ⟨#[]⟩, .int .i64 0, .int .i64 0, .string ⟨#[]⟩, .slice none 0 0]] X (Says false X)) := hH fun X hX => by have := hc X hX 2 2 0 (by decide) (by decide); rwa [show inW 2 Yb 2 2 0 = false by decide] at this
 have H4 : Hid (∀ X, Below W.heap.size W X → Calls Try.prog 27 #[.agg #[.int .i64 1, .int .i64 0, .string ⟨#[]⟩, .slice (some ⟨w.heap.size + 1, 0, none⟩) 2 2], .int .i64 2, .agg #[.int .i8 3, .int .i64 3, .int .i64 4, .int .i64 0, .string ⟨#[]⟩, .int .i64 0, .int .i64 0, .string ⟨#[]⟩, .slice none 0 0]] X (Says false X)) := hH fun X hX => by have := hc X hX 3 3 4 (by decide) (by decide); rwa [show inW 2 Yb 3 3 4 = false by decide] at this
 have H5 : Hid (∀ X, Below W.heap.size W X → Calls Try.prog 27 #[.agg #[.int .i64 1, .int .i64 0, .string ⟨#[]⟩, .slice (some ⟨w.heap.size + 1, 0, none⟩) 2 2], .int .i64 2, .agg #[.int .i8 4, .int .i64 1, .int .i64 0, .int .i64 0, .string ⟨#[]⟩, .int .i64 0, .int .i64 0, .string ⟨#[]⟩, .slice none 0 0]] X (Says false X)) := hH fun X hX => by have := hc X hX 4 1 0 (by decide) (by decide); rwa [show inW 2 Yb 4 1 0 = false by decide] at this
 have HB := hH (aN hb h3)
 have HW := hH hW
 clear hb h1 h2 h3 k1 k2 hc hW
 go_enter Try.func16, Try.ntmps16
 go_upto_region 2 with fail
 change Code.wp _ _ _ _ (zq w [Obj.cells #[.int .i64 3, .int .i64 0, .string ⟨#[]⟩, .slice none 0 0] 27 (0, 0), Obj.cells #[.int .i64 2, .int .i64 0, .string ⟨#[]⟩, .slice (some ⟨w.heap.size, 0, none⟩) 1 1, .int .i64 4, .int .i64 0, .string ⟨#[]⟩, .slice none 0 0] 27 (0, 0), Obj.cells #[.int .i64 1, .int .i64 0, .string ⟨#[]⟩, .slice (some ⟨w.heap.size + 1, 0, none⟩) 2 2] 27 (0, 0)])
 rw [← HW.out]
 clear HW
 obtain ⟨p0, p1, p2, p3⟩ := zF HB.out.2
 go_wp2_with fail
 refine (H0.out W (Below.refl _ _)).mono ?_
 rintro e X0 ⟨rfl, hb0⟩
 clear p0 p1 p2 p3
 have HX0 := hH (show Below W.heap.size W X0 from hb0)
 clear hb0
 obtain ⟨p0, p1, p2, p3⟩ := zF ((HX0.out.block _ (lt_of_heap HB.out.2)).trans HB.out.2)
 go_wp2_with fail
 refine (H1.out X0 (HX0.out)).mono ?_
 rintro e X1 ⟨rfl, hb1⟩
 clear p0 p1 p2 p3
 have HX1 := hH (show Below W.heap.size W X1 from (HX0.out).trans (hb1.mono (HX0.out).size))
 clear hb1
 obtain ⟨p0, p1, p2, p3⟩ := zF ((HX1.out.block _ (lt_of_heap HB.out.2)).trans HB.out.2)
 go_wp2_with fail
 refine (H2.out X1 (HX1.out)).mono ?_
 rintro e X2 ⟨rfl, hb2⟩
 clear p0 p1 p2 p3
 have HX2 := hH (show Below W.heap.size W X2 from (HX1.out).trans (hb2.mono (HX1.out).size))
 clear hb2
 obtain ⟨p0, p1, p2, p3⟩ := zF ((HX2.out.block _ (lt_of_heap HB.out.2)).trans HB.out.2)
 go_wp2_with fail
 refine (H3.out X2 (HX2.out)).mono ?_
 rintro e X3 ⟨rfl, hb3⟩
 clear p0 p1 p2 p3
 have HX3 := hH (show Below W.heap.size W X3 from (HX2.out).trans (hb3.mono (HX2.out).size))
 clear hb3
 obtain ⟨p0, p1, p2, p3⟩ := zF ((HX3.out.block _ (lt_of_heap HB.out.2)).trans HB.out.2)
 go_wp2_with fail
 refine (H4.out X3 (HX3.out)).mono ?_
 rintro e X4 ⟨rfl, hb4⟩
 clear p0 p1 p2 p3
 have HX4 := hH (show Below W.heap.size W X4 from (HX3.out).trans (hb4.mono (HX3.out).size))
 clear hb4
 obtain ⟨p0, p1, p2, p3⟩ := zF ((HX4.out.block _ (lt_of_heap HB.out.2)).trans HB.out.2)
 go_wp2_with fail
 refine (H5.out X4 (HX4.out)).mono ?_
 rintro e X5 ⟨rfl, hb5⟩
 clear p0 p1 p2 p3
 have HX5 := hH (show Below W.heap.size W X5 from (HX4.out).trans (hb5.mono (HX4.out).size))
 clear hb5
 obtain ⟨p0, p1, p2, p3⟩ := zF ((HX5.out.block _ (lt_of_heap HB.out.2)).trans HB.out.2)
 go_wp2_with fail
 go_ret
 exact ⟨rfl, HB.out.1.trans (HX5.out.mono HB.out.1.size)⟩
end Go.Proofs.Ytgkmmnihaiopaaa
