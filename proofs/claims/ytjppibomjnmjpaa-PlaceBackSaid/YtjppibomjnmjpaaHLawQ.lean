/-
  What PlacePaths answers: true. No condition but that its arguments lie in memory as they came in.
-/
import Derived.Test.YtjppibomjnmjpaaHAtP
namespace Go.Proofs.Ytjppibomjnmjpaa
open Go.RowKit Go.Shelf
set_option linter.unusedVariables false
set_option linter.unusedSimpArgs false

theorem same_self (w : World) (S1 S2 : Nat → Prop) (v1 v2 : Value) (u : Tr) (h1 : ∀ k, S1 k → k < w.heap.size) (h2 : ∀ k, S2 k → k < w.heap.size) (hf : foLen u.kids ≤ 9223372036854775807 ∧ foFit u.kids) (hv1 : TrAt w S1 v1 u) (hv2 : TrAt w S2 v2 u) :
    Calls Try.prog 24 #[v1, v2] w fun e w' => e = .returned (.bool true) ∧ Below w.heap.size w w' := by
  refine (same_any (foSize u.kids + 1) w S1 S2 v1 v2 u u (Nat.lt_succ_self _) hf h1 h2 hv1 hv2).mono ?_
  rintro e w' ⟨rfl, hb⟩
  rw [sameT_refl]
  exact ⟨rfl, hb⟩
theorem fit_kid {f : Fo} {j : Nat} {u : Tr} (hf : foFit f) (h : kidF f j = some u) : foLen u.kids ≤ 9223372036854775807 ∧ foFit u.kids := by
  obtain ⟨b, o, k, l, r, h1, h2, _⟩ := kidF_lt (kidF_some h)
  rw [h2] at h; cases h
  exact foFit_drop j hf h1
theorem atI_fit : ∀ (l : List Int) (t u : Tr), foLen t.kids ≤ 9223372036854775807 → foFit t.kids → atI t l = some u → foLen u.kids ≤ 9223372036854775807 ∧ foFit u.kids
  | [], t, u, h1, h2, h => by cases h; exact ⟨h1, h2⟩
  | i :: l, t, u, h1, h2, h => by
    simp only [atI] at h
    split at h
    · cases h
    · cases hk : kidF t.kids i.toNat with
      | none => rw [hk] at h; cases h
      | some v => rw [hk] at h; exact atI_fit l v u (fit_kid h2 hk).1 (fit_kid h2 hk).2 h
theorem atI_fitD (l : List Int) (t : Tr) (h1 : foLen t.kids ≤ 9223372036854775807) (h2 : foFit t.kids) : foLen ((atI t l).getD zeroT).kids ≤ 9223372036854775807 ∧ foFit ((atI t l).getD zeroT).kids := by
  cases h : atI t l with
  | none => exact ⟨Nat.zero_le _, True.intro⟩
  | some u => exact atI_fit l t u h1 h2 h
/-- What lies in cells alone. -/
theorem trAt_cells {w : World} {S : Nat → Prop} {v : Value} {t : Tr} (h : TrAt w S v t) : TrAt w (fun x => CellsB w x ∧ S x) v t := by
  obtain ⟨ka, cap, e, hc, hk⟩ := h
  exact ⟨ka, cap, e, hc, foAt_cells hk⟩
def CC (w X : World) (b : Nat) (c0 c1 c2 c3 : Value) : Prop := X.heap[b]? = some (.cells #[c0, c1, c2, c3] 24 (0, 0))
set_option maxRecDepth 100000 in
set_option maxHeartbeats 8000000 in
theorem placePaths_any (w : World) (S : Nat → Prop) (nv : Value) (t : Tr) (a b : Int) (pa : Option Addr) (n pc : Nat) (l : List Int) (hS : ∀ x, S x → x < w.heap.size) (ht : TrAt w S nv t) (hlen : foLen t.kids ≤ 9223372036854775807) (hfit : foFit t.kids) (hp : IntsL w S pa pc l) (hn : n = l.length) :
    Calls Try.prog 4 #[nv, .int .i64 a, .int .i64 b, .slice pa n pc] w (YesB w) := by
  obtain ⟨ka, tc, rfl, hcap, hk⟩ := trAt_cells ht
  obtain ⟨B, hB⟩ : ∃ B, B = w.alloc (.cells #[.int .i64 t.id, .int .i64 t.kind, .string t.text, .slice ka (foLen t.kids) tc] 24) := ⟨_, rfl⟩
  have hb := box_below w (.cells #[.int .i64 t.id, .int .i64 t.kind, .string t.text, .slice ka (foLen t.kids) tc] 24)
  have hbx := heap_alloc_new w (.cells #[.int .i64 t.id, .int .i64 t.kind, .string t.text, .slice ka (foLen t.kids) tc] 24)
  rw [← hB] at hb hbx
  have htr : ∀ X, Below w.heap.size w X → (∀ x, (CellsB w x ∧ S x) → CellsB X x) ∧ TrAt X (fun x => CellsB w x ∧ S x) (.agg #[.int .i64 t.id, .int .i64 t.kind, .string t.text, .slice ka (foLen t.kids) tc]) t := fun X hX => ⟨fun x hx => by
    obtain ⟨⟨cs, ty, fr, hc⟩, _⟩ := hx
    exact ⟨cs, ty, fr, (hX.block x (lt_of_heap hc)).trans hc⟩, ka, tc, rfl, hcap, hk.below hX (fun x hx => hS x hx.2)⟩
  have hpk : ∀ X, Below w.heap.size w X → IntsL X S pa pc l := fun X hX => hp.kept fun y hy => ⟨hy, hX.block y (hS y hy)⟩
  have hgr := great_tree B (fun x => CellsB w x ∧ S x) _ t hlen hfit (fun x hx => ((htr B hb).1 x hx).lt) (htr B hb).2
  obtain ⟨nk, hnk⟩ : ∃ n, n = foLen t.kids := ⟨_, rfl⟩
  rw [← hnk] at hB hbx hgr ⊢
  simp only [← hnk] at htr
  have HC := Lib.hid (And.intro hgr (And.intro hb (And.intro hB hbx)))
  have HT := Lib.hid (And.intro htr (And.intro hpk (And.intro hn hS)))
  have HFT := Lib.hid (And.intro hlen hfit)
  clear hgr hb hB hbx htr hlen hfit hnk hk hcap hS hp hpk hn ht
  go_enter Try.func4, Try.ntmps4
  go_wp2_with fail
  rw [← HC.out.2.2.1]
  refine HC.out.1.mono ?_
  rintro e w2 ⟨g, rfl, hsz, hb2⟩
  have HB := Lib.hid (HC.out.2.1.trans (hb2.mono HC.out.2.1.size))
  have HBX := Lib.hid ((hb2.block _ (lt_of_heap HC.out.2.2.2)).trans HC.out.2.2.2)
  have HG := Lib.hid hsz
  clear hsz hb2
  cases g
  · have hs := HG.out rfl
    have HS4 : Hid (foSize t.kids ≤ 400000) := Lib.hid (by omega)
    clear hs HG
    by_cases hn3 : (3000 : Int) < (n : Int)
    · go_wp2_with fail
      refine (wakes_any w2).mono ?_
      rintro e w3 ⟨rfl, hb3⟩
      have HB3 := Lib.hid (HB.out.trans (hb3.mono HB.out.size))
      clear hb3
      go_wp2_with fail
      go_ret
      exact ⟨rfl, HB3.out⟩
    · have hn3' : n ≤ 3000 := by omega
      have hpt := path_any w2 (fun x => CellsB w x ∧ S x) _ t a (fun x hx => ((HT.out.1 w2 HB.out).1 x hx).lt) (HT.out.1 w2 HB.out).2 HS4.out
      obtain ⟨op, hop⟩ : ∃ op, op = pathT a t := ⟨_, rfl⟩
      rw [← hop] at hpt
      have HPT := Lib.hid hpt
      have HOP := Lib.hid hop
      obtain ⟨c0, c1, c2, c3⟩ := box4 HBX.out
      clear hpt hop
      go_wp2_with fail
      refine HPT.out.mono ?_
      rintro e w3 ⟨pv, rfl, hpo, hb3⟩
      have HB3 := Lib.hid (HB.out.trans (hb3.mono HB.out.size))
      have HBX3 := Lib.hid ((hb3.block _ (lt_of_heap HBX.out)).trans HBX.out)
      obtain ⟨c0, c1, c2, c3⟩ := box4 HBX3.out
      have hrp := rpath_any 500000 w3 (fun x => CellsB w x ∧ S x) _ t a (by have := HS4.out; omega) (by omega) (fun x hx => ((HT.out.1 w3 HB3.out).1 x hx).lt) (HT.out.1 w3 HB3.out).2
      rw [← HOP.out] at hrp
      have HRP := Lib.hid hrp
      have HPO := Lib.hid hpo
      clear hb3 hpo hrp HPT
      go_wp2_with fail
      refine HRP.out.mono ?_
      rintro e w4 ⟨rv, rfl, hro, hb4⟩
      have HB4 := Lib.hid (HB3.out.trans (hb4.mono HB3.out.size))
      have HBX4 := Lib.hid ((hb4.block _ (lt_of_heap HBX3.out)).trans HBX3.out)
      have HPO4 := Lib.hid (owns_kept HPO.out (w' := w4) (fun g cur hc _ => hb4.block g (lt_of_some hc)))
      obtain ⟨c0, c1, c2, c3⟩ := box4 HBX4.out
      have hat := at_any w4 (fun x => CellsB w x ∧ S x) _ t pa n pc l (HT.out.1 w4 HB4.out).1 (HT.out.1 w4 HB4.out).2 HS4.out S (fun x hx => Nat.lt_of_lt_of_le (HT.out.2.2.2 x hx) HB4.out.size) (HT.out.2.1 w4 HB4.out) HT.out.2.2.1 (by omega)
      obtain ⟨oa, hoa⟩ : ∃ oa, oa = atI t l := ⟨_, rfl⟩
      rw [← hoa] at hat
      obtain ⟨u, hu⟩ : ∃ u, u = oa.getD zeroT := ⟨_, rfl⟩
      have hft := atI_fitD l t HFT.out.1 HFT.out.2
      rw [← hoa, ← hu] at hft
      unfold AtC at hat
      rw [← hu] at hat
      have HAT := Lib.hid hat
      have HU := Lib.hid (And.intro hoa (And.intro hu hft))
      have HRO := Lib.hid hro
      clear hb4 hro hat hoa hu hft HRP
      go_wp2_with fail
      refine HAT.out.mono ?_
      rintro e w5 ⟨v1, rfl, ⟨xa, xc, rfl, hxc, hxk⟩, hb5⟩
      obtain ⟨um, hum⟩ : ∃ um, um = foLen u.kids := ⟨_, rfl⟩
      rw [← hum] at hxc ⊢
      obtain ⟨X1, hX1⟩ : ∃ X1, X1 = w5.alloc (.cells #[.int .i64 u.id, .int .i64 u.kind, .string u.text, .slice xa um xc] 24) := ⟨_, rfl⟩
      have hbx1 : Below w5.heap.size w5 X1 := by rw [hX1]; exact box_below _ _
      have hx1 : X1.heap[w5.heap.size]? = some (.cells #[.int .i64 u.id, .int .i64 u.kind, .string u.text, .slice xa um xc] 24 (0, 0)) := by rw [hX1]; exact heap_alloc_new w5 _
      have hb45 : Below w4.heap.size w4 X1 := hb5.trans (hbx1.mono hb5.size)
      have HB5 := Lib.hid (HB4.out.trans (hb45.mono HB4.out.size))
      have HBX5 := Lib.hid ((hb45.block _ (lt_of_heap HBX4.out)).trans HBX4.out)
      have HPO5 := Lib.hid (owns_kept HPO4.out (w' := X1) (fun g cur hc _ => hb45.block g (lt_of_some hc)))
      have HRO5 := Lib.hid (owns_kept HRO.out (w' := X1) (fun g cur hc _ => hb45.block g (lt_of_some hc)))
      have hxk1 := hxk.kept (w' := X1) (S' := fun y => CellsB w5 y) (fun y hy => ⟨hy.1, hbx1.block y hy.1.lt⟩)
      have HX := Lib.hid (And.intro hx1 (And.intro hxk1 (And.intro hxc (And.intro hum hbx1.size))))
      have HXE := Lib.hid hX1
      have HUM := Lib.hid (And.intro hum hxc)
      obtain ⟨c0, c1, c2, c3⟩ := box4 HBX5.out
      have hra := rat_any X1 (fun x => CellsB w x ∧ S x) _ t pa n pc l (fun x hx => ((HT.out.1 X1 HB5.out).1 x hx).lt) (HT.out.1 X1 HB5.out).2 HFT.out.1 HFT.out.2 S (fun x hx => Nat.lt_of_lt_of_le (HT.out.2.2.2 x hx) HB5.out.size) (HT.out.2.1 X1 HB5.out) HT.out.2.2.1 (by omega)
      rw [← HU.out.1] at hra
      unfold RAtC at hra
      rw [← HU.out.2.1] at hra
      have HRA := Lib.hid hra
      clear hb5 hxk hxc hum hbx1 hx1 hb45 hxk1 hra HAT HRO HPO HPO4 hX1
      rw [HXE.out] at c0 c1 c2 c3
      go_wp2_with fail
      rw [← HXE.out]
      refine HRA.out.mono ?_
      rintro e w6 ⟨v2, rfl, ⟨ya, yc, rfl, hyc, hyk⟩, hb6⟩
      rw [← HX.out.2.2.2.1] at hyc ⊢
      obtain ⟨X2, hX2⟩ : ∃ X2, X2 = w6.alloc (.cells #[.int .i64 u.id, .int .i64 u.kind, .string u.text, .slice ya um yc] 24) := ⟨_, rfl⟩
      have hbx2 : Below w6.heap.size w6 X2 := by rw [hX2]; exact box_below _ _
      have hx2 : X2.heap[w6.heap.size]? = some (.cells #[.int .i64 u.id, .int .i64 u.kind, .string u.text, .slice ya um yc] 24 (0, 0)) := by rw [hX2]; exact heap_alloc_new w6 _
      have hb56 : Below X1.heap.size X1 X2 := hb6.trans (hbx2.mono hb6.size)
      have HB6 := Lib.hid (HB5.out.trans (hb56.mono HB5.out.size))
      have HBX6 := Lib.hid ((hb56.block _ (lt_of_heap HBX5.out)).trans HBX5.out)
      have HPO6 := Lib.hid (owns_kept HPO5.out (w' := X2) (fun g cur hc _ => hb56.block g (lt_of_some hc)))
      have HRO6 := Lib.hid (owns_kept HRO5.out (w' := X2) (fun g cur hc _ => hb56.block g (lt_of_some hc)))
      have HX6 := Lib.hid (And.intro ((hb56.block _ (lt_of_heap HX.out.1)).trans HX.out.1) (HX.out.2.1.kept (w' := X2) (S' := fun y => CellsB w5 y) (fun y hy => ⟨hy, hb56.block y (Nat.lt_of_lt_of_le hy.lt HX.out.2.2.2.2)⟩)))
      have HSl : ∀ y, (CellsB w y ∧ S y) → y < w6.heap.size := fun y hy => Nat.lt_of_lt_of_le hy.1.lt (Nat.le_trans HB5.out.size hb6.size)
      have HY := Lib.hid (And.intro hx2 (And.intro (hyk.kept (w' := X2) (S' := fun y => CellsB w y ∧ S y) (fun y hy => ⟨hy, hbx2.block y (HSl y hy)⟩)) (And.intro hyc HSl)))
      have HYE := Lib.hid hX2
      obtain ⟨c0, c1, c2, c3⟩ := box4 HBX6.out
      have hcm := common_any X2 (fun x => CellsB w x ∧ S x) _ t a b (fun x hx => ((HT.out.1 X2 HB6.out).1 x hx).lt) (HT.out.1 X2 HB6.out).2 HS4.out
      obtain ⟨cm, hcmE⟩ : ∃ cm, cm = commonT a b t := ⟨_, rfl⟩
      rw [← hcmE] at hcm
      have HCM := Lib.hid hcm
      have HCME := Lib.hid hcmE
      clear hb6 hyk hyc hbx2 hx2 hb56 HSl hcm hcmE HRA HX HPO5 HRO5 HXE hX2
      rw [HYE.out] at c0 c1 c2 c3
      go_wp2_with fail
      rw [← HYE.out]
      refine HCM.out.mono ?_
      rintro e w7 ⟨rfl, hb7⟩
      have HB7 := Lib.hid (HB6.out.trans (hb7.mono HB6.out.size))
      have HBX7 := Lib.hid ((hb7.block _ (lt_of_heap HBX6.out)).trans HBX6.out)
      have HC7 := Lib.hid hb7
      obtain ⟨c0, c1, c2, c3⟩ := box4 HBX7.out
      have hrc := rcommon_any w7 (fun x => CellsB w x ∧ S x) _ t a b (fun x hx => ((HT.out.1 w7 HB7.out).1 x hx).lt) (HT.out.1 w7 HB7.out).2 HS4.out HFT.out.1 HFT.out.2
      rw [← HCME.out] at hrc
      have HRC := Lib.hid hrc
      clear hb7 hrc HCM
      go_wp2_with fail
      refine HRC.out.mono ?_
      rintro e w8 ⟨rfl, hb8⟩
      have HC8 := Lib.hid (HC7.out.trans (hb8.mono HC7.out.size))
      have HB8 := Lib.hid (HB7.out.trans (hb8.mono HB7.out.size))
      have hpo8 := owns_kept HPO6.out (w' := w8) (fun g cur hc _ => HC8.out.block g (lt_of_some hc))
      have hro8 := owns_kept HRO6.out (w' := w8) (fun g cur hc _ => HC8.out.block g (lt_of_some hc))
      have hle : (natI (op.getD [])).length ≤ 1000000 := by
        rw [natI_length]
        have h9 := HOP.out
        cases op with
        | none => simp
        | some p => have := path_le a t p h9.symm; have := HS4.out; simp only [Option.getD_some]; omega
      have hin := ints_any w8 _ _ pv rv _ _ hpo8 hro8 hle hle
      rw [decide_eq_true rfl] at hin
      have HIN := Lib.hid hin
      clear hb8 hpo8 hro8 hle hin HRC c0 c1 c2 c3
      go_wp2_with fail
      refine HIN.out.mono ?_
      rintro e w9 ⟨rfl, hb9⟩
      have HC9 := Lib.hid (HC8.out.trans (hb9.mono HC8.out.size))
      have HB9 := Lib.hid (HB8.out.trans (hb9.mono HB8.out.size))
      have hx9 := (HC9.out.block _ (lt_of_heap HX6.out.1)).trans HX6.out.1
      have hy9 := (HC9.out.block _ (lt_of_heap HY.out.1)).trans HY.out.1
      obtain ⟨d0, d1, d2, d3⟩ := box4 hx9
      obtain ⟨e0, e1, e2, e3⟩ := box4 hy9
      have hxl : ∀ y, CellsB w5 y → y < w9.heap.size := fun y hy => by
        have h1 := hy.lt
        have h2 := lt_of_heap HX6.out.1
        have h3 := HC9.out.size
        omega
      have hyl : ∀ y, (CellsB w y ∧ S y) → y < w9.heap.size := fun y hy => by
        have h1 := HY.out.2.2.2 y hy
        have h2 := lt_of_heap HY.out.1
        have h3 := HC9.out.size
        omega
      have hsn := same_self w9 (fun y => CellsB w5 y) (fun y => CellsB w y ∧ S y) (.agg #[.int .i64 u.id, .int .i64 u.kind, .string u.text, .slice xa (foLen u.kids) xc]) (.agg #[.int .i64 u.id, .int .i64 u.kind, .string u.text, .slice ya (foLen u.kids) yc]) u hxl hyl HU.out.2.2 ⟨xa, xc, rfl, by rw [← HUM.out.1]; exact HUM.out.2, HX6.out.2.kept (w' := w9) fun y hy => ⟨hy, HC9.out.block y (by have h1 := hy.lt; have h2 := lt_of_heap HX6.out.1; omega)⟩⟩ ⟨ya, yc, rfl, by rw [← HUM.out.1]; exact HY.out.2.2.1, HY.out.2.1.kept (w' := w9) fun y hy => ⟨hy, HC9.out.block y (by have h1 := HY.out.2.2.2 y hy; have h2 := lt_of_heap HY.out.1; omega)⟩⟩
      rw [← HUM.out.1] at hsn
      have HSN := Lib.hid hsn
      clear hb9 hx9 hy9 hxl hyl hsn HIN
      go_wp2_with fail
      refine HSN.out.mono ?_
      rintro e w10 ⟨rfl, hb10⟩
      have HB10 := Lib.hid (HB9.out.trans (hb10.mono HB9.out.size))
      clear hb10 d0 d1 d2 d3 e0 e1 e2 e3 HSN
      go_wp2_with fail
      refine (wakes_any w10).mono ?_
      rintro e w11 ⟨rfl, hb11⟩
      have HB11 := Lib.hid (HB10.out.trans (hb11.mono HB10.out.size))
      clear hb11
      go_wp2_with fail
      go_ret
      exact ⟨rfl, HB11.out⟩
  · clear HT HFT HG
    go_wp2_with fail
    refine (wakes_any w2).mono ?_
    rintro e w3 ⟨rfl, hb3⟩
    have HB3 := Lib.hid (HB.out.trans (hb3.mono HB.out.size))
    clear hb3
    go_wp2_with fail
    go_ret
    exact ⟨rfl, HB3.out⟩
end Go.Proofs.Ytjppibomjnmjpaa
