/-
  What PlacePuts answers: true. No condition but that its arguments lie in memory as they came in.
-/
import Derived.Test.YtjppibomjnmjpaaHRPuts
import Derived.Test.YtjppibomjnmjpaaHLawQ
import Derived.Test.YtjppibomjnmjpaaEOpen
namespace Go.Proofs.Ytjppibomjnmjpaa
open Go.RowKit Go.Shelf
set_option linter.unusedVariables false
set_option linter.unusedSimpArgs false

theorem foFit_size : ∀ f : Fo, foSize f ≤ 9223372036854775807 → foFit f
  | .nil, _ => True.intro
  | .node _ _ _ l r, h => by
    have h1 := foLen_le l
    simp only [foSize] at h
    exact ⟨by omega, foFit_size l (by omega), foFit_size r (by omega)⟩
theorem putR_size (id : Int) (t x : Tr) : foSize (putR id t x).1.kids ≤ foSize t.kids + foSize x.kids := by
  unfold putR
  cases pathT id t with
  | none => simp [zeroT, foSize]
  | some p => exact putP_size p t x
set_option maxRecDepth 100000 in
set_option maxHeartbeats 8000000 in
theorem placePuts_any (w : World) (S : Nat → Prop) (nv xv : Value) (t x : Tr) (id : Int) (hS : ∀ y, S y → y < w.heap.size) (ht : TrAt w S nv t) (hx : TrAt w S xv x) (hlen : foLen t.kids ≤ 9223372036854775807) (hfit : foFit t.kids) (hxlen : foLen x.kids ≤ 9223372036854775807) (hxfit : foFit x.kids) :
    Calls Try.prog 5 #[nv, xv, .int .i64 id] w (YesB w) := by
  obtain ⟨ka, tc, rfl, hcap, hk⟩ := trAt_cells ht
  obtain ⟨xa, xc, rfl, hxcap, hxk⟩ := trAt_cells hx
  obtain ⟨nk, hnk⟩ : ∃ n, n = foLen t.kids := ⟨_, rfl⟩
  obtain ⟨xn, hxn⟩ : ∃ n, n = foLen x.kids := ⟨_, rfl⟩
  obtain ⟨B, hB⟩ : ∃ B, B = (w.alloc (.cells #[.int .i64 t.id, .int .i64 t.kind, .string t.text, .slice ka nk tc] 24)).alloc (.cells #[.int .i64 x.id, .int .i64 x.kind, .string x.text, .slice xa xn xc] 24) := ⟨_, rfl⟩
  have hb : Below w.heap.size w B := by rw [hB]; exact two_boxes _ _ _
  have hbt : B.heap[w.heap.size]? = some (.cells #[.int .i64 t.id, .int .i64 t.kind, .string t.text, .slice ka nk tc] 24 (0, 0)) := by rw [hB]; exact heap_alloc2_old _ _ _
  have hbx : B.heap[w.heap.size + 1]? = some (.cells #[.int .i64 x.id, .int .i64 x.kind, .string x.text, .slice xa xn xc] 24 (0, 0)) := by rw [hB]; exact heap_alloc2_new _ _ _
  have hcl : ∀ X, Below w.heap.size w X → ∀ y, (CellsB w y ∧ S y) → CellsB X y := fun X hX y hy => by
    obtain ⟨⟨cs, ty, fr, hc⟩, _⟩ := hy
    exact ⟨cs, ty, fr, (hX.block y (lt_of_heap hc)).trans hc⟩
  have htr : ∀ X, Below w.heap.size w X → TrAt X (fun z => CellsB w z ∧ S z) (.agg #[.int .i64 t.id, .int .i64 t.kind, .string t.text, .slice ka nk tc]) t := fun X hX => ⟨ka, tc, by rw [hnk], hcap, hk.below hX (fun y hy => hS y hy.2)⟩
  have hxr : ∀ X, Below w.heap.size w X → TrAt X (fun z => CellsB w z ∧ S z) (.agg #[.int .i64 x.id, .int .i64 x.kind, .string x.text, .slice xa xn xc]) x := fun X hX => ⟨xa, xc, by rw [hxn], hxcap, hxk.below hX (fun y hy => hS y hy.2)⟩
  have hgr := great_tree B (fun z => CellsB w z ∧ S z) _ t hlen hfit (fun y hy => (hcl B hb y hy).lt) (htr B hb)
  rw [← hnk, ← hxn]
  have HG1 := Lib.hid hgr
  have HC := Lib.hid (And.intro hb (And.intro hB (And.intro hbt hbx)))
  have HT := Lib.hid (And.intro hcl (And.intro htr hxr))
  have HF := Lib.hid (And.intro hlen (And.intro hfit (And.intro hxlen hxfit)))
  clear hgr hb hB hbt hbx hcl htr hxr hlen hfit hxlen hxfit hnk hxn hk hcap hxk hxcap hS ht hx
  go_enter Try.func5, Try.ntmps5
  go_wp2_with fail
  rw [← HC.out.2.1]
  refine HG1.out.mono ?_
  rintro e w2 ⟨g, rfl, hsz, hb2⟩
  have HB := Lib.hid (HC.out.1.trans (hb2.mono HC.out.1.size))
  have HBT := Lib.hid ((hb2.block _ (lt_of_heap HC.out.2.2.1)).trans HC.out.2.2.1)
  have HBX := Lib.hid ((hb2.block _ (lt_of_heap HC.out.2.2.2)).trans HC.out.2.2.2)
  have HG := Lib.hid hsz
  clear hsz hb2 HG1
  cases g
  · have hs := HG.out rfl
    have HS4 : Hid (foSize t.kids ≤ 100000) := Lib.hid (by omega)
    have hgr := great_tree w2 (fun z => CellsB w z ∧ S z) _ x HF.out.2.2.1 HF.out.2.2.2 (fun y hy => (HT.out.1 w2 HB.out y hy).lt) (HT.out.2.2 w2 HB.out)
    have HG2 := Lib.hid hgr
    obtain ⟨x0, x1, x2, x3⟩ := box4 HBX.out
    clear hs HG hgr
    go_wp2_with fail
    refine HG2.out.mono ?_
    rintro e w3 ⟨g, rfl, hsz, hb3⟩
    have HB3 := Lib.hid (HB.out.trans (hb3.mono HB.out.size))
    have HBT3 := Lib.hid ((hb3.block _ (lt_of_heap HBT.out)).trans HBT.out)
    have HBX3 := Lib.hid ((hb3.block _ (lt_of_heap HBX.out)).trans HBX.out)
    have HG := Lib.hid hsz
    clear hsz hb3 HG2 x0 x1 x2 x3
    cases g
    · have hs := HG.out rfl
      have HX4 : Hid (foSize x.kids ≤ 100000) := Lib.hid (by omega)
      have hput := put_any w3 (fun z => CellsB w z ∧ S z) (fun z => CellsB w z ∧ S z) _ _ t x id (HT.out.1 w3 HB3.out) (HT.out.1 w3 HB3.out) (HT.out.2.1 w3 HB3.out) (HT.out.2.2 w3 HB3.out) (by have := HS4.out; have := HX4.out; omega)
      obtain ⟨pr, hpr⟩ : ∃ pr, pr = putR id t x := ⟨_, rfl⟩
      rw [← hpr] at hput
      have hps := putR_size id t x
      rw [← hpr] at hps
      have HPR := Lib.hid (And.intro hpr (show foSize pr.1.kids ≤ 200000 from by have := HS4.out; have := HX4.out; omega))
      have HPUT := Lib.hid hput
      obtain ⟨c0, c1, c2, c3⟩ := box4 HBT3.out
      obtain ⟨x0, x1, x2, x3⟩ := box4 HBX3.out
      clear hs HG hput hpr hps
      go_wp2_with fail
      refine HPUT.out.mono ?_
      rintro e w5 ⟨v1, rfl, ⟨ya, yc, rfl, hyc, hyk⟩, hb5⟩
      obtain ⟨u, hu⟩ : ∃ u, u = pr.1 := ⟨_, rfl⟩
      rw [← hu] at hyc hyk ⊢
      obtain ⟨um, hum⟩ : ∃ um, um = foLen u.kids := ⟨_, rfl⟩
      rw [← hum] at hyc ⊢
      obtain ⟨X1, hX1⟩ : ∃ X1, X1 = w5.alloc (.cells #[.int .i64 u.id, .int .i64 u.kind, .string u.text, .slice ya um yc] 24) := ⟨_, rfl⟩
      have hbx1 : Below w5.heap.size w5 X1 := by rw [hX1]; exact box_below _ _
      have hx1 : X1.heap[w5.heap.size]? = some (.cells #[.int .i64 u.id, .int .i64 u.kind, .string u.text, .slice ya um yc] 24 (0, 0)) := by rw [hX1]; exact heap_alloc_new w5 _
      have hb35 : Below w3.heap.size w3 X1 := hb5.trans (hbx1.mono hb5.size)
      have HB5 := Lib.hid (HB3.out.trans (hb35.mono HB3.out.size))
      have HBT5 := Lib.hid ((hb35.block _ (lt_of_heap HBT3.out)).trans HBT3.out)
      have HBX5 := Lib.hid ((hb35.block _ (lt_of_heap HBX3.out)).trans HBX3.out)
      have HY := Lib.hid (And.intro hx1 (And.intro (hyk.kept (w' := X1) (S' := fun y => y < w5.heap.size) (fun y hy => ⟨hy, hbx1.block y hy⟩)) (And.intro hyc (And.intro hum (And.intro hbx1.size hu)))))
      have HXE := Lib.hid hX1
      have hrp := rputA_any X1 (fun z => CellsB w z ∧ S z) (fun z => CellsB w z ∧ S z) _ _ t x id (HT.out.1 X1 HB5.out) (HT.out.1 X1 HB5.out) (HT.out.2.1 X1 HB5.out) (HT.out.2.2 X1 HB5.out) (by have := HS4.out; have := HX4.out; omega)
      rw [← HPR.out.1] at hrp
      unfold PutC at hrp
      rw [← hu] at hrp
      have HRP := Lib.hid hrp
      obtain ⟨c0, c1, c2, c3⟩ := box4 HBT5.out
      obtain ⟨x0, x1, x2, x3⟩ := box4 HBX5.out
      clear hb5 hyk hyc hum hu hbx1 hx1 hb35 hX1 hrp HPUT
      rw [HXE.out] at c0 c1 c2 c3 x0 x1 x2 x3
      go_wp2_with fail
      rw [← HXE.out]
      refine HRP.out.mono ?_
      rintro e w6 ⟨v2, rfl, ⟨za, zc, rfl, hzc, hzk⟩, hb6⟩
      rw [← HY.out.2.2.2.1] at hzc ⊢
      obtain ⟨X2, hX2⟩ : ∃ X2, X2 = w6.alloc (.cells #[.int .i64 u.id, .int .i64 u.kind, .string u.text, .slice za um zc] 24) := ⟨_, rfl⟩
      have hbx2 : Below w6.heap.size w6 X2 := by rw [hX2]; exact box_below _ _
      have hx2 : X2.heap[w6.heap.size]? = some (.cells #[.int .i64 u.id, .int .i64 u.kind, .string u.text, .slice za um zc] 24 (0, 0)) := by rw [hX2]; exact heap_alloc_new w6 _
      have hb56 : Below X1.heap.size X1 X2 := hb6.trans (hbx2.mono hb6.size)
      have HB6 := Lib.hid (HB5.out.trans (hb56.mono HB5.out.size))
      have hy6 := (hb56.block _ (lt_of_heap HY.out.1)).trans HY.out.1
      have hyk6 := HY.out.2.1.kept (w' := X2) (S' := fun y => y < w5.heap.size) (fun y hy => ⟨hy, hb56.block y (by have := HY.out.2.2.2.2.1; omega)⟩)
      have hzk6 := hzk.kept (w' := X2) (S' := fun y => y < w6.heap.size) (fun y hy => ⟨hy, hbx2.block y hy⟩)
      have hfu : foLen u.kids ≤ 9223372036854775807 ∧ foFit u.kids := by
        have h1 := HPR.out.2
        rw [← HY.out.2.2.2.2.2] at h1
        have h2 := foLen_le u.kids
        exact ⟨by omega, foFit_size _ (by omega)⟩
      have hsn := same_self X2 (fun y => y < w5.heap.size) (fun y => y < w6.heap.size) (.agg #[.int .i64 u.id, .int .i64 u.kind, .string u.text, .slice ya (foLen u.kids) yc]) (.agg #[.int .i64 u.id, .int .i64 u.kind, .string u.text, .slice za (foLen u.kids) zc]) u (fun y hy => by have := HY.out.2.2.2.2.1; have := hb56.size; omega) (fun y hy => by have := hbx2.size; omega) hfu ⟨ya, yc, rfl, by rw [← HY.out.2.2.2.1]; exact HY.out.2.2.1, hyk6⟩ ⟨za, zc, rfl, by rw [← HY.out.2.2.2.1]; exact hzc, hzk6⟩
      rw [← HY.out.2.2.2.1] at hsn
      have HSN := Lib.hid hsn
      have HXE2 := Lib.hid hX2
      obtain ⟨d0, d1, d2, d3⟩ := box4 hy6
      obtain ⟨e0, e1, e2, e3⟩ := box4 hx2
      obtain ⟨er, her⟩ : ∃ er, er = pr.2 := ⟨_, rfl⟩
      rw [← her]
      clear hb6 hzk hzc hbx2 hx2 hb56 hy6 hyk6 hzk6 hfu hsn hX2 her HRP HY c0 c1 c2 c3 x0 x1 x2 x3
      rw [HXE2.out] at d0 d1 d2 d3 e0 e1 e2 e3
      go_wp2_with fail
      rw [← HXE2.out]
      refine HSN.out.mono ?_
      rintro e w10 ⟨rfl, hb10⟩
      have HB10 := Lib.hid (HB6.out.trans (hb10.mono HB6.out.size))
      clear hb10 d0 d1 d2 d3 e0 e1 e2 e3 HSN
      go_wp2_with fail
      refine (wakes_any w10).mono ?_
      rintro e w11 ⟨rfl, hb11⟩
      have HB11 := Lib.hid (HB10.out.trans (hb11.mono HB10.out.size))
      clear hb11
      go_wp2_with fail
      go_ret
      exact ⟨rfl, HB11.out⟩
    · clear HT HF HG
      go_wp2_with fail
      refine (wakes_any w3).mono ?_
      rintro e w4 ⟨rfl, hb4⟩
      have HB4 := Lib.hid (HB3.out.trans (hb4.mono HB3.out.size))
      clear hb4
      go_wp2_with fail
      go_ret
      exact ⟨rfl, HB4.out⟩
  · clear HT HF HG
    go_wp2_with fail
    refine (wakes_any w2).mono ?_
    rintro e w4 ⟨rfl, hb4⟩
    have HB4 := Lib.hid (HB.out.trans (hb4.mono HB.out.size))
    clear hb4
    go_wp2_with fail
    go_ret
    exact ⟨rfl, HB4.out⟩
theorem puts_fr (w : World) (nv : Value) (t : Tr) (xv : Value) (x : Tr) (id : Int) (ht : TrAt w (Old w) nv t) (hft : Fits t) (hx : TrAt w (Old w) xv x) (hfx : Fits x) : Calls Try.prog 5 #[nv, xv, .int .i64 id] w fun e w' => e = .returned (.bool true) ∧ Below w.heap.size w w' :=
  placePuts_any w (Old w) nv xv t x id (fun _ h => h) ht hx hft.1 hft.2 hfx.1 hfx.2
end Go.Proofs.Ytjppibomjnmjpaa
