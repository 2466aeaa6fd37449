/-
  What TreeWalks answers: true. No condition but that its arguments lie in memory as they came in.
-/
import Derived.Test.YtbbiemnjidfglaaDoorELawC
import Derived.Test.YtbbiemnjidfglaaDoorEIds
import Derived.Test.YtbbiemnjidfglaaDoorEWalks
import Derived.Test.YtbbiemnjidfglaaDoorRFind
namespace Go.Proofs.YtbbiemnjidfglaaDoor
open Go.RowKit Go.Shelf
attribute [local go_sem] Oper.semAt_some
attribute [local go_sem] seq_nil
set_option linter.unusedVariables false
set_option linter.unusedSimpArgs false

theorem box_cells {w : World} {b : Nat} {c0 c1 c2 c3 : Value} (h : w.heap[b]? = some (.cells #[c0, c1, c2, c3] 24 (0, 0))) : w.cell? ⟨b, 0, none⟩ = some c0 ∧ w.cell? ⟨b, 1, none⟩ = some c1 ∧ w.cell? ⟨b, 2, none⟩ = some c2 ∧ w.cell? ⟨b, 3, none⟩ = some c3 :=
  ⟨by rw [cell_of_row _ _ 0 _ _ _ h]; rfl, by rw [cell_of_row _ _ 1 _ _ _ h]; rfl, by rw [cell_of_row _ _ 2 _ _ _ h]; rfl, by rw [cell_of_row _ _ 3 _ _ _ h]; rfl⟩
theorem box_alloc {w : World} {b : Nat} {c0 c1 c2 c3 : Value} (o : Obj) (h : w.heap[b]? = some (.cells #[c0, c1, c2, c3] 24 (0, 0))) : (w.alloc o).cell? ⟨b, 0, none⟩ = some c0 ∧ (w.alloc o).cell? ⟨b, 1, none⟩ = some c1 ∧ (w.alloc o).cell? ⟨b, 2, none⟩ = some c2 ∧ (w.alloc o).cell? ⟨b, 3, none⟩ = some c3 :=
  box_cells ((Below.heap_alloc w o b (lt_of_heap h)).trans h)
theorem findS_fit (t : Tr) (id : Int) (hlen : foLen t.kids ≤ 9223372036854775807) (hfit : foFit t.kids) : foLen ((((findS id (spF 1 (rootF t))).map trOfS).getD zeroT).kids) ≤ 9223372036854775807 ∧ foFit ((((findS id (spF 1 (rootF t))).map trOfS).getD zeroT).kids) ∧ foSize ((((findS id (spF 1 (rootF t))).map trOfS).getD zeroT).kids) ≤ foSize t.kids := by
  cases h : findS id (spF 1 (rootF t)) with
  | none => exact ⟨Nat.zero_le _, True.intro, Nat.zero_le _⟩
  | some x =>
    have hm : x ∈ spF 1 (rootF t) := List.mem_of_find?_eq_some h
    have h1 := spF_fit 1 (rootF t) ⟨hlen, hfit, True.intro⟩ x hm
    have h2 := spF_size0 1 (rootF t) x hm
    rw [rootF_size] at h2
    exact ⟨h1.1, h1.2, by show foSize x.2.2 ≤ _; omega⟩
set_option maxRecDepth 100000 in
set_option maxHeartbeats 4000000 in
theorem treeWalks_any (w : World) (S : Nat → Prop) (nv : Value) (t : Tr) (id leave : Int) (hS : ∀ x, S x → CellsB w x) (ht : TrAt w S nv t) (htab : Tab w) (hlen : foLen t.kids ≤ 9223372036854775807) (hfit : foFit t.kids) :
    Calls Tryd.prog 3 #[nv, .int .i64 id, .int .i64 leave] w (YesB w) := by
  have ht0 := ht
  obtain ⟨ka, cap, rfl, hcap, hk⟩ := ht
  obtain ⟨n, hn⟩ : ∃ n, n = foLen t.kids := ⟨_, rfl⟩
  rw [← hn] at ht0 ⊢
  obtain ⟨ob, hob⟩ : ∃ ob, ob = Obj.cells #[.int .i64 t.id, .int .i64 t.kind, .string t.text, .slice ka n cap] 24 (0, 0) := ⟨_, rfl⟩
  have hb1 : Below w.heap.size w (w.alloc ob) := (Below.refl _ _).alloc (Nat.le_refl _) _
  have hgr := great_tree (w.alloc ob) S _ t hlen hfit (fun x hx => by have := (hS x hx).lt; rw [World.size_alloc]; omega) (ht0.kept fun x hx => ⟨hx, hb1.block x (hS x hx).lt⟩)
  rw [hob] at hgr hb1
  have hbx := heap_alloc_new w (.cells #[.int .i64 t.id, .int .i64 t.kind, .string t.text, .slice ka n cap] 24)
  have HG := Lib.hid (And.intro hgr (And.intro hb1 hbx))
  have H := Lib.hid (And.intro hS (And.intro ht0 (And.intro htab (And.intro hn (And.intro hlen hfit)))))
  clear hn hgr hb1 hbx hS ht0 htab hlen hfit hcap hk hob ob
  refine (callsIn_wide (n := 12)).1 ?_
  refine callsIn_of_wp_marks Tryd.func3 rfl trivial ?_ rfl
  simp only [Tryd.ntmps3, List.size_toArray, List.length_cons, List.length_nil, Nat.reduceAdd, Nat.reduceSub, Array.replicate_succ, Array.replicate_zero, List.push_toArray, List.append_toArray, List.nil_append, List.cons_append]
  gi_wp2_with fail
  refine ⟨trivial, ?_⟩
  gi_at_call 6
  refine (callsIn_wide.2 HG.out.1).mono ?_
  rintro e w2 ⟨b, rfl, hsz, hb2⟩
  have HB2 := Lib.hid (And.intro (show Below w.heap.size w w2 from HG.out.2.1.trans (hb2.mono HG.out.2.1.size)) ((hb2.block w.heap.size (lt_of_heap HG.out.2.2)).trans HG.out.2.2))
  have HSZ := Lib.hid hsz
  clear hb2 hsz HG
  cases b
  · have hsz5 := HSZ.out rfl
    have hb1 := HB2.out.1
    have hcl : ∀ x, S x → CellsB w2 x := fun x hx => by
      obtain ⟨cs, ty, fr, hc⟩ := H.out.1 x hx
      exact ⟨cs, ty, fr, (hb1.block x (lt_of_heap hc)).trans hc⟩
    have htr : TrAt w2 S (.agg #[.int .i64 t.id, .int .i64 t.kind, .string t.text, .slice ka n cap]) t := H.out.2.1.kept fun x hx => ⟨hx, hb1.block x (H.out.1 x hx).lt⟩
    obtain ⟨f, hf⟩ : ∃ f, f = (findS id (spF 1 (rootF t))).isSome := ⟨_, rfl⟩
    obtain ⟨u, hu⟩ : ∃ u, u = ((findS id (spF 1 (rootF t))).map trOfS).getD zeroT := ⟨_, rfl⟩
    have hfd := find_any w2 S _ t id hcl htr (by omega)
    unfold FindC at hfd
    rw [← hf, ← hu] at hfd
    have hfs := findS_fit t id H.out.2.2.2.2.1 H.out.2.2.2.2.2
    rw [← hu] at hfs
    obtain ⟨m, hm⟩ : ∃ m, m = foLen u.kids := ⟨_, rfl⟩
    have HFD := Lib.hid hfd
    have HU := Lib.hid (And.intro hf (And.intro hu (And.intro hm hfs)))
    have HT2 := Lib.hid (And.intro hcl (And.intro htr hsz5))
    obtain ⟨bc0, bc1, bc2, bc3⟩ := box_cells HB2.out.2
    have hwl : w.heap.size < w2.heap.size := lt_of_heap HB2.out.2
    have HM := Lib.hid hm
    clear hsz5 hb1 hcl htr HSZ hfd hfs hf hu hm
    gi_wp2_with fail
    refine ⟨trivial, ?_⟩
    gi_at_call 8
    refine (callsIn_wide.2 HFD.out).mono ?_
    rintro e w3 ⟨v1, rfl, ⟨ya, yc, rfl, hyc, hyk⟩, hb3⟩
    rw [← HM.out] at hyc ⊢
    have h3x := (hb3.block w.heap.size hwl).trans HB2.out.2
    obtain ⟨bd0, bd1, bd2, bd3⟩ := box_alloc (.cells #[.int .i64 u.id, .int .i64 u.kind, .string u.text, .slice ya m yc] 24) h3x
    have h3l : w2.heap.size ≤ w3.heap.size := hb3.size
    have hb3a : Below w2.heap.size w2 (w3.alloc (.cells #[.int .i64 u.id, .int .i64 u.kind, .string u.text, .slice ya m yc] 24)) := hb3.alloc h3l _
    have hrf := rfind_any (w3.alloc (.cells #[.int .i64 u.id, .int .i64 u.kind, .string u.text, .slice ya m yc] 24)) S (.agg #[.int .i64 t.id, .int .i64 t.kind, .string t.text, .slice ka n cap]) t id (by have := HT2.out.2.2; omega) (fun x hx => Nat.lt_of_lt_of_le (HT2.out.1 x hx).lt hb3a.size) (HT2.out.2.1.kept fun x hx => ⟨hx, hb3a.block x (HT2.out.1 x hx).lt⟩)
    unfold RFindC at hrf
    rw [← HU.out.1, ← HU.out.2.1] at hrf
    have HRF := Lib.hid hrf
    have h4x := heap_alloc_new w3 (.cells #[.int .i64 u.id, .int .i64 u.kind, .string u.text, .slice ya m yc] 24)
    have HF3 := Lib.hid (And.intro hyc (And.intro hyk (And.intro hb3a (And.intro h3x (And.intro h4x hb3)))))
    clear hyc hyk hb3 h3x hb3a hrf h4x
    gi_wp2_with fail
    refine ⟨trivial, ?_⟩
    gi_at_call 9
    refine (callsIn_wide.2 HRF.out).mono ?_
    rintro e w4 ⟨v2, rfl, ⟨za, zc, rfl, hzc, hzk⟩, hb4⟩
    rw [← HM.out] at hzc ⊢
    have HF4 := Lib.hid (And.intro hzc (And.intro hzk hb4))
    have hs4 : w3.heap.size + 1 ≤ w4.heap.size := by have := hb4.size; rw [World.size_alloc] at this; exact this
    have h4b : w4.heap[w.heap.size]? = _ := (hb4.block _ (by rw [World.size_alloc]; omega)).trans ((Below.heap_alloc _ _ _ (lt_of_heap HF3.out.2.2.2.1)).trans HF3.out.2.2.2.1)
    have h4c : w4.heap[w3.heap.size]? = _ := (hb4.block _ (by rw [World.size_alloc]; omega)).trans HF3.out.2.2.2.2.1
    clear hzc hzk hb4 bc0 bc1 bc2 bc3 bd0 bd1 bd2 bd3 HFD HRF
    gi_wp2_with fail
    obtain ⟨V, hV⟩ : ∃ V, V = w4.alloc (.cells #[.int .i64 u.id, .int .i64 u.kind, .string u.text, .slice za m zc] 24) := ⟨_, rfl⟩
    have hV4 : Below w4.heap.size w4 V := by rw [hV]; exact (Below.refl _ w4).alloc (Nat.le_refl _) _
    have kx : V.heap[w.heap.size]? = some (.cells #[.int .i64 t.id, .int .i64 t.kind, .string t.text, .slice ka n cap] 24 (0, 0)) := (hV4.block _ (lt_of_heap h4b)).trans h4b
    have ky : V.heap[w3.heap.size]? = some (.cells #[.int .i64 u.id, .int .i64 u.kind, .string u.text, .slice ya m yc] 24 (0, 0)) := (hV4.block _ (lt_of_heap h4c)).trans h4c
    have kz : V.heap[w4.heap.size]? = some (.cells #[.int .i64 u.id, .int .i64 u.kind, .string u.text, .slice za m zc] 24 (0, 0)) := by rw [hV]; exact heap_alloc_new w4 _
    rw [← hV]
    have hs3 := HF3.out.2.2.2.2.2.size
    have hk3 : ∀ y, y < w3.heap.size → V.heap[y]? = w3.heap[y]? := fun y hy => by
      rw [hV4.block y (by omega), HF4.out.2.2.block y (by rw [World.size_alloc]; omega), Below.heap_alloc _ _ _ hy]
    have hk2 : ∀ y, y < w2.heap.size → V.heap[y]? = w2.heap[y]? := fun y hy => (hk3 y (by omega)).trans (HF3.out.2.2.2.2.2.block y hy)
    have hwV : Below w.heap.size w V := by
      have h1 := HB2.out.1.trans (HF3.out.2.2.1.mono (Nat.le_of_lt hwl))
      have h2 := h1.trans (HF4.out.2.2.mono h1.size)
      exact h2.trans (hV4.mono h2.size)
    have htV : TrAt V S (.agg #[.int .i64 t.id, .int .i64 t.kind, .string t.text, .slice ka n cap]) t := HT2.out.2.1.kept fun x hx => ⟨hx, hk2 x (HT2.out.1 x hx).lt⟩
    have hcV : ∀ x, S x → CellsB V x := fun x hx => by
      obtain ⟨cs, ty, fr, hc⟩ := HT2.out.1 x hx
      exact ⟨cs, ty, fr, (hk2 x (lt_of_heap hc)).trans hc⟩
    have hyV : TrAt V (fun x => CellsB w3 x ∧ (S x ∨ w2.heap.size ≤ x)) (.agg #[.int .i64 u.id, .int .i64 u.kind, .string u.text, .slice ya m yc]) u := ⟨ya, yc, by rw [HM.out], by rw [← HM.out]; exact HF3.out.1, HF3.out.2.1.kept fun x hx => ⟨hx, hk3 x hx.1.lt⟩⟩
    have hzV : TrAt V S (.agg #[.int .i64 u.id, .int .i64 u.kind, .string u.text, .slice za m zc]) u := ⟨za, zc, by rw [HM.out], by rw [← HM.out]; exact HF4.out.1, HF4.out.2.1.kept fun x hx => ⟨hx, hV4.block x (by have := (HT2.out.1 x hx).lt; omega)⟩⟩
    have hsz := HT2.out.2.2
    have hln : (idsL (spF 1 (rootF t))).length ≤ 1000000 := by rw [idsL, List.length_map, spF_length, rootF_size]; omega
    have HLN := Lib.hid hln
    have hsV4 : w4.heap.size ≤ V.heap.size := hV4.size
    obtain ⟨SX, hSX⟩ : ∃ SX : World → Prop, SX = fun X => Below V.heap.size V X := ⟨_, rfl⟩
    have HSx : ∀ X, SX X → X.cell? ⟨w.heap.size, 0, none⟩ = some (.int .i64 t.id) ∧ X.cell? ⟨w.heap.size, 1, none⟩ = some (.int .i64 t.kind) ∧ X.cell? ⟨w.heap.size, 2, none⟩ = some (.string t.text) ∧ X.cell? ⟨w.heap.size, 3, none⟩ = some (.slice ka n cap) ∧
        X.cell? ⟨w3.heap.size, 0, none⟩ = some (.int .i64 u.id) ∧ X.cell? ⟨w3.heap.size, 1, none⟩ = some (.int .i64 u.kind) ∧ X.cell? ⟨w3.heap.size, 2, none⟩ = some (.string u.text) ∧ X.cell? ⟨w3.heap.size, 3, none⟩ = some (.slice ya m yc) ∧
        X.cell? ⟨w4.heap.size, 0, none⟩ = some (.int .i64 u.id) ∧ X.cell? ⟨w4.heap.size, 1, none⟩ = some (.int .i64 u.kind) ∧ X.cell? ⟨w4.heap.size, 2, none⟩ = some (.string u.text) ∧ X.cell? ⟨w4.heap.size, 3, none⟩ = some (.slice za m zc) := fun X h => by
      rw [hSX] at h
      obtain ⟨x0, x1, x2, x3⟩ := box_cells ((h.block _ (lt_of_heap kx)).trans kx)
      obtain ⟨y0, y1, y2, y3⟩ := box_cells ((h.block _ (lt_of_heap ky)).trans ky)
      obtain ⟨z0, z1, z2, z3⟩ := box_cells ((h.block _ (lt_of_heap kz)).trans kz)
      exact ⟨x0, x1, x2, x3, y0, y1, y2, y3, z0, z1, z2, z3⟩
    have hS0 : SX V.drew := by rw [hSX]; exact ⟨rfl, rfl, rfl, Nat.le_refl _, fun _ _ => rfl⟩
    have HSB := Lib.hid (fun (X Y : World) (h : SX X) (hb : Below X.heap.size X Y) => (show SX Y by rw [hSX] at h ⊢; exact h.trans (hb.mono h.size)))
    have htX : ∀ X, SX X → TrAt X S (.agg #[.int .i64 t.id, .int .i64 t.kind, .string t.text, .slice ka n cap]) t ∧ (∀ x, S x → CellsB X x) ∧ ∀ x, S x → x < X.heap.size := fun X h => by
      rw [hSX] at h
      have hc : ∀ x, S x → CellsB X x := fun x hx => by
        obtain ⟨cs, ty, fr, hc⟩ := hcV x hx
        exact ⟨cs, ty, fr, (h.block x (lt_of_heap hc)).trans hc⟩
      exact ⟨htV.kept fun x hx => ⟨hx, h.block x (hcV x hx).lt⟩, hc, fun x hx => (hc x hx).lt⟩
    have HSN : Hid (∀ X, SX X → Calls Tryd.prog 10 #[.agg #[.int .i64 u.id, .int .i64 u.kind, .string u.text, .slice ya m yc], .agg #[.int .i64 u.id, .int .i64 u.kind, .string u.text, .slice za m zc]] X (SameC u u X)) := Lib.hid fun X h => by
      have hx := (htX X h).2.2
      rw [hSX] at h
      have hs := h.size
      exact same_any 5000 X (fun x => CellsB w3 x ∧ (S x ∨ w2.heap.size ≤ x)) S _ _ u u (by have := HU.out.2.2.2.2.2; omega) ⟨HU.out.2.2.2.1, HU.out.2.2.2.2.1⟩ (fun x hx => by have := hx.1.lt; omega) hx (hyV.kept fun x hx => ⟨hx, h.block x (by have := hx.1.lt; omega)⟩) (hzV.kept fun x hx => ⟨hx, h.block x (hcV x hx).lt⟩)
    have HID : Hid (∀ X, SX X → Calls Tryd.prog 12 #[.agg #[.int .i64 t.id, .int .i64 t.kind, .string t.text, .slice ka n cap]] X (IntsC X (idsL (spF 1 (rootF t))))) := Lib.hid fun X h => ids_any X S _ t (htX X h).2.2 (htX X h).1 (by omega)
    have HRI : Hid (∀ X, SX X → Calls Tryd.prog 13 #[.agg #[.int .i64 t.id, .int .i64 t.kind, .string t.text, .slice ka n cap]] X (IntsC X (idsL (spF 1 (rootF t))))) := Lib.hid fun X h => rids_any X S _ t (by omega) (htX X h).2.2 (htX X h).1
    have HWN : Hid (∀ X, SX X → Calls Tryd.prog 15 #[.agg #[.int .i64 t.id, .int .i64 t.kind, .string t.text, .slice ka n cap], .int .i64 3000] X (WalkN X S t)) := Lib.hid fun X h => walkN_any 3000 (by omega) X S _ t (by omega) (by omega) (htX X h).2.2 (htX X h).1
    have HWS : Hid (∀ X, SX X → ∀ B lv, SpotsN S X B lv (foSize t.kids + 1) (spF 1 (rootF t)) → Calls Tryd.prog 14 #[.agg #[.int .i64 t.id, .int .i64 t.kind, .string t.text, .slice ka n cap], lv, .int .i64 leave] X (TrueB X)) := Lib.hid fun X h B lv hsp => walks_any X S S _ t B lv leave (htX X h).2.1 (htX X h).1 hsz hsp (htX X h).2.1 H.out.2.2.2.2.2
    have HWK : Hid (∀ X, SX X → Calls Tryd.prog 7 #[] X fun e w' => e = .returned (.bool true) ∧ Below X.heap.size X w') := Lib.hid fun X h => wakes_any X (H.out.2.2.1.below (by rw [hSX] at h; exact hwV.trans (h.mono hwV.size)))
    have HFIN : Hid (∀ X, SX X → Below w.heap.size w X) := Lib.hid fun X h => by
      rw [hSX] at h
      exact hwV.trans (h.mono hwV.size)
    clear hSX htX htV hcV hyV hzV kx ky kz hV hV4 h4b h4c hk3 hk2 hwV hs3 hs4 hsz hln h3l hwl hsV4 HF3 HF4 HT2 HU HM H HB2
    refine region_calm (S := SX) (by kernel_rfl) ?_
    have hHeld := hS0
    clear hS0
    refine anyIn_take (i := 0) (oi := _) (v := (.bool f)) rfl (by kernel_rfl) (by kernel_rfl) (by kernel_rfl) (fun _ _ _ h => by cases h.1) (Or.inl ⟨by rfl, ?_⟩) hHeld ?_
    · clear hHeld; intro X hSw; clear hSw; go_simp
    simp only [Act.put, List.getElem_toArray, List.getElem_cons_zero, List.getElem_cons_succ, List.setIfInBounds_toArray, List.set_cons_zero, List.set_cons_succ]
    refine anyIn_take (i := 1) (oi := _) (v := (.bool f)) rfl (by kernel_rfl) (by kernel_rfl) (by kernel_rfl) (fun _ _ _ h => by cases h.1) (Or.inl ⟨by rfl, ?_⟩) hHeld ?_
    · clear hHeld; intro X hSw; clear hSw; go_simp
    simp only [Act.put, List.getElem_toArray, List.getElem_cons_zero, List.getElem_cons_succ, List.setIfInBounds_toArray, List.set_cons_zero, List.set_cons_succ]
    refine anyIn_take (i := 2) (oi := _) (v := (.bool true)) rfl (by kernel_rfl) (by kernel_rfl) (by kernel_rfl) (fun _ _ _ h => by cases h.1) (Or.inl ⟨by rfl, ?_⟩) hHeld ?_
    · clear hHeld; intro X hSw; clear hSw; go_simp
    simp only [Act.put, List.getElem_toArray, List.getElem_cons_zero, List.getElem_cons_succ, List.setIfInBounds_toArray, List.set_cons_zero, List.set_cons_succ]
    refine anyIn_take (i := 3) (oi := _) (v := (.bool true)) rfl (by kernel_rfl) (by kernel_rfl) (by kernel_rfl) (fun _ _ _ h => by cases h.1) (Or.inl ⟨by rfl, ?_⟩) hHeld ?_
    · clear hHeld; intro X hSw; clear hSw; go_simp
    simp only [Act.put, List.getElem_toArray, List.getElem_cons_zero, List.getElem_cons_succ, List.setIfInBounds_toArray, List.set_cons_zero, List.set_cons_succ]
    refine anyIn_take (i := 4) (oi := _) (v := (.agg #[.int .i64 u.id, .int .i64 u.kind, .string u.text, .slice ya m yc])) rfl (by kernel_rfl) (by kernel_rfl) (by kernel_rfl) (fun _ _ _ h => by cases h.1) (Or.inl ⟨by rfl, ?_⟩) hHeld ?_
    · clear hHeld; intro X hSw; obtain ⟨s0, s1, s2, s3, s4, s5, s6, s7, s8, s9, s10, s11⟩ := HSx X hSw; clear hSw; go_simp
    simp only [Act.put, List.getElem_toArray, List.getElem_cons_zero, List.getElem_cons_succ, List.setIfInBounds_toArray, List.set_cons_zero, List.set_cons_succ]
    refine anyIn_take (i := 5) (oi := _) (v := (.agg #[.int .i64 u.id, .int .i64 u.kind, .string u.text, .slice za m zc])) rfl (by kernel_rfl) (by kernel_rfl) (by kernel_rfl) (fun _ _ _ h => by cases h.1) (Or.inl ⟨by rfl, ?_⟩) hHeld ?_
    · clear hHeld; intro X hSw; obtain ⟨s0, s1, s2, s3, s4, s5, s6, s7, s8, s9, s10, s11⟩ := HSx X hSw; clear hSw; go_simp
    simp only [Act.put, List.getElem_toArray, List.getElem_cons_zero, List.getElem_cons_succ, List.setIfInBounds_toArray, List.set_cons_zero, List.set_cons_succ]
    refine anyIn_one (i := 6) (o := _) (by kernel_rfl) rfl fun K6 hK6 => ?_
    rw [if_pos (by rfl)]
    simp only [List.getElem_toArray, List.getElem_cons_zero, List.getElem_cons_succ]
    have HK6 := Lib.hid hK6
    have HH6 := Lib.hid hHeld
    clear hK6 hHeld
    gi_wp2_with (refine ⟨trivial, ?_⟩; gi_at_call 10; refine (callsIn_wide.2 (HSN.out _ HH6.out)).mono ?_; rintro e X6 ⟨rfl, hb⟩; rw [sameT_refl]; have HX6 := Lib.hid hb; clear hb)
    have hHeld := HSB.out _ X6 HH6.out HX6.out
    refine HK6.out _ _ hHeld ?_
    clear HK6
    refine anyIn_take (i := 7) (oi := _) (v := (.bool true)) rfl (by kernel_rfl) (by kernel_rfl) (by kernel_rfl) (fun _ _ _ h => by cases h.1) (Or.inl ⟨by rfl, ?_⟩) hHeld ?_
    · clear hHeld; intro X hSw; clear hSw; go_simp
    simp only [Act.put, List.getElem_toArray, List.getElem_cons_zero, List.getElem_cons_succ, List.setIfInBounds_toArray, List.set_cons_zero, List.set_cons_succ]
    refine anyIn_take (i := 8) (oi := _) (v := (.bool true)) rfl (by kernel_rfl) (by kernel_rfl) (by kernel_rfl) (fun _ _ _ h => by cases h.1) (Or.inl ⟨by rfl, ?_⟩) hHeld ?_
    · clear hHeld; intro X hSw; clear hSw; go_simp
    simp only [Act.put, List.getElem_toArray, List.getElem_cons_zero, List.getElem_cons_succ, List.setIfInBounds_toArray, List.set_cons_zero, List.set_cons_succ]
    refine anyIn_take (i := 9) (oi := _) (v := (.agg #[.int .i64 t.id, .int .i64 t.kind, .string t.text, .slice ka n cap])) rfl (by kernel_rfl) (by kernel_rfl) (by kernel_rfl) (fun _ _ _ h => by cases h.1) (Or.inl ⟨by rfl, ?_⟩) hHeld ?_
    · clear hHeld; intro X hSw; obtain ⟨s0, s1, s2, s3, s4, s5, s6, s7, s8, s9, s10, s11⟩ := HSx X hSw; clear hSw; go_simp
    simp only [Act.put, List.getElem_toArray, List.getElem_cons_zero, List.getElem_cons_succ, List.setIfInBounds_toArray, List.set_cons_zero, List.set_cons_succ]
    refine anyIn_take (i := 11) (oi := _) (v := (.agg #[.int .i64 t.id, .int .i64 t.kind, .string t.text, .slice ka n cap])) rfl (by kernel_rfl) (by kernel_rfl) (by kernel_rfl) (fun _ _ _ h => by cases h.1) (Or.inl ⟨by rfl, ?_⟩) hHeld ?_
    · clear hHeld; intro X hSw; obtain ⟨s0, s1, s2, s3, s4, s5, s6, s7, s8, s9, s10, s11⟩ := HSx X hSw; clear hSw; go_simp
    simp only [Act.put, List.getElem_toArray, List.getElem_cons_zero, List.getElem_cons_succ, List.setIfInBounds_toArray, List.set_cons_zero, List.set_cons_succ]
    refine anyIn_one (i := 10) (o := _) (by kernel_rfl) rfl fun K10 hK10 => ?_
    rw [if_pos (by rfl)]
    simp only [List.getElem_toArray, List.getElem_cons_zero, List.getElem_cons_succ]
    have HK10 := Lib.hid hK10
    have HH10 := Lib.hid hHeld
    clear hK10 hHeld
    gi_wp2_with (refine ⟨trivial, ?_⟩; gi_at_call 12; refine (callsIn_wide.2 (HID.out _ HH10.out)).mono ?_; rintro e X10 ⟨v3, rfl, ho3, hb⟩; have HX10 := Lib.hid (And.intro ho3 hb); clear ho3 hb)
    have hHeld := HSB.out _ X10 HH10.out HX10.out.2
    refine HK10.out _ _ hHeld ?_
    clear HK10
    refine anyIn_one (i := 12) (o := _) (by kernel_rfl) rfl fun K12 hK12 => ?_
    rw [if_pos (by rfl)]
    simp only [List.getElem_toArray, List.getElem_cons_zero, List.getElem_cons_succ]
    have HK12 := Lib.hid hK12
    have HH12 := Lib.hid hHeld
    clear hK12 hHeld
    gi_wp2_with (refine ⟨trivial, ?_⟩; gi_at_call 13; refine (callsIn_wide.2 (HRI.out _ HH12.out)).mono ?_; rintro e X12 ⟨v4, rfl, ho4, hb⟩; have HX12 := Lib.hid (And.intro ho4 hb); clear ho4 hb)
    have hHeld := HSB.out _ X12 HH12.out HX12.out.2
    refine HK12.out _ _ hHeld ?_
    clear HK12
    refine anyIn_one (i := 13) (o := _) (by kernel_rfl) rfl fun K13 hK13 => ?_
    rw [if_pos (by rfl)]
    simp only [List.getElem_toArray, List.getElem_cons_zero, List.getElem_cons_succ]
    have HK13 := Lib.hid hK13
    have HH13 := Lib.hid hHeld
    clear hK13 hHeld
    gi_wp2_with (refine ⟨trivial, ?_⟩; gi_at_call 11; refine (callsIn_wide.2 (ints_any X12 _ _ v3 v4 _ _ (owns_kept HX10.out.1 (fun g cur hc hg => HX12.out.2.block g (lt_of_heap hc))) HX12.out.1 HLN.out HLN.out)).mono ?_; rintro e X13 ⟨rfl, hb⟩; rw [decide_eq_true rfl]; have HX13 := Lib.hid hb; clear hb)
    have hHeld := HSB.out _ X13 HH13.out HX13.out
    refine HK13.out _ _ hHeld ?_
    clear HK13
    refine anyIn_take (i := 14) (oi := _) (v := (.bool true)) rfl (by kernel_rfl) (by kernel_rfl) (by kernel_rfl) (fun _ _ _ h => by cases h.1) (Or.inl ⟨by rfl, ?_⟩) hHeld ?_
    · clear hHeld; intro X hSw; clear hSw; go_simp
    simp only [Act.put, List.getElem_toArray, List.getElem_cons_zero, List.getElem_cons_succ, List.setIfInBounds_toArray, List.set_cons_zero, List.set_cons_succ]
    refine anyIn_take (i := 15) (oi := _) (v := (.bool true)) rfl (by kernel_rfl) (by kernel_rfl) (by kernel_rfl) (fun _ _ _ h => by cases h.1) (Or.inl ⟨by rfl, ?_⟩) hHeld ?_
    · clear hHeld; intro X hSw; clear hSw; go_simp
    simp only [Act.put, List.getElem_toArray, List.getElem_cons_zero, List.getElem_cons_succ, List.setIfInBounds_toArray, List.set_cons_zero, List.set_cons_succ]
    refine anyIn_take (i := 16) (oi := _) (v := (.agg #[.int .i64 t.id, .int .i64 t.kind, .string t.text, .slice ka n cap])) rfl (by kernel_rfl) (by kernel_rfl) (by kernel_rfl) (fun _ _ _ h => by cases h.1) (Or.inl ⟨by rfl, ?_⟩) hHeld ?_
    · clear hHeld; intro X hSw; obtain ⟨s0, s1, s2, s3, s4, s5, s6, s7, s8, s9, s10, s11⟩ := HSx X hSw; clear hSw; go_simp
    simp only [Act.put, List.getElem_toArray, List.getElem_cons_zero, List.getElem_cons_succ, List.setIfInBounds_toArray, List.set_cons_zero, List.set_cons_succ]
    refine anyIn_take (i := 17) (oi := _) (v := (.agg #[.int .i64 t.id, .int .i64 t.kind, .string t.text, .slice ka n cap])) rfl (by kernel_rfl) (by kernel_rfl) (by kernel_rfl) (fun _ _ _ h => by cases h.1) (Or.inl ⟨by rfl, ?_⟩) hHeld ?_
    · clear hHeld; intro X hSw; obtain ⟨s0, s1, s2, s3, s4, s5, s6, s7, s8, s9, s10, s11⟩ := HSx X hSw; clear hSw; go_simp
    simp only [Act.put, List.getElem_toArray, List.getElem_cons_zero, List.getElem_cons_succ, List.setIfInBounds_toArray, List.set_cons_zero, List.set_cons_succ]
    refine anyIn_take (i := 19) (oi := _) (v := (.int .i64 leave)) rfl (by kernel_rfl) (by kernel_rfl) (by kernel_rfl) (fun _ _ _ h => by cases h.1) (Or.inl ⟨by rfl, ?_⟩) hHeld ?_
    · clear hHeld; intro X hSw; clear hSw; go_simp
    simp only [Act.put, List.getElem_toArray, List.getElem_cons_zero, List.getElem_cons_succ, List.setIfInBounds_toArray, List.set_cons_zero, List.set_cons_succ]
    refine anyIn_one (i := 18) (o := _) (by kernel_rfl) rfl fun K18 hK18 => ?_
    rw [if_pos (by rfl)]
    simp only [List.getElem_toArray, List.getElem_cons_zero, List.getElem_cons_succ]
    have HK18 := Lib.hid hK18
    have HH18 := Lib.hid hHeld
    clear hK18 hHeld
    gi_wp2_with (refine ⟨trivial, ?_⟩; gi_at_call 15; refine (callsIn_wide.2 (HWN.out _ HH18.out)).mono ?_; rintro e X18 ⟨wa, wc, rfl, hsp, hb⟩; have HX18 := Lib.hid (And.intro hsp hb); clear hsp hb)
    have hHeld := HSB.out _ X18 HH18.out HX18.out.2
    refine HK18.out _ _ hHeld ?_
    clear HK18
    refine anyIn_one (i := 20) (o := _) (by kernel_rfl) rfl fun K20 hK20 => ?_
    rw [if_pos (by rfl)]
    simp only [List.getElem_toArray, List.getElem_cons_zero, List.getElem_cons_succ]
    have HK20 := Lib.hid hK20
    have HH20 := Lib.hid hHeld
    clear hK20 hHeld
    gi_wp2_with (refine ⟨trivial, ?_⟩; gi_at_call 14; refine (callsIn_wide.2 (HWS.out _ HH20.out _ _ HX18.out.1)).mono ?_; rintro e X20 ⟨rfl, hb⟩; have HX20 := Lib.hid hb; clear hb)
    have hHeld := HSB.out _ X20 HH20.out HX20.out
    refine HK20.out _ _ hHeld ?_
    clear HK20
    refine anyIn_take (i := 21) (oi := _) (v := (.bool true)) rfl (by kernel_rfl) (by kernel_rfl) (by kernel_rfl) (fun _ _ _ h => by cases h.1) (Or.inl ⟨by rfl, ?_⟩) hHeld ?_
    · clear hHeld; intro X hSw; clear hSw; go_simp
    simp only [Act.put, List.getElem_toArray, List.getElem_cons_zero, List.getElem_cons_succ, List.setIfInBounds_toArray, List.set_cons_zero, List.set_cons_succ]
    refine anyIn_take (i := 22) (oi := _) (v := (.bool true)) rfl (by kernel_rfl) (by kernel_rfl) (by kernel_rfl) (fun _ _ _ h => by cases h.1) (Or.inl ⟨by rfl, ?_⟩) hHeld ?_
    · clear hHeld; intro X hSw; clear hSw; go_simp
    simp only [Act.put, List.getElem_toArray, List.getElem_cons_zero, List.getElem_cons_succ, List.setIfInBounds_toArray, List.set_cons_zero, List.set_cons_succ]
    refine anyIn_one (i := 23) (o := _) (by kernel_rfl) rfl fun K23 hK23 => ?_
    rw [if_pos (by rfl)]
    simp only [List.getElem_toArray, List.getElem_cons_zero, List.getElem_cons_succ]
    have HK23 := Lib.hid hK23
    have HH23 := Lib.hid hHeld
    clear hK23 hHeld
    gi_wp2_with (refine ⟨trivial, ?_⟩; gi_at_call 7; refine (callsIn_wide.2 (HWK.out _ HH23.out)).mono ?_; rintro e X23 ⟨rfl, hb⟩; have HX23 := Lib.hid hb; clear hb)
    have hHeld := HSB.out _ X23 HH23.out HX23.out
    refine HK23.out _ _ hHeld ?_
    clear HK23
    refine anyIn_take (i := 24) (oi := _) (v := (.bool true)) rfl (by kernel_rfl) (by kernel_rfl) (by kernel_rfl) (fun _ _ _ h => by cases h.1) (Or.inl ⟨by rfl, ?_⟩) hHeld ?_
    · clear hHeld; intro X hSw; clear hSw; go_simp
    simp only [Act.put, List.getElem_toArray, List.getElem_cons_zero, List.getElem_cons_succ, List.setIfInBounds_toArray, List.set_cons_zero, List.set_cons_succ]
    refine anyIn_take (i := 25) (oi := _) (v := (.bool true)) rfl (by kernel_rfl) (by kernel_rfl) (by kernel_rfl) (fun _ _ _ h => by cases h.1) (Or.inl ⟨by rfl, ?_⟩) hHeld ?_
    · clear hHeld; intro X hSw; clear hSw; go_simp
    simp only [Act.put, List.getElem_toArray, List.getElem_cons_zero, List.getElem_cons_succ, List.setIfInBounds_toArray, List.set_cons_zero, List.set_cons_succ]
    refine anyIn_done (by kernel_rfl) ⟨rfl, ?_⟩ _
    have HE := Lib.hid (HFIN.out _ hHeld)
    clear hHeld HSx
    gi_wp2
    exact ⟨_, results_tmp rfl _ _ _, rfl, HE.out⟩
  · gi_wp2_with fail
    refine ⟨trivial, ?_⟩
    gi_at_call 7
    refine (callsIn_wide.2 (wakes_any w2 (H.out.2.2.1.below HB2.out.1))).mono ?_
    rintro e w3 ⟨rfl, hb3⟩
    have HB3 := Lib.hid (HB2.out.1.trans (hb3.mono HB2.out.1.size))
    clear hb3
    gi_wp2
    exact ⟨_, results_tmp rfl _ _ _, rfl, HB3.out⟩
end Go.Proofs.YtbbiemnjidfglaaDoor
