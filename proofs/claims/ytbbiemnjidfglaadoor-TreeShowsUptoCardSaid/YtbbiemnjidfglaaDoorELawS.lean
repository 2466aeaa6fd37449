/-
  What TreeShows answers: true. No condition but that its arguments lie in memory as they came in, and that their texts are not too long.
-/
import Derived.Test.YtbbiemnjidfglaaDoorETSame
import Derived.Test.YtbbiemnjidfglaaDoorEOpenB
namespace Go.Proofs.YtbbiemnjidfglaaDoor
open Go.RowKit Go.Shelf
attribute [local go_sem] Oper.semAt_some
set_option linter.unusedVariables false
set_option linter.unusedSimpArgs false

theorem esc_bound (s : ByteArray) : (textL s).length ≤ 2 * s.size + 2 := by
  unfold textL
  split
  · simp
  · have h := esc_length s.data.toList
    have h2 : s.data.toList.length = s.size := Array.length_toList
    simp only [quoL, List.length_cons, List.length_append, List.length_nil]; omega
theorem itoa_bound (n : Int) (h : I64 n) : (Lib.itoa n).length ≤ 21 := by
  obtain ⟨h1, h2⟩ := h
  unfold Lib.itoa
  split
  · have := dec_len20 19 n.natAbs (by omega)
    simp only [List.length_cons]; omega
  · have := dec_len20 19 n.toNat (by omega)
    omega
theorem rK_bound : ∀ (f : Fo), i64F f → (rK f).length ≤ 60 * foSize f + 2 * foTxt f
  | .nil, _ => Nat.zero_le _
  | .node _ _ k l r, h => by
    have h1 := rK_bound l h.2.1
    have h2 := rK_bound r h.2.2
    have h3 := itoa_bound k.1 h.1.1
    have h4 := itoa_bound k.2.1 h.1.2
    have h5 := esc_bound k.2.2
    simp only [rK, headL, foSize, foTxt, List.length_append, List.length_cons, List.length_nil]
    split <;> split <;> simp only [List.length_append, List.length_cons, List.length_nil] <;> omega
theorem rT_bound (t : Tr) (h : i64T t) : (rT t).length ≤ 60 * (foSize t.kids + 1) + 2 * trTxt t := by
  have h1 := rK_bound (rootF t) ⟨h.1, h.2, True.intro⟩
  rw [rK_root, rootF_size] at h1
  have h2 : foTxt (rootF t) = trTxt t := by simp [foTxt, rootF, trTxt]
  rw [h2] at h1; exact h1
set_option maxRecDepth 100000 in
set_option maxHeartbeats 4000000 in
theorem treeShows_any (w : World) (S : Nat → Prop) (v1 : Value) (t : Tr) (v2 : Value) (u : Tr) (hS : ∀ x, S x → CellsB w x) (ht : TrAt w S v1 t) (hu : TrAt w S v2 u) (htab : Tab w) (hlen : foLen t.kids ≤ 9223372036854775807) (hfit : foFit t.kids) (hlen2 : foLen u.kids ≤ 9223372036854775807) (hfit2 : foFit u.kids) (hi : i64T t) (htx : trTxt t ≤ 1048576) :
    Calls Tryd.prog 5 #[v1, v2] w (YesB w) := by
  have ht0 := ht
  have hu0 := hu
  obtain ⟨ka, cap, rfl, hcap, hk⟩ := ht
  obtain ⟨kb, cap2, rfl, hcap2, hkb⟩ := hu
  obtain ⟨n, hn⟩ : ∃ n, n = foLen t.kids := ⟨_, rfl⟩
  obtain ⟨m, hm⟩ : ∃ m, m = foLen u.kids := ⟨_, rfl⟩
  rw [← hn] at ht0 ⊢
  rw [← hm] at hu0 ⊢
  have hal := allocs_at [.cells #[.int .i64 t.id, .int .i64 t.kind, .string t.text, .slice ka n cap] 24, .cells #[.int .i64 u.id, .int .i64 u.kind, .string u.text, .slice kb m cap2] 24] w
  have hab := allocs_below [.cells #[.int .i64 t.id, .int .i64 t.kind, .string t.text, .slice ka n cap] 24, .cells #[.int .i64 u.id, .int .i64 u.kind, .string u.text, .slice kb m cap2] 24] w
  have kx := hal 0 _ rfl
  rw [Nat.add_zero] at kx
  have ky := hal 1 _ rfl
  obtain ⟨W, hW⟩ : ∃ W, W = allocs w [.cells #[.int .i64 t.id, .int .i64 t.kind, .string t.text, .slice ka n cap] 24, .cells #[.int .i64 u.id, .int .i64 u.kind, .string u.text, .slice kb m cap2] 24] := ⟨_, rfl⟩
  rw [← hW] at kx ky hab
  have hSl : ∀ x, S x → x < w.heap.size := fun x hx => (hS x hx).lt
  have hGA := great_tree W S _ t hlen hfit (fun x hx => Nat.lt_of_lt_of_le (hSl x hx) hab.size) (ht0.kept fun x hx => ⟨hx, hab.block x (hSl x hx)⟩)
  have hGB : ∀ X, Below W.heap.size W X → Calls Tryd.prog 6 #[.agg #[.int .i64 u.id, .int .i64 u.kind, .string u.text, .slice kb m cap2]] X (GreatC X u) := fun X h => by
    have hb := hab.trans (h.mono hab.size)
    exact great_tree X S _ u hlen2 hfit2 (fun x hx => Nat.lt_of_lt_of_le (hSl x hx) hb.size) (hu0.kept fun x hx => ⟨hx, hb.block x (hSl x hx)⟩)
  have hbox : ∀ X, Below W.heap.size W X → (X.cell? ⟨w.heap.size, 0, none⟩ = some (.int .i64 t.id) ∧ X.cell? ⟨w.heap.size, 1, none⟩ = some (.int .i64 t.kind) ∧ X.cell? ⟨w.heap.size, 2, none⟩ = some (.string t.text) ∧ X.cell? ⟨w.heap.size, 3, none⟩ = some (.slice ka n cap)) ∧
      (X.cell? ⟨w.heap.size + 1, 0, none⟩ = some (.int .i64 u.id) ∧ X.cell? ⟨w.heap.size + 1, 1, none⟩ = some (.int .i64 u.kind) ∧ X.cell? ⟨w.heap.size + 1, 2, none⟩ = some (.string u.text) ∧ X.cell? ⟨w.heap.size + 1, 3, none⟩ = some (.slice kb m cap2)) := fun X h =>
    ⟨boxN ((h.block _ (lt_of_heap kx)).trans kx), boxN ((h.block _ (lt_of_heap ky)).trans ky)⟩
  have HG := Lib.hid (And.intro hGA (And.intro hGB hbox))
  have H := Lib.hid (And.intro hS (And.intro ht0 (And.intro hu0 (And.intro htab (And.intro hn (And.intro hm (And.intro hlen (And.intro hfit (And.intro hlen2 (And.intro hfit2 (And.intro hi htx)))))))))))
  have HW := Lib.hid (And.intro hab (And.intro kx (And.intro ky hW)))
  clear hS ht0 hu0 htab hn hm hlen hfit hlen2 hfit2 hi htx hcap hk hcap2 hkb hal hab kx ky hW hSl hGA hGB hbox
  refine (callsIn_wide (n := 12)).1 ?_
  refine callsIn_of_wp_marks Tryd.func5 rfl trivial ?_ rfl
  simp only [Tryd.ntmps5, List.size_toArray, List.length_cons, List.length_nil, Nat.reduceAdd, Nat.reduceSub, Array.replicate_succ, Array.replicate_zero, List.push_toArray, List.append_toArray, List.nil_append, List.cons_append]
  gi_wp2_with fail
  change Fence.wide.fn _ ∧ CallsIn Fence.wide _ _ _ _ (allocs w [.cells #[.int .i64 t.id, .int .i64 t.kind, .string t.text, .slice ka n cap] 24, .cells #[.int .i64 u.id, .int .i64 u.kind, .string u.text, .slice kb m cap2] 24]) _
  rw [← HW.out.2.2.2]
  refine ⟨trivial, ?_⟩
  gi_at_call 6
  refine (callsIn_wide.2 HG.out.1).mono ?_
  rintro e w2 ⟨g1, rfl, hsz1, hb2⟩
  have HSZ1 := Lib.hid hsz1
  have HB2 := Lib.hid hb2
  obtain ⟨⟨a0, a1, a2, a3⟩, b0, b1, b2, b3⟩ := HG.out.2.2 w2 hb2
  clear hsz1 hb2
  cases g1
  · gi_wp2_with fail
    refine ⟨trivial, ?_⟩
    gi_at_call 6
    refine (callsIn_wide.2 (HG.out.2.1 w2 HB2.out)).mono ?_
    rintro e w3 ⟨g2, rfl, hsz2, hb3⟩
    have HSZ2 := Lib.hid hsz2
    have HB3 := Lib.hid (HB2.out.trans (hb3.mono HB2.out.size))
    clear hsz2 hb3 a0 a1 a2 a3 b0 b1 b2 b3
    obtain ⟨⟨a0, a1, a2, a3⟩, b0, b1, b2, b3⟩ := HG.out.2.2 w3 HB3.out
    cases g2
    · have hz1 := HSZ1.out (by first | rfl | trivial)
      have hz2 := HSZ2.out (by first | rfl | trivial)
      have hb0 := HW.out.1.trans (HB3.out.mono HW.out.1.size)
      have hcl3 : ∀ x, S x → CellsB w3 x := fun x hx => by
        obtain ⟨cs, ty, fr, hc⟩ := H.out.1 x hx
        exact ⟨cs, ty, fr, (hb0.block x (lt_of_heap hc)).trans hc⟩
      have hcp := copy_any w3 S _ t hcl3 (H.out.2.1.kept fun x hx => ⟨hx, hb0.block x (H.out.1 x hx).lt⟩) (by omega)
      have HCP := Lib.hid hcp
      have HZ := Lib.hid (And.intro hz1 (And.intro hz2 (And.intro hb0 hcl3)))
      clear hz1 hz2 hb0 hcl3 hcp HSZ1 HSZ2 HB2
      gi_wp2_with fail
      refine ⟨trivial, ?_⟩
      gi_at_call 21
      refine (callsIn_wide.2 HCP.out).mono ?_
      rintro e w4 ⟨vc, rfl, ⟨ya, yc, rfl, hyc, hyk⟩, hb4⟩
      have hn := H.out.2.2.2.2.1
      rw [← hn] at hyc ⊢
      have HC4 := Lib.hid (And.intro hyc (And.intro hyk hb4))
      clear hn hyc hyk hb4 HCP a0 a1 a2 a3 b0 b1 b2 b3
      gi_wp2_with fail
      obtain ⟨V, hV⟩ : ∃ V, V = w4.alloc (.cells #[.int .i64 t.id, .int .i64 t.kind, .string t.text, .slice ya n yc] 24) := ⟨_, rfl⟩
      rw [← hV]
      have hV4 : Below w4.heap.size w4 V := by rw [hV]; exact (Below.refl _ w4).alloc (Nat.le_refl _) _
      have kz : V.heap[w4.heap.size]? = some (.cells #[.int .i64 t.id, .int .i64 t.kind, .string t.text, .slice ya n yc] 24 (0, 0)) := by rw [hV]; exact heap_alloc_new w4 _
      have hb34 := HC4.out.2.2
      have hWV : Below W.heap.size W V := (HB3.out.trans (hb34.mono HB3.out.size)).trans (hV4.mono (Nat.le_trans HB3.out.size hb34.size))
      have hwV : Below w.heap.size w V := HW.out.1.trans (hWV.mono HW.out.1.size)
      have hcV : ∀ x, S x → CellsB V x := fun x hx => by
        obtain ⟨cs, ty, fr, hc⟩ := H.out.1 x hx
        exact ⟨cs, ty, fr, (hwV.block x (lt_of_heap hc)).trans hc⟩
      have hyV : TrAt V (fun x => CellsB w4 x ∧ (S x ∨ w3.heap.size ≤ x)) (.agg #[.int .i64 t.id, .int .i64 t.kind, .string t.text, .slice ya n yc]) t := ⟨ya, yc, by rw [H.out.2.2.2.2.1], by rw [← H.out.2.2.2.2.1]; exact HC4.out.1, HC4.out.2.1.kept fun x hx => ⟨hx, hV4.block x hx.1.lt⟩⟩
      obtain ⟨SX, hSX⟩ : ∃ SX : World → Prop, SX = fun X => Below V.heap.size V X := ⟨_, rfl⟩
      have HSx : ∀ X, SX X → X.cell? ⟨w.heap.size, 0, none⟩ = some (.int .i64 t.id) ∧ X.cell? ⟨w.heap.size, 1, none⟩ = some (.int .i64 t.kind) ∧ X.cell? ⟨w.heap.size, 2, none⟩ = some (.string t.text) ∧ X.cell? ⟨w.heap.size, 3, none⟩ = some (.slice ka n cap) ∧
          X.cell? ⟨w.heap.size + 1, 0, none⟩ = some (.int .i64 u.id) ∧ X.cell? ⟨w.heap.size + 1, 1, none⟩ = some (.int .i64 u.kind) ∧ X.cell? ⟨w.heap.size + 1, 2, none⟩ = some (.string u.text) ∧ X.cell? ⟨w.heap.size + 1, 3, none⟩ = some (.slice kb m cap2) ∧
          X.cell? ⟨w4.heap.size, 0, none⟩ = some (.int .i64 t.id) ∧ X.cell? ⟨w4.heap.size, 1, none⟩ = some (.int .i64 t.kind) ∧ X.cell? ⟨w4.heap.size, 2, none⟩ = some (.string t.text) ∧ X.cell? ⟨w4.heap.size, 3, none⟩ = some (.slice ya n yc) := fun X h => by
        rw [hSX] at h
        obtain ⟨⟨x0, x1, x2, x3⟩, y0, y1, y2, y3⟩ := HG.out.2.2 X (hWV.trans (h.mono hWV.size))
        obtain ⟨z0, z1, z2, z3⟩ := boxN ((h.block _ (lt_of_heap kz)).trans kz)
        exact ⟨x0, x1, x2, x3, y0, y1, y2, y3, z0, z1, z2, z3⟩
      have hS0 : SX V.drew := by rw [hSX]; exact ⟨rfl, rfl, rfl, Nat.le_refl _, fun _ _ => rfl⟩
      have HSB := Lib.hid (fun (X Y : World) (h : SX X) (hb : Below X.heap.size X Y) => (show SX Y by rw [hSX] at h ⊢; exact h.trans (hb.mono h.size)))
      have hwX : ∀ X, SX X → Below w.heap.size w X := fun X h => by rw [hSX] at h; exact hwV.trans (h.mono hwV.size)
      have htX : ∀ X, SX X → TrAt X S (.agg #[.int .i64 t.id, .int .i64 t.kind, .string t.text, .slice ka n cap]) t ∧ TrAt X S (.agg #[.int .i64 u.id, .int .i64 u.kind, .string u.text, .slice kb m cap2]) u ∧ (∀ x, S x → x < X.heap.size) ∧ TrAt X (fun x => CellsB w4 x ∧ (S x ∨ w3.heap.size ≤ x)) (.agg #[.int .i64 t.id, .int .i64 t.kind, .string t.text, .slice ya n yc]) t ∧ (∀ x, (CellsB w4 x ∧ (S x ∨ w3.heap.size ≤ x)) → x < X.heap.size) := fun X h => by
        have hb := hwX X h
        have hl : ∀ x, S x → x < w.heap.size := fun x hx => (H.out.1 x hx).lt
        rw [hSX] at h
        have hV4s := hV4.size
        have hs := h.size
        exact ⟨H.out.2.1.kept fun x hx => ⟨hx, hb.block x (hl x hx)⟩, H.out.2.2.1.kept fun x hx => ⟨hx, hb.block x (hl x hx)⟩, fun x hx => Nat.lt_of_lt_of_le (hl x hx) hb.size, hyV.kept fun x hx => ⟨hx, h.block x (by have := hx.1.lt; omega)⟩, fun x hx => by have := hx.1.lt; omega⟩
      have hz := HZ.out
      have hrb := rT_bound t H.out.2.2.2.2.2.2.2.2.2.2.1
      have hrl : (rT t).length ≤ 10000000000000 := by have := H.out.2.2.2.2.2.2.2.2.2.2.2; have := hz.1; omega
      obtain ⟨RT, hRT⟩ : ∃ RT, RT = rT t := ⟨_, rfl⟩
      have HSA : Hid (∀ X, SX X → Calls Tryd.prog 22 #[.agg #[.int .i64 t.id, .int .i64 t.kind, .string t.text, .slice ka n cap]] X (SayC X RT)) := Lib.hid fun X h => by
        have := show_any X S _ t (htX X h).2.2.1 (htX X h).1 (by have := hz.1; omega) (H.out.2.2.2.1.below (hwX X h)) (i64F_mem 1 (rootF t) ⟨H.out.2.2.2.2.2.2.2.2.2.2.1.1, H.out.2.2.2.2.2.2.2.2.2.2.1.2, True.intro⟩) (by rw [showT_rT]; exact hrl)
        rw [showT_rT, ← hRT] at this; exact this
      have HRS : Hid (∀ X, SX X → Calls Tryd.prog 23 #[.agg #[.int .i64 t.id, .int .i64 t.kind, .string t.text, .slice ka n cap]] X (SayC X RT)) := Lib.hid fun X h => by
        have := rshow_any 5000 X S _ t (by have := hz.1; omega) (by omega) (htX X h).2.2.1 (htX X h).1 H.out.2.2.2.2.2.2.2.2.2.2.1 hrl
        rw [← hRT] at this; exact this
      have HTS : Hid (∀ X, SX X → Calls Tryd.prog 24 #[.agg #[.int .i64 t.id, .int .i64 t.kind, .string t.text, .slice ka n cap], .agg #[.int .i64 u.id, .int .i64 u.kind, .string u.text, .slice kb m cap2]] X (SameC t u X)) := Lib.hid fun X h => tsame_any X S S _ _ t u (htX X h).2.2.1 (htX X h).2.2.1 (htX X h).1 (htX X h).2.1 (by have := hz.1; omega) (by have := hz.2.1; omega)
      have HSN : Hid (∀ X, SX X → Calls Tryd.prog 10 #[.agg #[.int .i64 t.id, .int .i64 t.kind, .string t.text, .slice ka n cap], .agg #[.int .i64 u.id, .int .i64 u.kind, .string u.text, .slice kb m cap2]] X (SameC t u X)) := Lib.hid fun X h => same_any 5000 X S S _ _ t u (by have := hz.1; omega) ⟨H.out.2.2.2.2.2.2.1, H.out.2.2.2.2.2.2.2.1⟩ (htX X h).2.2.1 (htX X h).2.2.1 (htX X h).1 (htX X h).2.1
      have HTC : Hid (∀ X, SX X → Calls Tryd.prog 24 #[.agg #[.int .i64 t.id, .int .i64 t.kind, .string t.text, .slice ka n cap], .agg #[.int .i64 t.id, .int .i64 t.kind, .string t.text, .slice ya n yc]] X (SameC t t X)) := Lib.hid fun X h => tsame_any X S _ _ _ t t (htX X h).2.2.1 (htX X h).2.2.2.2 (htX X h).1 (htX X h).2.2.2.1 (by have := hz.1; omega) (by have := hz.1; omega)
      have HNC : Hid (∀ X, SX X → Calls Tryd.prog 10 #[.agg #[.int .i64 t.id, .int .i64 t.kind, .string t.text, .slice ka n cap], .agg #[.int .i64 t.id, .int .i64 t.kind, .string t.text, .slice ya n yc]] X (SameC t t X)) := Lib.hid fun X h => same_any 5000 X S _ _ _ t t (by have := hz.1; omega) ⟨H.out.2.2.2.2.2.2.1, H.out.2.2.2.2.2.2.2.1⟩ (htX X h).2.2.1 (htX X h).2.2.2.2 (htX X h).1 (htX X h).2.2.2.1
      have HWK : Hid (∀ X, SX X → Calls Tryd.prog 7 #[] X fun e w' => e = .returned (.bool true) ∧ Below X.heap.size X w') := Lib.hid fun X h => wakes_any X (H.out.2.2.2.1.below (hwX X h))
      have HFIN := Lib.hid hwX
      clear hSX htX hwX hcV hyV kz hV hV4 hb34 hWV hwV hz hrb hrl hRT HC4 HZ HB3 HG H HW
      refine region_calm (S := SX) (by kernel_rfl) ?_
      have hHeld := hS0
      clear hS0
      refine anyIn_take (i := 0) (oi := _) (v := (.agg #[.int .i64 t.id, .int .i64 t.kind, .string t.text, .slice ka n cap])) rfl (by kernel_rfl) (by kernel_rfl) (by kernel_rfl) (fun _ _ _ h => by cases h.1) (Or.inl ⟨by rfl, ?_⟩) hHeld ?_
      · clear hHeld; intro X hSw; obtain ⟨s0, s1, s2, s3, s4, s5, s6, s7, s8, s9, s10, s11⟩ := HSx X hSw; clear hSw; go_simp
      simp only [Act.put, List.getElem_toArray, List.getElem_cons_zero, List.getElem_cons_succ, List.setIfInBounds_toArray, List.set_cons_zero, List.set_cons_succ]
      refine anyIn_take (i := 2) (oi := _) (v := (.agg #[.int .i64 t.id, .int .i64 t.kind, .string t.text, .slice ka n cap])) rfl (by kernel_rfl) (by kernel_rfl) (by kernel_rfl) (fun _ _ _ h => by cases h.1) (Or.inl ⟨by rfl, ?_⟩) hHeld ?_
      · clear hHeld; intro X hSw; obtain ⟨s0, s1, s2, s3, s4, s5, s6, s7, s8, s9, s10, s11⟩ := HSx X hSw; clear hSw; go_simp
      simp only [Act.put, List.getElem_toArray, List.getElem_cons_zero, List.getElem_cons_succ, List.setIfInBounds_toArray, List.set_cons_zero, List.set_cons_succ]
      refine anyIn_one (i := 1) (o := _) (by kernel_rfl) rfl fun K1 hK1 => ?_
      rw [if_pos (by rfl)]
      simp only [List.getElem_toArray, List.getElem_cons_zero, List.getElem_cons_succ]
      have HK1 := Lib.hid hK1
      have HH1 := Lib.hid hHeld
      clear hK1 hHeld
      gi_wp2_with (refine ⟨trivial, ?_⟩; gi_at_call 22; refine (callsIn_wide.2 (HSA.out _ HH1.out)).mono ?_; rintro e X1 ⟨rfl, hb⟩; have HX1 := Lib.hid hb; clear hb)
      have hHeld := HSB.out _ X1 HH1.out HX1.out
      refine HK1.out _ _ hHeld ?_
      clear HK1
      refine anyIn_one (i := 3) (o := _) (by kernel_rfl) rfl fun K3 hK3 => ?_
      rw [if_pos (by rfl)]
      simp only [List.getElem_toArray, List.getElem_cons_zero, List.getElem_cons_succ]
      have HK3 := Lib.hid hK3
      have HH3 := Lib.hid hHeld
      clear hK3 hHeld
      gi_wp2_with (refine ⟨trivial, ?_⟩; gi_at_call 23; refine (callsIn_wide.2 (HRS.out _ HH3.out)).mono ?_; rintro e X3 ⟨rfl, hb⟩; have HX3 := Lib.hid hb; clear hb)
      have hHeld := HSB.out _ X3 HH3.out HX3.out
      refine HK3.out _ _ hHeld ?_
      clear HK3
      refine anyIn_take (i := 4) (oi := _) (v := (.bool true)) rfl (by kernel_rfl) (by kernel_rfl) (by kernel_rfl) (fun _ _ _ h => by cases h.1) (Or.inl ⟨by rfl, ?_⟩) hHeld ?_
      · clear hHeld; intro X hSw; clear hSw; go_simp
      simp only [Act.put, List.getElem_toArray, List.getElem_cons_zero, List.getElem_cons_succ, List.setIfInBounds_toArray, List.set_cons_zero, List.set_cons_succ]
      refine anyIn_take (i := 5) (oi := _) (v := (.bool true)) rfl (by kernel_rfl) (by kernel_rfl) (by kernel_rfl) (fun _ _ _ h => by cases h.1) (Or.inl ⟨by rfl, ?_⟩) hHeld ?_
      · clear hHeld; intro X hSw; clear hSw; go_simp
      simp only [Act.put, List.getElem_toArray, List.getElem_cons_zero, List.getElem_cons_succ, List.setIfInBounds_toArray, List.set_cons_zero, List.set_cons_succ]
      refine anyIn_take (i := 6) (oi := _) (v := (.agg #[.int .i64 t.id, .int .i64 t.kind, .string t.text, .slice ka n cap])) rfl (by kernel_rfl) (by kernel_rfl) (by kernel_rfl) (fun _ _ _ h => by cases h.1) (Or.inl ⟨by rfl, ?_⟩) hHeld ?_
      · clear hHeld; intro X hSw; obtain ⟨s0, s1, s2, s3, s4, s5, s6, s7, s8, s9, s10, s11⟩ := HSx X hSw; clear hSw; go_simp
      simp only [Act.put, List.getElem_toArray, List.getElem_cons_zero, List.getElem_cons_succ, List.setIfInBounds_toArray, List.set_cons_zero, List.set_cons_succ]
      refine anyIn_take (i := 7) (oi := _) (v := (.agg #[.int .i64 u.id, .int .i64 u.kind, .string u.text, .slice kb m cap2])) rfl (by kernel_rfl) (by kernel_rfl) (by kernel_rfl) (fun _ _ _ h => by cases h.1) (Or.inl ⟨by rfl, ?_⟩) hHeld ?_
      · clear hHeld; intro X hSw; obtain ⟨s0, s1, s2, s3, s4, s5, s6, s7, s8, s9, s10, s11⟩ := HSx X hSw; clear hSw; go_simp
      simp only [Act.put, List.getElem_toArray, List.getElem_cons_zero, List.getElem_cons_succ, List.setIfInBounds_toArray, List.set_cons_zero, List.set_cons_succ]
      refine anyIn_take (i := 9) (oi := _) (v := (.agg #[.int .i64 t.id, .int .i64 t.kind, .string t.text, .slice ka n cap])) rfl (by kernel_rfl) (by kernel_rfl) (by kernel_rfl) (fun _ _ _ h => by cases h.1) (Or.inl ⟨by rfl, ?_⟩) hHeld ?_
      · clear hHeld; intro X hSw; obtain ⟨s0, s1, s2, s3, s4, s5, s6, s7, s8, s9, s10, s11⟩ := HSx X hSw; clear hSw; go_simp
      simp only [Act.put, List.getElem_toArray, List.getElem_cons_zero, List.getElem_cons_succ, List.setIfInBounds_toArray, List.set_cons_zero, List.set_cons_succ]
      refine anyIn_take (i := 10) (oi := _) (v := (.agg #[.int .i64 u.id, .int .i64 u.kind, .string u.text, .slice kb m cap2])) rfl (by kernel_rfl) (by kernel_rfl) (by kernel_rfl) (fun _ _ _ h => by cases h.1) (Or.inl ⟨by rfl, ?_⟩) hHeld ?_
      · clear hHeld; intro X hSw; obtain ⟨s0, s1, s2, s3, s4, s5, s6, s7, s8, s9, s10, s11⟩ := HSx X hSw; clear hSw; go_simp
      simp only [Act.put, List.getElem_toArray, List.getElem_cons_zero, List.getElem_cons_succ, List.setIfInBounds_toArray, List.set_cons_zero, List.set_cons_succ]
      refine anyIn_one (i := 8) (o := _) (by kernel_rfl) rfl fun K8 hK8 => ?_
      rw [if_pos (by rfl)]
      simp only [List.getElem_toArray, List.getElem_cons_zero, List.getElem_cons_succ]
      have HK8 := Lib.hid hK8
      have HH8 := Lib.hid hHeld
      clear hK8 hHeld
      gi_wp2_with (refine ⟨trivial, ?_⟩; gi_at_call 24; refine (callsIn_wide.2 (HTS.out _ HH8.out)).mono ?_; rintro e X8 ⟨rfl, hb⟩; have HX8 := Lib.hid hb; clear hb)
      have hHeld := HSB.out _ X8 HH8.out HX8.out
      refine HK8.out _ _ hHeld ?_
      clear HK8
      refine anyIn_one (i := 11) (o := _) (by kernel_rfl) rfl fun K11 hK11 => ?_
      rw [if_pos (by rfl)]
      simp only [List.getElem_toArray, List.getElem_cons_zero, List.getElem_cons_succ]
      have HK11 := Lib.hid hK11
      have HH11 := Lib.hid hHeld
      clear hK11 hHeld
      gi_wp2_with (refine ⟨trivial, ?_⟩; gi_at_call 10; refine (callsIn_wide.2 (HSN.out _ HH11.out)).mono ?_; rintro e X11 ⟨rfl, hb⟩; have HX11 := Lib.hid hb; clear hb)
      have hHeld := HSB.out _ X11 HH11.out HX11.out
      refine HK11.out _ _ hHeld ?_
      clear HK11
      refine anyIn_take (i := 12) (oi := _) (v := (.bool true)) rfl (by kernel_rfl) (by kernel_rfl) (by kernel_rfl) (fun _ _ _ h => by cases h.1) (Or.inl ⟨by rfl, ?_⟩) hHeld ?_
      · clear hHeld; intro X hSw; clear hSw; go_simp
      simp only [Act.put, List.getElem_toArray, List.getElem_cons_zero, List.getElem_cons_succ, List.setIfInBounds_toArray, List.set_cons_zero, List.set_cons_succ]
      refine anyIn_take (i := 13) (oi := _) (v := (.bool true)) rfl (by kernel_rfl) (by kernel_rfl) (by kernel_rfl) (fun _ _ _ h => by cases h.1) (Or.inl ⟨by rfl, ?_⟩) hHeld ?_
      · clear hHeld; intro X hSw; clear hSw; go_simp
      simp only [Act.put, List.getElem_toArray, List.getElem_cons_zero, List.getElem_cons_succ, List.setIfInBounds_toArray, List.set_cons_zero, List.set_cons_succ]
      refine anyIn_take (i := 14) (oi := _) (v := (.bool true)) rfl (by kernel_rfl) (by kernel_rfl) (by kernel_rfl) (fun _ _ _ h => by cases h.1) (Or.inl ⟨by rfl, ?_⟩) hHeld ?_
      · clear hHeld; intro X hSw; clear hSw; go_simp
      simp only [Act.put, List.getElem_toArray, List.getElem_cons_zero, List.getElem_cons_succ, List.setIfInBounds_toArray, List.set_cons_zero, List.set_cons_succ]
      refine anyIn_take (i := 15) (oi := _) (v := (.agg #[.int .i64 t.id, .int .i64 t.kind, .string t.text, .slice ka n cap])) rfl (by kernel_rfl) (by kernel_rfl) (by kernel_rfl) (fun _ _ _ h => by cases h.1) (Or.inl ⟨by rfl, ?_⟩) hHeld ?_
      · clear hHeld; intro X hSw; obtain ⟨s0, s1, s2, s3, s4, s5, s6, s7, s8, s9, s10, s11⟩ := HSx X hSw; clear hSw; go_simp
      simp only [Act.put, List.getElem_toArray, List.getElem_cons_zero, List.getElem_cons_succ, List.setIfInBounds_toArray, List.set_cons_zero, List.set_cons_succ]
      refine anyIn_take (i := 16) (oi := _) (v := (.agg #[.int .i64 t.id, .int .i64 t.kind, .string t.text, .slice ya n yc])) rfl (by kernel_rfl) (by kernel_rfl) (by kernel_rfl) (fun _ _ _ h => by cases h.1) (Or.inl ⟨by rfl, ?_⟩) hHeld ?_
      · clear hHeld; intro X hSw; obtain ⟨s0, s1, s2, s3, s4, s5, s6, s7, s8, s9, s10, s11⟩ := HSx X hSw; clear hSw; go_simp
      simp only [Act.put, List.getElem_toArray, List.getElem_cons_zero, List.getElem_cons_succ, List.setIfInBounds_toArray, List.set_cons_zero, List.set_cons_succ]
      refine anyIn_one (i := 17) (o := _) (by kernel_rfl) rfl fun K17 hK17 => ?_
      rw [if_pos (by rfl)]
      simp only [List.getElem_toArray, List.getElem_cons_zero, List.getElem_cons_succ]
      have HK17 := Lib.hid hK17
      have HH17 := Lib.hid hHeld
      clear hK17 hHeld
      gi_wp2_with (refine ⟨trivial, ?_⟩; gi_at_call 24; refine (callsIn_wide.2 (HTC.out _ HH17.out)).mono ?_; rintro e X17 ⟨rfl, hb⟩; rw [sameT_refl]; have HX17 := Lib.hid hb; clear hb)
      have hHeld := HSB.out _ X17 HH17.out HX17.out
      refine HK17.out _ _ hHeld ?_
      clear HK17
      refine anyIn_take (i := 18) (oi := _) (v := (.bool true)) rfl (by kernel_rfl) (by kernel_rfl) (by kernel_rfl) (fun _ _ _ h => by cases h.1) (Or.inl ⟨by rfl, ?_⟩) hHeld ?_
      · clear hHeld; intro X hSw; clear hSw; go_simp
      simp only [Act.put, List.getElem_toArray, List.getElem_cons_zero, List.getElem_cons_succ, List.setIfInBounds_toArray, List.set_cons_zero, List.set_cons_succ]
      refine anyIn_take (i := 19) (oi := _) (v := (.bool true)) rfl (by kernel_rfl) (by kernel_rfl) (by kernel_rfl) (fun _ _ _ h => by cases h.1) (Or.inl ⟨by rfl, ?_⟩) hHeld ?_
      · clear hHeld; intro X hSw; clear hSw; go_simp
      simp only [Act.put, List.getElem_toArray, List.getElem_cons_zero, List.getElem_cons_succ, List.setIfInBounds_toArray, List.set_cons_zero, List.set_cons_succ]
      refine anyIn_take (i := 20) (oi := _) (v := (.agg #[.int .i64 t.id, .int .i64 t.kind, .string t.text, .slice ka n cap])) rfl (by kernel_rfl) (by kernel_rfl) (by kernel_rfl) (fun _ _ _ h => by cases h.1) (Or.inl ⟨by rfl, ?_⟩) hHeld ?_
      · clear hHeld; intro X hSw; obtain ⟨s0, s1, s2, s3, s4, s5, s6, s7, s8, s9, s10, s11⟩ := HSx X hSw; clear hSw; go_simp
      simp only [Act.put, List.getElem_toArray, List.getElem_cons_zero, List.getElem_cons_succ, List.setIfInBounds_toArray, List.set_cons_zero, List.set_cons_succ]
      refine anyIn_take (i := 21) (oi := _) (v := (.agg #[.int .i64 t.id, .int .i64 t.kind, .string t.text, .slice ya n yc])) rfl (by kernel_rfl) (by kernel_rfl) (by kernel_rfl) (fun _ _ _ h => by cases h.1) (Or.inl ⟨by rfl, ?_⟩) hHeld ?_
      · clear hHeld; intro X hSw; obtain ⟨s0, s1, s2, s3, s4, s5, s6, s7, s8, s9, s10, s11⟩ := HSx X hSw; clear hSw; go_simp
      simp only [Act.put, List.getElem_toArray, List.getElem_cons_zero, List.getElem_cons_succ, List.setIfInBounds_toArray, List.set_cons_zero, List.set_cons_succ]
      refine anyIn_one (i := 22) (o := _) (by kernel_rfl) rfl fun K22 hK22 => ?_
      rw [if_pos (by rfl)]
      simp only [List.getElem_toArray, List.getElem_cons_zero, List.getElem_cons_succ]
      have HK22 := Lib.hid hK22
      have HH22 := Lib.hid hHeld
      clear hK22 hHeld
      gi_wp2_with (refine ⟨trivial, ?_⟩; gi_at_call 10; refine (callsIn_wide.2 (HNC.out _ HH22.out)).mono ?_; rintro e X22 ⟨rfl, hb⟩; rw [sameT_refl]; have HX22 := Lib.hid hb; clear hb)
      have hHeld := HSB.out _ X22 HH22.out HX22.out
      refine HK22.out _ _ hHeld ?_
      clear HK22
      refine anyIn_take (i := 23) (oi := _) (v := (.bool true)) rfl (by kernel_rfl) (by kernel_rfl) (by kernel_rfl) (fun _ _ _ h => by cases h.1) (Or.inl ⟨by rfl, ?_⟩) hHeld ?_
      · clear hHeld; intro X hSw; clear hSw; go_simp
      simp only [Act.put, List.getElem_toArray, List.getElem_cons_zero, List.getElem_cons_succ, List.setIfInBounds_toArray, List.set_cons_zero, List.set_cons_succ]
      refine anyIn_take (i := 24) (oi := _) (v := (.bool true)) rfl (by kernel_rfl) (by kernel_rfl) (by kernel_rfl) (fun _ _ _ h => by cases h.1) (Or.inl ⟨by rfl, ?_⟩) hHeld ?_
      · clear hHeld; intro X hSw; clear hSw; go_simp
      simp only [Act.put, List.getElem_toArray, List.getElem_cons_zero, List.getElem_cons_succ, List.setIfInBounds_toArray, List.set_cons_zero, List.set_cons_succ]
      refine anyIn_one (i := 25) (o := _) (by kernel_rfl) rfl fun K25 hK25 => ?_
      rw [if_pos (by rfl)]
      simp only [List.getElem_toArray, List.getElem_cons_zero, List.getElem_cons_succ]
      have HK25 := Lib.hid hK25
      have HH25 := Lib.hid hHeld
      clear hK25 hHeld
      gi_wp2_with (refine ⟨trivial, ?_⟩; gi_at_call 7; refine (callsIn_wide.2 (HWK.out _ HH25.out)).mono ?_; rintro e X25 ⟨rfl, hb⟩; have HX25 := Lib.hid hb; clear hb)
      have hHeld := HSB.out _ X25 HH25.out HX25.out
      refine HK25.out _ _ hHeld ?_
      clear HK25
      refine anyIn_take (i := 26) (oi := _) (v := (.bool true)) rfl (by kernel_rfl) (by kernel_rfl) (by kernel_rfl) (fun _ _ _ h => by cases h.1) (Or.inl ⟨by rfl, ?_⟩) hHeld ?_
      · clear hHeld; intro X hSw; clear hSw; go_simp
      simp only [Act.put, List.getElem_toArray, List.getElem_cons_zero, List.getElem_cons_succ, List.setIfInBounds_toArray, List.set_cons_zero, List.set_cons_succ]
      refine anyIn_take (i := 27) (oi := _) (v := (.bool true)) rfl (by kernel_rfl) (by kernel_rfl) (by kernel_rfl) (fun _ _ _ h => by cases h.1) (Or.inl ⟨by rfl, ?_⟩) hHeld ?_
      · clear hHeld; intro X hSw; clear hSw; go_simp
      simp only [Act.put, List.getElem_toArray, List.getElem_cons_zero, List.getElem_cons_succ, List.setIfInBounds_toArray, List.set_cons_zero, List.set_cons_succ]
      refine anyIn_done (by kernel_rfl) ⟨rfl, ?_⟩ _
      have HE := Lib.hid (HFIN.out _ hHeld)
      clear hHeld HSx
      gi_wp2
      exact ⟨_, results_tmp rfl _ _ _, rfl, HE.out⟩
    · have hb0 := HW.out.1.trans (HB3.out.mono HW.out.1.size)
      have HBB := Lib.hid hb0
      clear hb0
      gi_wp2_with fail
      refine ⟨trivial, ?_⟩
      gi_at_call 7
      refine (callsIn_wide.2 (wakes_any w3 (H.out.2.2.2.1.below HBB.out))).mono ?_
      rintro e w9 ⟨rfl, hb9⟩
      have HB9 := Lib.hid hb9
      clear hb9
      gi_wp2
      exact ⟨_, results_tmp rfl _ _ _, rfl, HBB.out.trans (HB9.out.mono HBB.out.size)⟩
  · have hb0 := HW.out.1.trans (HB2.out.mono HW.out.1.size)
    have HBB := Lib.hid hb0
    clear hb0
    gi_wp2_with fail
    refine ⟨trivial, ?_⟩
    gi_wp2_with fail
    refine ⟨trivial, ?_⟩
    gi_at_call 7
    refine (callsIn_wide.2 (wakes_any w2 (H.out.2.2.2.1.below HBB.out))).mono ?_
    rintro e w9 ⟨rfl, hb9⟩
    have HB9 := Lib.hid hb9
    clear hb9
    gi_wp2
    exact ⟨_, results_tmp rfl _ _ _, rfl, HBB.out.trans (HB9.out.mono HBB.out.size)⟩
end Go.Proofs.YtbbiemnjidfglaaDoor
