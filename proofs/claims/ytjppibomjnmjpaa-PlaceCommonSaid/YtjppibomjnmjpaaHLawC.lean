/-
  What PlaceCommon answers: true. No condition but that its argument lies in memory as it came in.
-/
import Derived.Test.YtjppibomjnmjpaaHApart
import Derived.Test.YtjppibomjnmjpaaHLawQ
import Derived.Test.YtjppibomjnmjpaaEOpen
namespace Go.Proofs.Ytjppibomjnmjpaa
open Go.RowKit Go.Shelf
set_option linter.unusedVariables false
set_option linter.unusedSimpArgs false

set_option maxRecDepth 100000 in
set_option maxHeartbeats 8000000 in
theorem placeCommon_any (w : World) (S : Nat → Prop) (nv : Value) (t : Tr) (a b : Int) (hS : ∀ y, S y → y < w.heap.size) (ht : TrAt w S nv t) (hlen : foLen t.kids ≤ 9223372036854775807) (hfit : foFit t.kids) :
    Calls Try.prog 7 #[nv, .int .i64 a, .int .i64 b] w (YesB w) := by
  obtain ⟨ka, tc, rfl, hcap, hk⟩ := trAt_cells ht
  obtain ⟨nk, hnk⟩ : ∃ n, n = foLen t.kids := ⟨_, rfl⟩
  obtain ⟨B, hB⟩ : ∃ B, B = w.alloc (.cells #[.int .i64 t.id, .int .i64 t.kind, .string t.text, .slice ka nk tc] 24) := ⟨_, rfl⟩
  have hb : Below w.heap.size w B := by rw [hB]; exact box_below _ _
  have hbx : B.heap[w.heap.size]? = some (.cells #[.int .i64 t.id, .int .i64 t.kind, .string t.text, .slice ka nk tc] 24 (0, 0)) := by rw [hB]; exact heap_alloc_new w _
  have hcl : ∀ X, Below w.heap.size w X → ∀ y, (CellsB w y ∧ S y) → CellsB X y := fun X hX y hy => by
    obtain ⟨⟨cs, ty, fr, hc⟩, _⟩ := hy
    exact ⟨cs, ty, fr, (hX.block y (lt_of_heap hc)).trans hc⟩
  have htr : ∀ X, Below w.heap.size w X → TrAt X (fun z => CellsB w z ∧ S z) (.agg #[.int .i64 t.id, .int .i64 t.kind, .string t.text, .slice ka nk tc]) t := fun X hX => ⟨ka, tc, by rw [hnk], hcap, hk.below hX (fun y hy => hS y hy.2)⟩
  have hwk := walkM_any 201 (by omega) B (fun z => CellsB w z ∧ S z) _ t hlen hfit (fun y hy => (hcl B hb y hy).lt) (htr B hb)
  have hsl : ∀ y, (CellsB w y ∧ S y) → y < w.heap.size := fun y hy => hS y hy.2
  rw [← hnk]
  have HWK := Lib.hid hwk
  have HC := Lib.hid (And.intro hb (And.intro hB hbx))
  have HT := Lib.hid (And.intro hcl (And.intro htr hsl))
  have HF := Lib.hid (And.intro hlen hfit)
  clear hwk hb hB hbx hcl htr hlen hfit hnk hk hcap hS ht hsl
  go_enter Try.func7, Try.ntmps7
  go_wp2_with fail
  rw [← HC.out.2.1]
  refine HWK.out.mono ?_
  rintro e w2 ⟨la, lc, rfl, hsp, hb2⟩
  obtain ⟨n, hn⟩ : ∃ n, n = ((spF 1 (rootF t)).take 201).length := ⟨_, rfl⟩
  rw [← hn] at hsp ⊢
  have HB := Lib.hid (HC.out.1.trans (hb2.mono HC.out.1.size))
  have HBX := Lib.hid ((hb2.block _ (lt_of_heap HC.out.2.2)).trans HC.out.2.2)
  have HO := Lib.hid (And.intro hsp hn)
  have hn2 : n ≤ 201 := by rw [hn, List.length_take]; omega
  clear hb2 hsp hn HWK
  by_cases hbig : 200 < n
  · have hbi : (200 : Int) < (n : Int) := by omega
    clear HT HF HO
    go_wp2_with fail
    refine (wakes_any w2).mono ?_
    rintro e w4 ⟨rfl, hb4⟩
    have HB4 := Lib.hid (HB.out.trans (hb4.mono HB.out.size))
    clear hb4
    go_wp2_with fail
    go_ret
    exact ⟨rfl, HB4.out⟩
  · have hbi : ¬ (200 : Int) < (n : Int) := by omega
    have hap := apart_any w2 (fun z => CellsB w z ∧ S z) _ la n lc _ HO.out.1 (by omega)
    have HAP := Lib.hid hap
    clear hap
    go_wp2_with fail
    refine HAP.out.mono ?_
    rintro e w3 ⟨ap, rfl, hnd, hb3⟩
    have HB3 := Lib.hid (HB.out.trans (hb3.mono HB.out.size))
    have HBX3 := Lib.hid ((hb3.block _ (lt_of_heap HBX.out)).trans HBX.out)
    have HL3 := Lib.hid hb3
    have HND := Lib.hid hnd
    clear hnd hb3 HAP
    cases ap
    · clear HT HF HO
      go_wp2_with fail
      refine (wakes_any w3).mono ?_
      rintro e w4 ⟨rfl, hb4⟩
      have HB4 := Lib.hid (HB3.out.trans (hb4.mono HB3.out.size))
      clear hb4
      go_wp2_with fail
      go_ret
      exact ⟨rfl, HB4.out⟩
    · have hall : (spF 1 (rootF t)).take 201 = spF 1 (rootF t) := by
        have h1 := HO.out.2
        rw [List.length_take] at h1
        exact List.take_of_length_le (by omega)
      have hd : DistT t := by
        have h1 := HND.out rfl
        rw [hall] at h1
        exact h1
      have hsz : foSize t.kids + 1 = n := by
        have h1 := HO.out.2
        rw [hall, spF_length, rootF_size] at h1
        omega
      have HD := Lib.hid (And.intro hd (show foSize t.kids ≤ 400000 by omega))
      have hsp := HO.out.1
      rw [hall] at hsp
      have HSP := Lib.hid hsp
      have HSZ := Lib.hid hsz
      have HSZN := Lib.hid (show (spF 1 (rootF t)).length = n by rw [spF_length, rootF_size]; exact hsz)
      clear hall hd hsz hsp hbig HND HO
      obtain ⟨c0, c1, c2, c3⟩ := box4 HBX3.out
      obtain ⟨⟨c, ok⟩, hc⟩ : ∃ z, z = commonT a b t := ⟨_, rfl⟩
      have HC1 : Hid (∀ X, Below w3.heap.size w3 X → Calls Try.prog 22 #[.agg #[.int .i64 t.id, .int .i64 t.kind, .string t.text, .slice ka nk tc], .int .i64 a, .int .i64 b] X fun e w' => e = .returned (.tuple #[.int .i64 c, .bool ok]) ∧ Below X.heap.size X w') := Lib.hid fun X hX => by
        have hX2 := HB3.out.trans (hX.mono HB3.out.size)
        have h := common_any X _ _ t a b (fun y hy => (HT.out.1 X hX2 y hy).lt) (HT.out.2.1 X hX2) HD.out.2
        rw [← hc] at h; exact h
      have HC2 : Hid (∀ X, Below w3.heap.size w3 X → Calls Try.prog 22 #[.agg #[.int .i64 t.id, .int .i64 t.kind, .string t.text, .slice ka nk tc], .int .i64 b, .int .i64 a] X fun e w' => e = .returned (.tuple #[.int .i64 c, .bool ok]) ∧ Below X.heap.size X w') := Lib.hid fun X hX => by
        have hX2 := HB3.out.trans (hX.mono HB3.out.size)
        have h := common_any X _ _ t b a (fun y hy => (HT.out.1 X hX2 y hy).lt) (HT.out.2.1 X hX2) HD.out.2
        rw [← common_comm a b t, ← hc] at h; exact h
      have HWI : Hid (∀ (X : World) (x y : Int), Below w3.heap.size w3 X → Calls Try.prog 16 #[.agg #[.int .i64 t.id, .int .i64 t.kind, .string t.text, .slice ka nk tc], .int .i64 x, .int .i64 y] X fun e w' => e = .returned (.bool (withinT x y t)) ∧ Below X.heap.size X w') := Lib.hid fun X x y hX => by
        have hX2 := HB3.out.trans (hX.mono HB3.out.size)
        exact within_any X _ _ t x y (fun y hy => (HT.out.1 X hX2 y hy).lt) (HT.out.2.1 X hX2) HD.out.2
      have HBOX : Hid (∀ X, Below w3.heap.size w3 X → X.cell? ⟨w.heap.size, 0, none⟩ = some (.int .i64 t.id) ∧ X.cell? ⟨w.heap.size, 1, none⟩ = some (.int .i64 t.kind) ∧ X.cell? ⟨w.heap.size, 2, none⟩ = some (.string t.text) ∧ X.cell? ⟨w.heap.size, 3, none⟩ = some (.slice ka nk tc)) := Lib.hid fun X hX => box4 ((hX.block _ (lt_of_heap HBX3.out)).trans HBX3.out)
      have HYES : Hid (ok = true → ∀ x, withinT x c t = (withinT x a t && withinT x b t)) := Lib.hid fun hok x => by
        rw [hok] at hc
        have hc1 : c = (commonT a b t).1 := by rw [← hc]
        rw [hc1]
        rw [commonT] at hc
        cases hpa : pathT a t with
        | none => rw [hpa] at hc; cases hc
        | some p =>
          cases hpb : pathT b t with
          | none => rw [hpa, hpb] at hc; cases hc
          | some q => exact common_within HD.out.1 hpa hpb
      have HNO : Hid (ok = false → c = 0 ∧ ∀ x, (withinT x a t && withinT x b t) = false) := Lib.hid fun hok => by
        have h := common_none (t := t) (a := a) (b := b) (by rw [← hc]; exact hok)
        rw [← hc] at h
        exact h
      clear hc
      go_wp2_with fail
      refine (HC1.out w3 (Below.refl _ _)).mono ?_
      rintro e w4 ⟨rfl, hb4⟩
      have HB4 := Lib.hid ((Lib.hid (Below.refl w3.heap.size w3)).out.trans (hb4.mono (Lib.hid (Below.refl w3.heap.size w3)).out.size))
      clear hb4 c0 c1 c2 c3
      obtain ⟨c0, c1, c2, c3⟩ := HBOX.out w4 HB4.out
      go_wp2_with fail
      refine (HC2.out w4 HB4.out).mono ?_
      rintro e w5 ⟨rfl, hb5⟩
      have HB5 := Lib.hid (HB4.out.trans (hb5.mono HB4.out.size))
      clear hb5 c0 c1 c2 c3
      obtain ⟨c0, c1, c2, c3⟩ := HBOX.out w5 HB5.out
      go_wp2_with fail
      have HB5' := Lib.hid HB5.out
      clear c0 c1 c2 c3 HC1 HC2
      go_loopw [12] (fun i wr => ∃ k : Nat, k ≤ n ∧ i = .int .i64 (k : Int) ∧ Hid (Below w3.heap.size w3 wr)) (fun i _ => n - (intOf i).toNat)
      case atStart => exact ⟨0, Nat.zero_le _, rfl, Lib.hid HB5.out⟩
      case round =>
        obtain ⟨k, hk, rfl, hh⟩ := hrel
        obtain ⟨c0, c1, c2, c3⟩ := HBOX.out wr hh.out
        by_cases hlt : k < n
        · obtain ⟨x, hx⟩ : ∃ x, (spF 1 (rootF t))[k]? = some x := ⟨_, List.getElem?_eq_getElem (by rw [spF_length, rootF_size, HSZ.out]; exact hlt)⟩
          have hsp := HSP.out
          obtain ⟨g, rfl, hg, d0, _⟩ := spots_ge hsp hx
          have hcap : n ≤ lc := by
            obtain ⟨_, xs, ho, _⟩ := hsp
            rcases ho.2 with ⟨hv, h0⟩ | ⟨_, _, _, hv, _, _, h3, _⟩
            · cases hv
            · cases hv; exact h3
          have p0 : wr.cell? ⟨g, k * 5, none⟩ = some (.int .i64 x.2.1.1) := (hh.out.cell (p := ⟨g, k * 5, none⟩) (Nat.lt_of_lt_of_le hg HL3.out.size)).trans ((HL3.out.cell (p := ⟨g, k * 5, none⟩) hg).trans d0)
          obtain ⟨z, hz⟩ : ∃ z, z = x.2.1.1 := ⟨_, rfl⟩
          rw [← hz] at p0
          have HK := Lib.hid (And.intro hx hlt)
          have hki : (k : Int) < (n : Int) := by omega
          clear hx hsp hg d0 hz hlt hk HSP
          cases ok
          · have HZ := Lib.hid ((HNO.out rfl).2 z)
            cases h1 : withinT z a t
            · skip
              go_wp2_with fail
              refine (HWI.out wr z a hh.out).mono ?_
              rintro e w6 ⟨rfl, hb6⟩
              have HB6 := Lib.hid (hh.out.trans (hb6.mono hh.out.size))
              clear hb6 c0 c1 c2 c3
              obtain ⟨c0, c1, c2, c3⟩ := HBOX.out w6 HB6.out
              rw [h1]
              go_wp2_with fail
              exact ⟨⟨k + 1, by have := HK.out.2; omega, by go_num, Lib.hid HB6.out⟩, by have := HK.out.2; simp [intOf]; omega⟩
            · cases h2 : withinT z b t
              · skip
                go_wp2_with fail
                refine (HWI.out wr z a hh.out).mono ?_
                rintro e w6 ⟨rfl, hb6⟩
                have HB6 := Lib.hid (hh.out.trans (hb6.mono hh.out.size))
                clear hb6 c0 c1 c2 c3
                obtain ⟨c0, c1, c2, c3⟩ := HBOX.out w6 HB6.out
                rw [h1]
                go_wp2_with fail
                refine (HWI.out w6 z b HB6.out).mono ?_
                rintro e w7 ⟨rfl, hb7⟩
                have HB7 := Lib.hid (HB6.out.trans (hb7.mono HB6.out.size))
                clear hb7 c0 c1 c2 c3
                obtain ⟨c0, c1, c2, c3⟩ := HBOX.out w7 HB7.out
                rw [h2]
                go_wp2_with fail
                exact ⟨⟨k + 1, by have := HK.out.2; omega, by go_num, Lib.hid HB7.out⟩, by have := HK.out.2; simp [intOf]; omega⟩
              · exact absurd HZ.out (by rw [h1, h2]; simp)
          · have HZ := Lib.hid (HYES.out rfl z)
            cases h1 : withinT z a t
            · have h3 : withinT z c t = false := by have := HZ.out; rw [h1] at this; simpa using this
              go_wp2_with fail
              refine (HWI.out wr z a hh.out).mono ?_
              rintro e w6 ⟨rfl, hb6⟩
              have HB6 := Lib.hid (hh.out.trans (hb6.mono hh.out.size))
              clear hb6 c0 c1 c2 c3
              obtain ⟨c0, c1, c2, c3⟩ := HBOX.out w6 HB6.out
              rw [h1]
              go_wp2_with fail
              refine (HWI.out w6 z c HB6.out).mono ?_
              rintro e w7 ⟨rfl, hb7⟩
              have HB7 := Lib.hid (HB6.out.trans (hb7.mono HB6.out.size))
              clear hb7 c0 c1 c2 c3
              obtain ⟨c0, c1, c2, c3⟩ := HBOX.out w7 HB7.out
              rw [h3]
              go_wp2_with fail
              exact ⟨⟨k + 1, by have := HK.out.2; omega, by go_num, Lib.hid HB7.out⟩, by have := HK.out.2; simp [intOf]; omega⟩
            · cases h2 : withinT z b t
              · have h3 : withinT z c t = false := by have := HZ.out; rw [h1, h2] at this; simpa using this
                go_wp2_with fail
                refine (HWI.out wr z a hh.out).mono ?_
                rintro e w6 ⟨rfl, hb6⟩
                have HB6 := Lib.hid (hh.out.trans (hb6.mono hh.out.size))
                clear hb6 c0 c1 c2 c3
                obtain ⟨c0, c1, c2, c3⟩ := HBOX.out w6 HB6.out
                rw [h1]
                go_wp2_with fail
                refine (HWI.out w6 z b HB6.out).mono ?_
                rintro e w7 ⟨rfl, hb7⟩
                have HB7 := Lib.hid (HB6.out.trans (hb7.mono HB6.out.size))
                clear hb7 c0 c1 c2 c3
                obtain ⟨c0, c1, c2, c3⟩ := HBOX.out w7 HB7.out
                rw [h2]
                go_wp2_with fail
                refine (HWI.out w7 z c HB7.out).mono ?_
                rintro e w8 ⟨rfl, hb8⟩
                have HB8 := Lib.hid (HB7.out.trans (hb8.mono HB7.out.size))
                clear hb8 c0 c1 c2 c3
                obtain ⟨c0, c1, c2, c3⟩ := HBOX.out w8 HB8.out
                rw [h3]
                go_wp2_with fail
                exact ⟨⟨k + 1, by have := HK.out.2; omega, by go_num, Lib.hid HB8.out⟩, by have := HK.out.2; simp [intOf]; omega⟩
              · have h3 : withinT z c t = true := by have := HZ.out; rw [h1, h2] at this; simpa using this
                go_wp2_with fail
                refine (HWI.out wr z a hh.out).mono ?_
                rintro e w6 ⟨rfl, hb6⟩
                have HB6 := Lib.hid (hh.out.trans (hb6.mono hh.out.size))
                clear hb6 c0 c1 c2 c3
                obtain ⟨c0, c1, c2, c3⟩ := HBOX.out w6 HB6.out
                rw [h1]
                go_wp2_with fail
                refine (HWI.out w6 z b HB6.out).mono ?_
                rintro e w7 ⟨rfl, hb7⟩
                have HB7 := Lib.hid (HB6.out.trans (hb7.mono HB6.out.size))
                clear hb7 c0 c1 c2 c3
                obtain ⟨c0, c1, c2, c3⟩ := HBOX.out w7 HB7.out
                rw [h2]
                go_wp2_with fail
                refine (HWI.out w7 z c HB7.out).mono ?_
                rintro e w8 ⟨rfl, hb8⟩
                have HB8 := Lib.hid (HB7.out.trans (hb8.mono HB7.out.size))
                clear hb8 c0 c1 c2 c3
                obtain ⟨c0, c1, c2, c3⟩ := HBOX.out w8 HB8.out
                rw [h3]
                go_wp2_with fail
                exact ⟨⟨k + 1, by have := HK.out.2; omega, by go_num, Lib.hid HB8.out⟩, by have := HK.out.2; simp [intOf]; omega⟩
        · have hki : ¬ (k : Int) < (n : Int) := by omega
          clear hlt hk
          cases ok
          · have h0 : c = 0 := (HNO.out rfl).1
            subst h0
            go_wp2_with fail
            refine (wakes_any wr).mono ?_
            rintro e w6 ⟨rfl, hb6⟩
            have HB6 := Lib.hid (HB3.out.trans ((hh.out.trans (hb6.mono hh.out.size)).mono HB3.out.size))
            clear hb6
            go_wp2_with fail
            go_ret
            exact ⟨rfl, HB6.out⟩
          · go_wp2_with fail
            refine (wakes_any wr).mono ?_
            rintro e w6 ⟨rfl, hb6⟩
            have HB6 := Lib.hid (HB3.out.trans ((hh.out.trans (hb6.mono hh.out.size)).mono HB3.out.size))
            clear hb6
            go_wp2_with fail
            go_ret
            exact ⟨rfl, HB6.out⟩
theorem common_fr (w : World) (nv : Value) (t : Tr) (a b : Int) (ht : TrAt w (Old w) nv t) (hft : Fits t) : Calls Try.prog 7 #[nv, .int .i64 a, .int .i64 b] w fun e w' => e = .returned (.bool true) ∧ Below w.heap.size w w' :=
  placeCommon_any w (Old w) nv t a b (fun _ h => h) ht hft.1 hft.2
end Go.Proofs.Ytjppibomjnmjpaa
