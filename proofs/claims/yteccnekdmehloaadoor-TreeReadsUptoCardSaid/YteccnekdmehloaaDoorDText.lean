/-
  The document's Text, New and End. No condition.
-/
import Derived.Test.YteccnekdmehloaaDoorDCount
import Derived.Deep.Slices
import Derived.Deep.RegionHeld3
namespace Go.Proofs.YteccnekdmehloaaDoor
open Go.RowKit
open Extern.Stop (cell)

/-- A count that may be as many as there are bytes. -/
theorem pCount_len {d : List UInt8} {size : Int} (p : Nat) (h : d.length ≤ 100000000) : pCount d size (d.length : Int) p = pCount d size 9223372036854775807 p := by
  cases hp : pNum d p with
  | error e => rw [pCount_err hp, pCount_err hp]
  | ok x =>
    obtain ⟨n, q⟩ := x
    rw [pCount_of hp, pCount_of hp]
    obtain ⟨h1, h2⟩ := pNum_ok hp
    have h0 : 0 ≤ (d.length : Int) - (q : Int) := by omega
    have := Int.ediv_le_self (a := (d.length : Int) - (q : Int)) size h0
    by_cases hn : n > ((d.length : Int) - (q : Int)) / size
    · rw [if_pos (Or.inr (Or.inr hn)), if_pos (Or.inr (Or.inr hn))]
    · by_cases h0 : n < 0
      · rw [if_pos (Or.inl h0), if_pos (Or.inl h0)]
      · rw [if_neg (by omega), if_neg (by omega)]
theorem pText_err {d : List UInt8} {p e : Nat} (hl : d.length ≤ 100000000) (h : pCount d 1 (d.length : Int) p = .error e) : pText d p = .error e := by
  rw [pCount_len p hl] at h
  unfold pText; rw [h]
theorem pText_of {d : List UInt8} {p n q : Nat} (hl : d.length ≤ 100000000) (h : pCount d 1 (d.length : Int) p = .ok (n, q)) : pText d p = .ok (⟨((d.drop q).take n).toArray⟩, q + n) := by
  rw [pCount_len p hl] at h
  unfold pText; rw [h]
theorem not_fz {α : Type} {s : Rd} {o : Got α} (h : ¬ Fz s o) : s.bad = false ∧ ∃ x q, o = .ok (x, q) := by
  refine ⟨by by_cases hb : s.bad = true; exact absurd (Or.inl hb) h; simpa using hb, ?_⟩
  cases o with
  | error p => exact absurd (Or.inr ⟨p, rfl⟩) h
  | ok x => exact ⟨x.1, x.2, rfl⟩
theorem conv_part {w : World} {ad : Addr} {d : List UInt8} {q n : Nat} (cap : Nat) (h : ByAt w (some ad) d) (hn : q + n ≤ d.length) : (convert 22 9 (.slice (some (ad.add q)) n cap)).run Tryd.prog w = .ok (.string ⟨((d.drop q).take n).toArray⟩) w := by
  have hl : ((d.drop q).take n).length = n := by simp; omega
  have := run_convert_bytes_back w 22 9 5 (ad.add q) cap ((d.drop q).take n) Tryd.underlying22 Tryd.underlying5 Tryd.underlying9 (fun j hj => by
    rw [Deep.add_add]
    refine h.2 ad rfl _ _ ?_
    rw [← List.getElem?_eq_getElem hj, ]
    rw [hl] at hj
    rw [List.getElem?_take, if_pos hj, List.getElem?_drop])
  rw [hl] at this
  exact this
theorem conv_part2 {w : World} {ad : Addr} {d : List UInt8} {q n cap : Nat} {sx : Option Addr} (hsx : sx = if cap = q then some ad else some (ad.add q)) (h : ByAt w (some ad) d) (hn : q + n ≤ d.length) (hc : d.length ≤ cap) : (convert 22 9 (.slice sx n (cap - q))).run Tryd.prog w = .ok (.string ⟨((d.drop q).take n).toArray⟩) w := by
  subst hsx
  by_cases hq : cap = q
  · rw [if_pos hq]
    have h0 : n = 0 := by omega
    subst h0
    have := run_convert_bytes_back w 22 9 5 ad (cap - q) [] Tryd.underlying22 Tryd.underlying5 Tryd.underlying9 (fun j hj => by simp at hj)
    rw [List.take_zero]
    exact this
  · rw [if_neg hq]
    exact conv_part _ h hn
set_option linter.unusedSimpArgs false in
set_option maxRecDepth 100000 in
set_option maxHeartbeats 1000000 in
theorem dText (w : World) (rb : Nat) (a : Option Addr) (cap : Nat) (s : Rd) (m : Int) (h : RfAt w rb a cap s m) :
    Calls Tryd.prog 67 #[.pointer (some ⟨rb, 0, none⟩)] w (RefCC (.string ⟨#[]⟩) TextV w rb a cap s m (pText s.data s.pos)) := by
  have hN := dCount w rb a cap s m 1 (s.data.length : Int) (by decide) (by decide) h
  obtain ⟨c0, _, _, _, at_, c1, hat⟩ := h.cells
  have hfew := h.few
  by_cases hf : Fz s (pCount s.data 1 (s.data.length : Int) s.pos)
  · have HN := Lib.hid (RefCC.fell hN hf)
    have hf2 := aft_same (o' := pText s.data s.pos) (fun p => pText_err hfew) hf
    have HF := Lib.hid (And.intro hf2 (aft_bad hf))
    clear hN h hat hf hf2
    go_enter Tryd.func67, Tryd.ntmps67
    go_wp2_with (go_at_call 68; refine HN.out.mono ?_; clear HN; rintro e w1 ⟨rfl, h1, h2⟩; obtain ⟨p', h0, c2⟩ := h1.failedP HF.out.2; have HR := Lib.hid (And.intro h1 h2); clear h1 h2)
    go_ret
    exact RefCC.of_fell HF.out.1.2 (by rw [HF.out.1.1]; exact HR.out.1) HR.out.2
  · obtain ⟨hb, n, q, hp⟩ := not_fz hf
    have HN := Lib.hid (RefCC.went hN hb hp)
    obtain ⟨k1, k2, k3, k4⟩ := pCount_ok hp
    obtain ⟨ad, rfl⟩ : ∃ ad, a = some ad := by
      cases a with
      | none => have := h.byt.1 rfl; rw [this] at k1; simp at k1
      | some ad => exact ⟨ad, rfl⟩
    obtain ⟨j, hj⟩ : ∃ j : Nat, j = q + n := ⟨_, rfl⟩
    have hjn : (q : Int) + (n : Int) = (j : Int) := by omega
    have hjl : (j : Int) ≤ (s.data.length : Int) := by omega
    have hjb : (j : Int) ≤ 100000000 := by omega
    have HP := Lib.hid (And.intro hb (And.intro (pText_of hfew hp) (And.intro hj (show q + n ≤ s.data.length by omega))))
    have HM := Lib.hid (fun X (hX : RfAt X rb (some ad) cap { s with pos := q } m) => And.intro (hX.move hb j (show j ≤ s.data.length by omega)) (Touched.setCell (w := X) (S := fun k => k = rb) (a := ⟨rb, 1, none⟩) rfl (.int .i64 (j : Int))))
    have hroom := h.room
    obtain ⟨sx, hsx⟩ : ∃ sx, sx = if cap = q then some ad else some (ad.add q) := ⟨_, rfl⟩
    have HSX := Lib.hid hsx
    clear hsx
    have hw1 : IntKind.i64.wrap ((j : Int) - (n : Int)) = (q : Int) := by rw [IntKind.wrap_i64]; omega
    have q0 : 0 ≤ (q : Int) := by omega
    have q1 : (q : Int) ≤ (j : Int) := by omega
    have q2 : (q : Int).toNat = q := by omega
    have q3 : (j : Int).toNat = j := by omega
    have q4 : j - q = n := by omega
    have q5 : (j : Int) ≤ (cap : Int) := by omega
    clear hN h hat hf hp k1 k2 k3 k4 hj hb
    go_enter Tryd.func67, Tryd.ntmps67
    go_wp2_with (go_at_call 68; refine HN.out.mono ?_; clear HN; rintro e w1 ⟨v, rfl, rfl, h1, h2⟩; obtain ⟨e0, e1, e2, e3, ef⟩ := h1.good HP.out.1; obtain ⟨h3, h4⟩ := HM.out w1 h1; have hg := (h3.good HP.out.1); have f0 := hg.1; have f1 := hg.2.1; have HCV := Lib.hid (conv_part2 HSX.out (h3.drewN 1).byt HP.out.2.2.2 hroom.1); have HR := Lib.hid (And.intro h3 (h2.trans h4 (fun k hk => Or.inl hk))); clear h1 h2 h3 h4 hg)
    generalize w1.setCell ⟨rb, 1, none⟩ (.int .i64 (j : Int)) = w2 at *
    refine wp_region_held_drew (S := fun X => X.cell? ⟨rb, 0, none⟩ = some (.slice (some ad) s.data.length cap) ∧ X.cell? ⟨rb, 1, none⟩ = some (.int .i64 (j : Int)) ∧ (convert 22 9 (.slice sx n (cap - q))).run Tryd.prog X = .ok (.string ⟨((s.data.drop q).take n).toArray⟩) X) (by kernel_rfl) ⟨f0, f1, HCV.out⟩ (fun hHeld => ?_)
    refine wpAnyH_take (i := 0) (oi := _) (v := .pointer (some ⟨rb, 0, none⟩)) rfl (by kernel_rfl) (by kernel_rfl) (by kernel_rfl) (fun _ _ _ h => h) (Or.inl ⟨by rfl, ?_⟩) (by assumption) ?_
    · clear hHeld; intro X hSw; obtain ⟨g0, g1, gc⟩ := hSw; go_simp
    simp only [Act.put, List.getElem_toArray, List.getElem_cons_zero, List.getElem_cons_succ, List.setIfInBounds_toArray, List.set_cons_zero, List.set_cons_succ]
    refine wpAnyH_take (i := 1) (oi := _) (v := .pointer (some ⟨rb, 0, none⟩)) rfl (by kernel_rfl) (by kernel_rfl) (by kernel_rfl) (fun _ _ _ h => h) (Or.inl ⟨by rfl, ?_⟩) (by assumption) ?_
    · clear hHeld; intro X hSw; obtain ⟨g0, g1, gc⟩ := hSw; go_simp
    simp only [Act.put, List.getElem_toArray, List.getElem_cons_zero, List.getElem_cons_succ, List.setIfInBounds_toArray, List.set_cons_zero, List.set_cons_succ]
    refine wpAnyH_take (i := 2) (oi := _) (v := .pointer (some ⟨rb, 0, none⟩)) rfl (by kernel_rfl) (by kernel_rfl) (by kernel_rfl) (fun _ _ _ h => h) (Or.inl ⟨by rfl, ?_⟩) (by assumption) ?_
    · clear hHeld; intro X hSw; obtain ⟨g0, g1, gc⟩ := hSw; go_simp
    simp only [Act.put, List.getElem_toArray, List.getElem_cons_zero, List.getElem_cons_succ, List.setIfInBounds_toArray, List.set_cons_zero, List.set_cons_succ]
    refine wpAnyH_take (i := 3) (oi := _) (v := .slice (some ad) s.data.length cap) rfl (by kernel_rfl) (by kernel_rfl) (by kernel_rfl) (fun _ _ _ h => h) (Or.inl ⟨by rfl, ?_⟩) (by assumption) ?_
    · clear hHeld; intro X hSw; obtain ⟨g0, g1, gc⟩ := hSw; go_simp
    simp only [Act.put, List.getElem_toArray, List.getElem_cons_zero, List.getElem_cons_succ, List.setIfInBounds_toArray, List.set_cons_zero, List.set_cons_succ]
    refine wpAnyH_take (i := 4) (oi := _) (v := .pointer (some ⟨rb, 0, none⟩)) rfl (by kernel_rfl) (by kernel_rfl) (by kernel_rfl) (fun _ _ _ h => h) (Or.inl ⟨by rfl, ?_⟩) (by assumption) ?_
    · clear hHeld; intro X hSw; obtain ⟨g0, g1, gc⟩ := hSw; go_simp
    simp only [Act.put, List.getElem_toArray, List.getElem_cons_zero, List.getElem_cons_succ, List.setIfInBounds_toArray, List.set_cons_zero, List.set_cons_succ]
    refine wpAnyH_take (i := 5) (oi := _) (v := .pointer (some ⟨rb, 0, none⟩)) rfl (by kernel_rfl) (by kernel_rfl) (by kernel_rfl) (fun _ _ _ h => h) (Or.inl ⟨by rfl, ?_⟩) (by assumption) ?_
    · clear hHeld; intro X hSw; obtain ⟨g0, g1, gc⟩ := hSw; go_simp
    simp only [Act.put, List.getElem_toArray, List.getElem_cons_zero, List.getElem_cons_succ, List.setIfInBounds_toArray, List.set_cons_zero, List.set_cons_succ]
    refine wpAnyH_take (i := 6) (oi := _) (v := .pointer (some ⟨rb, 1, none⟩)) rfl (by kernel_rfl) (by kernel_rfl) (by kernel_rfl) (fun _ _ _ h => h) (Or.inl ⟨by rfl, ?_⟩) (by assumption) ?_
    · clear hHeld; intro X hSw; obtain ⟨g0, g1, gc⟩ := hSw; go_simp
    simp only [Act.put, List.getElem_toArray, List.getElem_cons_zero, List.getElem_cons_succ, List.setIfInBounds_toArray, List.set_cons_zero, List.set_cons_succ]
    refine wpAnyH_take (i := 7) (oi := _) (v := .int .i64 (j : Int)) rfl (by kernel_rfl) (by kernel_rfl) (by kernel_rfl) (fun _ _ _ h => h) (Or.inl ⟨by rfl, ?_⟩) (by assumption) ?_
    · clear hHeld; intro X hSw; obtain ⟨g0, g1, gc⟩ := hSw; go_simp
    simp only [Act.put, List.getElem_toArray, List.getElem_cons_zero, List.getElem_cons_succ, List.setIfInBounds_toArray, List.set_cons_zero, List.set_cons_succ]
    refine wpAnyH_take (i := 8) (oi := _) (v := .int .i64 (n : Int)) rfl (by kernel_rfl) (by kernel_rfl) (by kernel_rfl) (fun _ _ _ h => h) (Or.inl ⟨by rfl, ?_⟩) (by assumption) ?_
    · clear hHeld; intro X hSw; obtain ⟨g0, g1, gc⟩ := hSw; go_simp
    simp only [Act.put, List.getElem_toArray, List.getElem_cons_zero, List.getElem_cons_succ, List.setIfInBounds_toArray, List.set_cons_zero, List.set_cons_succ]
    refine wpAnyH_take (i := 9) (oi := _) (v := .int .i64 (q : Int)) rfl (by kernel_rfl) (by kernel_rfl) (by kernel_rfl) (fun _ _ _ h => h) (Or.inl ⟨by rfl, ?_⟩) (by assumption) ?_
    · clear hHeld; intro X hSw; obtain ⟨g0, g1, gc⟩ := hSw; go_simp
    simp only [Act.put, List.getElem_toArray, List.getElem_cons_zero, List.getElem_cons_succ, List.setIfInBounds_toArray, List.set_cons_zero, List.set_cons_succ]
    refine wpAnyH_take (i := 10) (oi := _) (v := .pointer (some ⟨rb, 0, none⟩)) rfl (by kernel_rfl) (by kernel_rfl) (by kernel_rfl) (fun _ _ _ h => h) (Or.inl ⟨by rfl, ?_⟩) (by assumption) ?_
    · clear hHeld; intro X hSw; obtain ⟨g0, g1, gc⟩ := hSw; go_simp
    simp only [Act.put, List.getElem_toArray, List.getElem_cons_zero, List.getElem_cons_succ, List.setIfInBounds_toArray, List.set_cons_zero, List.set_cons_succ]
    refine wpAnyH_take (i := 11) (oi := _) (v := .pointer (some ⟨rb, 0, none⟩)) rfl (by kernel_rfl) (by kernel_rfl) (by kernel_rfl) (fun _ _ _ h => h) (Or.inl ⟨by rfl, ?_⟩) (by assumption) ?_
    · clear hHeld; intro X hSw; obtain ⟨g0, g1, gc⟩ := hSw; go_simp
    simp only [Act.put, List.getElem_toArray, List.getElem_cons_zero, List.getElem_cons_succ, List.setIfInBounds_toArray, List.set_cons_zero, List.set_cons_succ]
    refine wpAnyH_take (i := 12) (oi := _) (v := .pointer (some ⟨rb, 1, none⟩)) rfl (by kernel_rfl) (by kernel_rfl) (by kernel_rfl) (fun _ _ _ h => h) (Or.inl ⟨by rfl, ?_⟩) (by assumption) ?_
    · clear hHeld; intro X hSw; obtain ⟨g0, g1, gc⟩ := hSw; go_simp
    simp only [Act.put, List.getElem_toArray, List.getElem_cons_zero, List.getElem_cons_succ, List.setIfInBounds_toArray, List.set_cons_zero, List.set_cons_succ]
    refine wpAnyH_take (i := 13) (oi := _) (v := .int .i64 (j : Int)) rfl (by kernel_rfl) (by kernel_rfl) (by kernel_rfl) (fun _ _ _ h => h) (Or.inl ⟨by rfl, ?_⟩) (by assumption) ?_
    · clear hHeld; intro X hSw; obtain ⟨g0, g1, gc⟩ := hSw; go_simp
    simp only [Act.put, List.getElem_toArray, List.getElem_cons_zero, List.getElem_cons_succ, List.setIfInBounds_toArray, List.set_cons_zero, List.set_cons_succ]
    refine wpAnyH_take (i := 14) (oi := _) (v := .slice sx n (cap - q)) rfl (by kernel_rfl) (by kernel_rfl) (by kernel_rfl) (fun _ _ _ h => h) (Or.inl ⟨by rfl, ?_⟩) (by assumption) ?_
    · clear hHeld; intro X hSw; obtain ⟨g0, g1, gc⟩ := hSw; go_simp; exact HSX.out.symm
    simp only [Act.put, List.getElem_toArray, List.getElem_cons_zero, List.getElem_cons_succ, List.setIfInBounds_toArray, List.set_cons_zero, List.set_cons_succ]
    refine wpAnyH_take (i := 15) (oi := _) (v := .string ⟨((s.data.drop q).take n).toArray⟩) rfl (by kernel_rfl) (by kernel_rfl) (by kernel_rfl) (fun _ _ _ h => h) (Or.inl ⟨by rfl, ?_⟩) (by assumption) ?_
    · clear hHeld; intro X hSw; obtain ⟨g0, g1, gc⟩ := hSw; go_simp
    simp only [Act.put, List.getElem_toArray, List.getElem_cons_zero, List.getElem_cons_succ, List.setIfInBounds_toArray, List.set_cons_zero, List.set_cons_succ]
    refine wpAnyH_take (i := 16) (oi := _) (v := .string ⟨((s.data.drop q).take n).toArray⟩) rfl (by kernel_rfl) (by kernel_rfl) (by kernel_rfl) (fun _ _ _ h => h) (Or.inl ⟨by rfl, ?_⟩) (by assumption) ?_
    · clear hHeld; intro X hSw; obtain ⟨g0, g1, gc⟩ := hSw; go_simp
    simp only [Act.put, List.getElem_toArray, List.getElem_cons_zero, List.getElem_cons_succ, List.setIfInBounds_toArray, List.set_cons_zero, List.set_cons_succ]
    refine wpAnyH_done (by kernel_rfl) ?_ _
    go_wp2_with fail
    go_ret
    exact RefCC.of_went HP.out.1 HP.out.2.1 rfl (by rw [← HP.out.2.2.1]; exact HR.out.1.drewN 1) (HR.out.2.trans (drewN_touched w2 1 _) (fun k hk => Or.inl hk))
end Go.Proofs.YteccnekdmehloaaDoor
