/-
  The program's Of: a row's normal form. No condition but that the row is not too great, and that ids are numbers of 64 bits.
-/
import Derived.Test.YtpbjncljecfaeaaNStepsWQf
namespace Go.Proofs.Ytpbjncljecfaeaa
open Go.RowKit Go.Shelf
attribute [local go_sem] Oper.semAt_some
set_option linter.unusedVariables false
set_option linter.unusedSimpArgs false

theorem ofK_seq (l : List Sf) (n : Nat) : ∀ k, k ≤ n → live k l → ofK n l = ofK (n - k) (seqK k l)
  | 0, _, _ => rfl
  | k + 1, hk, h => by
    rw [ofK_seq l n k (by omega) (fun j hj => h j (by omega)), show n - k = (n - (k + 1)) + 1 by omega, ofK, if_pos (h k (by omega)), seqK]
theorem ofK_end {l : List Sf} {n k : Nat} (hn : l.length ≤ n) (hl : live k l) (h : (onceK (seqK k l)).2 = false) : ofK n l = seqK k l := by
  have := live_len k hl
  rw [ofK_seq l n k (by omega) hl, ofK_is h]
theorem rowS_putD {V : World} {a : Option Addr} {n c D : Nat} {vs : List SV} {o o' : Obj} (h : RowS V a n c vs) (hD : V.heap[D]? = some o) (ho : o.isCells = false) : RowS (V.putObj D o') a n c vs := by
  have hne : ∀ {b off : Nat} {u : Value}, V.cell? ⟨b, off, none⟩ = some u → b ≠ D := fun {b off u} hc e => by
    obtain ⟨cs, T, fr, hh⟩ := cellsB hc
    rw [e, hD] at hh
    cases hh
    cases ho
  have hs : (V.putObj D o').heap.size = V.heap.size := by simp [World.putObj]
  refine ⟨⟨fun k x hx => ?_, fun x hx => ?_, h.row.fit, h.row.len⟩, h.len, h.cap, h.nil⟩
  · obtain ⟨b, off, e, hb, hc⟩ := h.row.cells k x hx
    refine ⟨b, off, e, by rw [hs]; exact hb, fun j u hj => ?_⟩
    have h1 := hc j u hj
    rw [World.cell?_of_block (a := ⟨b, off + k * 9 + j, none⟩) (World.putObj_heap_other (hne h1))]
    exact h1
  · obtain ⟨h1, h2⟩ := h.row.lies x hx
    refine ⟨h1, (fo_big h2).kept fun q hq => ⟨by rw [hs]; exact hq.1, World.putObj_heap_other (fun e => hq.2 (fun cs T fr hc => by
      rw [e, hD] at hc
      cases hc
      cases ho))⟩⟩
/-- What Of's loop holds. -/
def OfI (w : World) (k R : Nat) (V : World) : Prop := ∃ p : Option Addr, V.heap[w.heap.size]? = some (.cells #[.pointer p] 53 (0, 0)) ∧ (0 < k → p = some ⟨R, 0, none⟩) ∧ SameLow w.heap.size w V
set_option maxRecDepth 100000 in
set_option maxHeartbeats 8000000 in
theorem ofW_any (w : World) (la : Option Addr) (n c : Nat) (vs : List SV) (hr : RowS w la n c vs) (hn6 : n ≤ 10000) (hz : ∀ x ∈ vs, foSize x.s.sub.kids + 1 ≤ 100000) (hw : ∀ x ∈ vs, Wf64 x.s) :
    Calls Try.prog 11 #[.slice la n c] w (OfC (ofK n (steps vs)) w) := by
  obtain ⟨W, hW⟩ : ∃ W, W = (w.alloc (.cells #[.pointer none] 53)).alloc (.cells #[.slice la n c] 29) := ⟨_, rfl⟩
  have hb : Below w.heap.size w W := by rw [hW]; exact ((Below.refl _ _).alloc (Nat.le_refl _) _).alloc (by simp) _
  have hs : W.heap.size = w.heap.size + 2 := by rw [hW]; simp
  have e0 : W.heap[w.heap.size]? = some (.cells #[.pointer none] 53 (0, 0)) := by rw [hW, Below.heap_alloc _ _ _ (by simp)]; exact heap_alloc_new _ _
  have e1 : W.heap[w.heap.size + 1]? = some (.cells #[.slice la n c] 29 (0, 0)) := by
    have := heap_alloc_new (w.alloc (.cells #[.pointer none] 53)) (.cells #[.slice la n c] 29)
    rw [World.size_alloc] at this
    rw [hW]; exact this
  have hN : W.cell? ⟨w.heap.size + 1, 0, none⟩ = some (.slice la n c) := by rw [cell_of_row _ _ _ _ _ _ e1]; rfl
  have HW := Lib.hid hW
  have HH := Lib.hid (And.intro hb (And.intro hs (And.intro e0 (And.intro hN (And.intro hr (And.intro hn6 (And.intro hz hw)))))))
  clear hW hb hs e0 e1 hN hr hn6 hz hw
  refine (callsIn_wide (n := 6)).1 ?_
  refine callsIn_of_wp_marks Try.func11 rfl trivial ?_ rfl
  simp only [Try.ntmps11, List.size_toArray, List.length_cons, List.length_nil, Nat.reduceAdd, Nat.reduceSub, Array.replicate_succ, Array.replicate_zero, List.push_toArray, List.append_toArray, List.nil_append, List.cons_append]
  gi_wp2_with (refine ⟨trivial, ?_⟩; gi_at_call 24; refine (callsIn_wide.2 (rows_fn _ _ _ _)).mono ?_; rintro e w' ⟨rfl, rfl⟩)
  rw [← HW.out]
  refine range_rows (by omega) rfl la n c vs HH.out.2.2.2.1 (HH.out.2.2.2.2.1.on HH.out.1) HH.out.2.2.2.2.2.1 HH.out.2.2.2.2.2.2.1 HH.out.2.2.2.2.2.2.2 rfl (OfI w) (fun _ _ => False) ?hI ?hIx ?h0 ?rnd ?done ?stop
  case hI =>
    rintro k R V V' ⟨p, h1, h2, h3⟩ hl
    have hs := HH.out.2.1
    exact ⟨p, (hl.block _ (by omega)).trans h1, h2, ⟨hl.os.trans h3.os, hl.tape.trans h3.tape, hl.output.trans h3.output, fun q hq => (hl.block q (by omega)).trans (h3.block q hq)⟩⟩
  case hIx => exact fun h _ => h.elim
  case h0 => exact fun R _ => ⟨none, HH.out.2.2.1, fun h => by omega, ⟨HH.out.1.os, HH.out.1.tape, HH.out.1.output, HH.out.1.block⟩⟩
  case stop => exact fun _ _ _ _ h _ => h.elim
  case rnd =>
    rintro l hl k R w0 V hw0 hlv hst ⟨p, h1, h2, h3⟩ K hK
    have b0 : V.cell? ⟨w.heap.size, 0, none⟩ = some (.pointer p) := by rw [cell_of_row _ _ _ _ _ _ h1]; rfl
    have bf : V.frozen? ⟨w.heap.size, 0, none⟩ = false := frozen_of_row _ _ _ _ _ h1
    have HK := Lib.hid (And.intro hK (And.intro h1 (And.intro h2 (And.intro h3 hl))))
    clear hK h1 h2 h3 hl hst hlv hw0
    gi_wp2
    obtain ⟨hK, h1, h2, h3, hl⟩ := HK.out
    have hs := HH.out.2.1
    have hne : ∀ q, q ≠ w.heap.size → (V.setCell ⟨w.heap.size, 0, none⟩ (.pointer (some ⟨R, 0, none⟩))).heap[q]? = V.heap[q]? := fun q hq => Below.heap_setCell _ _ _ _ hq
    refine hK _ _ ⟨rfl, rfl, rfl, by simp [World.setCell], fun q hq => ?_⟩ (hne _ (by omega)) (hne _ (by omega)) fun V' hV' => ?_
    · by_cases e : q = w.heap.size
      · refine Or.inr ⟨by omega, fun cs T fr hc => ?_⟩
        rw [e, h1] at hc
        cases hc
        simp
      · exact Or.inl (hne q e)
    · obtain ⟨o', ev, o, ho, hoc⟩ := hV'
      have hset := heap_setCell_same V w.heap.size 0 _ _ (.pointer (some ⟨R, 0, none⟩)) h1
      have hEND : LeftR W.heap.size (OfI w) (fun _ _ => False) k R V' .normal { tmps := #[], defers := [] } V' := by
        refine ⟨TouchS.refl _ _, rfl, rfl, .inl ⟨rfl, some ⟨R, 0, none⟩, ?_, fun _ => rfl, ?_⟩⟩
        · rw [ev, World.putObj_heap_other (by omega), hset]; rfl
        · rw [ev]
          exact ⟨h3.os, h3.tape, h3.output, fun q hq => by rw [World.putObj_heap_other (by omega), hne q (by omega)]; exact h3.block q hq⟩
      have HEND := Lib.hid hEND
      clear hEND hset ev ho hoc hne hK h1 h2 h3 hl b0 bf
      gi_wp2
      exact HEND.out
  case done =>
    rintro D k R w0 V hD hw0 hlv hno hst ⟨p, h1, h2, h3⟩ hK
    have hp := h2 (by omega)
    subst hp
    have b0 : V.cell? ⟨w.heap.size, 0, none⟩ = some (.pointer (some ⟨R, 0, none⟩)) := by rw [cell_of_row _ _ _ _ _ _ h1]; rfl
    have HD := Lib.hid (And.intro hD (And.intro hw0 (And.intro hlv (And.intro hno (And.intro hst (And.intro h3 hK))))))
    have HT := Lib.hid (rtold_any hst)
    clear hD hw0 hlv hno hst h3 hK h1 h2
    gi_wp2
    refine ⟨trivial, ?_⟩
    refine (callsIn_wide.2 HT.out).mono ?_
    rintro e V2 ⟨ra, rn, rc, js, rfl, hrs, hjs, hb2⟩
    obtain ⟨hD, hw0, hlv, hno, hst, h3, hK⟩ := HD.out
    have hDl := lt_of_heap hK
    have hK2 := (hb2.block D hDl).trans hK
    have hE : OfC (ofK n (steps vs)) w (.returned (.slice ra rn rc)) (takenW V2 [D]) := by
      have hsz := hst.size
      have hs := HH.out.2.1
      refine ⟨ra, rn, rc, js, rfl, rowS_putD hrs hK2 rfl, ?_, ⟨hb2.os.trans h3.os, hb2.tape.trans h3.tape, hb2.output.trans h3.output, by rw [takenW_size]; have := hb2.size; omega, fun q hq => ?_⟩⟩
      · rw [hjs, ofK_end (by rw [steps_len, ← HH.out.2.2.2.2.1.len]; exact Nat.le_refl _) hlv hno]
      · rw [takenW_other _ _ (by simp; omega), hb2.block q (by omega)]
        exact h3.block q hq
    have HE := Lib.hid (And.intro hE hK2)
    clear hE hK2 hrs hjs hb2 hD hw0 hlv hno hst h3 hK b0 HT HD hDl
    gi_wp2
    exact leaves_marks [D] _ (by simp) (fun D' hD' => by simp at hD'; rw [hD']; exact HE.out.2) (fun w' => by simp [results]) HE.out.1
end Go.Proofs.Ytpbjncljecfaeaa
