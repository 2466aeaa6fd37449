/-
  What 'Great' of layer 3 answers: where it answers false the tree has at most 250 nodes. No condition but that no row of kids is longer than a slice may be.
-/
import Derived.Test.YtfdcopegkhofnaaVWalkQb
namespace Go.Proofs.Ytfdcopegkhofnaa
open Go.RowKit
set_option linter.unusedVariables false

def GreatC3 (w : World) (t : Tr) (e : Ending) (w' : World) : Prop := ∃ b, e = .returned (.bool b) ∧ (b = false → foSize t.kids + 1 ≤ 250) ∧ Below w.heap.size w w'
theorem spots_ge {S : Nat → Prop} {w : World} {B n : Nat} {a : Option Addr} {cap : Nat} {T : List Sp} (h : SpotsN S w B (.slice a n cap) n T) {k : Nat} {x : Sp} (hx : T[k]? = some x) : ∃ g, a = some ⟨g, 0, none⟩ ∧ g < w.heap.size ∧ w.cell? ⟨g, k * 5, none⟩ = some (.int .i64 x.2.1.1) ∧ w.cell? ⟨g, k * 5 + 1, none⟩ = some (.int .i64 x.2.1.2.1) ∧ w.cell? ⟨g, k * 5 + 2, none⟩ = some (.string x.2.1.2.2) ∧ (∃ ka c, w.cell? ⟨g, k * 5 + 3, none⟩ = some (.slice ka (foLen x.2.2) c) ∧ foLen x.2.2 ≤ c ∧ FoAt w S x.2.2 ka) ∧ w.cell? ⟨g, k * 5 + 4, none⟩ = some (.int .i64 (x.1 : Int)) := by
  obtain ⟨hT, xs, ho, hxs⟩ := h
  have hk := (List.getElem?_eq_some_iff.1 hx).1
  have hgg : ∃ g, a = some ⟨g, 0, none⟩ := by
    rcases ho.2 with ⟨hv, h0⟩ | ⟨g, cap2, cur, hv, _⟩
    · omega
    · cases hv; exact ⟨g, rfl⟩
  obtain ⟨g, rfl⟩ := hgg
  obtain ⟨p0, p1, p2, ⟨ka, c, p3, q1, q2⟩, p4⟩ := hxs k x hx
  exact ⟨g, rfl, (owns_bounds ho rfl).2, owns_cell ho rfl _ _ p0, owns_cell ho rfl _ _ p1, owns_cell ho rfl _ _ p2, ⟨ka, c, owns_cell ho rfl _ _ p3, q1, q2⟩, owns_cell ho rfl _ _ p4⟩
set_option maxRecDepth 100000 in
set_option maxHeartbeats 1000000 in
theorem great3_any (w : World) (S : Nat → Prop) (v : Value) (t : Tr) (hlen : foLen t.kids ≤ 9223372036854775807) (hfit : foFit t.kids) (hS : ∀ k, S k → k < w.heap.size) (hv : TrAt w S v t) :
    Calls Try.prog 13 #[v] w (GreatC3 w t) := by
  obtain ⟨ka, cap, rfl, hcp, hk⟩ := hv
  have hb : Below w.heap.size w (w.alloc (.cells #[.int .i64 t.id, .int .i64 t.kind, .string t.text, .slice ka (foLen t.kids) cap] 24)) := (Below.refl _ _).alloc (Nat.le_refl _) _
  have hc := walkM_any 251 (by omega) (w.alloc (.cells #[.int .i64 t.id, .int .i64 t.kind, .string t.text, .slice ka (foLen t.kids) cap] 24)) S _ t hlen hfit (fun k hk => Nat.lt_of_lt_of_le (hS k hk) hb.size) ⟨ka, cap, rfl, hcp, hk.below hb hS⟩
  have HC := Lib.hid (And.intro hc hb)
  clear hc hb hk hfit hS hcp
  obtain ⟨len, hl⟩ : ∃ len, len = foLen t.kids := ⟨_, rfl⟩
  rw [← hl] at HC
  rw [← hl]
  clear hl
  go_enter Try.func13, Try.ntmps13
  go_wp2_with fail
  refine HC.out.1.mono ?_
  rintro e w2 ⟨a, cap', rfl, hsp, hb2⟩
  have HB := Lib.hid (show Below w.heap.size w w2 from HC.out.2.trans (hb2.mono HC.out.2.size))
  obtain ⟨n, hn⟩ : ∃ n, n = ((spF 1 (rootF t)).take 251).length := ⟨_, rfl⟩
  rw [← hn] at hsp ⊢
  have HO := Lib.hid (And.intro hsp hn)
  have hn2 : n ≤ 251 := by rw [hn, List.length_take]; omega
  clear hb2 hn hsp
  go_wp2_with fail
  go_loop [4, 5, 10] (fun s _ i => ∃ k : Nat, k ≤ n ∧ i = .int .i64 k ∧ ∃ q : Nat, s = .int .i64 q ∧ q ≤ 20000) (fun _ _ i => n - (intOf i).toNat)
  case atStart => exact ⟨0, Nat.zero_le _, rfl, 0, rfl, by omega⟩
  case round =>
    obtain ⟨k, hk, rfl, q, rfl, hq⟩ := hrel
    by_cases hlt : k < n
    · obtain ⟨p, hp⟩ : ∃ p, ((spF 1 (rootF t)).take 251)[k]? = some p := ⟨_, List.getElem?_eq_getElem (by rw [← HO.out.2]; exact hlt)⟩
      obtain ⟨g, rfl, _, _, _, c2, _, _⟩ := spots_ge HO.out.1 hp
      obtain ⟨tx, htx⟩ : ∃ tx, tx = p.2.1.2.2 := ⟨_, rfl⟩
      rw [← htx] at c2
      have hkl : (k : Int) < (n : Int) := by omega
      clear hp htx
      by_cases hbig : 20000 < q + tx.size
      · have hbig2 : (20000 : Int) - (q : Int) < (tx.size : Int) := by omega
        go_wp2_with fail
        go_ret
        exact ⟨true, rfl, (fun e => by cases e), HB.out⟩
      · have hbig2 : ¬ (20000 : Int) - (q : Int) < (tx.size : Int) := by omega
        go_wp2_with fail
        exact ⟨⟨k + 1, by omega, by go_num, q + tx.size, by go_num, by omega⟩, by simp [intOf]; omega⟩
    · have hkl : ¬ (k : Int) < (n : Int) := by omega
      clear hk
      by_cases h250 : 250 < n
      · have h251 : (250 : Int) < (n : Int) := by omega
        go_wp2_with fail
        go_ret
        exact ⟨true, rfl, (fun e => by cases e), HB.out⟩
      · have h251 : ¬ (250 : Int) < (n : Int) := by omega
        have HN := Lib.hid h250
        clear h250
        go_wp2_with fail
        go_ret
        refine ⟨false, rfl, fun _ => ?_, HB.out⟩
        have h2 := HN.out
        rw [HO.out.2, List.length_take, spF_length, rootF_size] at h2
        omega
end Go.Proofs.Ytfdcopegkhofnaa
