/-
  A number, a text, a tree and steps, put one behind the other, and what is read of them: plainly.
-/
import Derived.Test.YtljlijdgocfofaaCOpen64
import Derived.Test.YtljlijdgocfofaaCSameS
namespace Go.Proofs.Ytljlijdgocfofaa
open Go.RowKit
open Extern.Stop (cell)

/-- Put one behind the other. -/
def enc4 (n : Int) (s : ByteArray) (t : Tr) (l : List Stp) : List UInt8 := num8 n ++ ((num8 (s.size : Int) ++ s.data.toList) ++ (encT t ++ (num8 (l.length : Int) ++ encL l)))
/-- All that the four may be, to be read again. -/
def good4 (t : Tr) (l : List Stp) : Prop := t.good ∧ l.length ≤ 60 ∧ ∀ s ∈ l, s.sub.good
theorem back_num {n : Int} {s : ByteArray} {t : Tr} {l : List Stp} (hn : inI64 n) : pNum (enc4 n s t l) 0 = .ok (n, 8) ∧ (enc4 n s t l).drop 8 = (num8 (s.size : Int) ++ (s.data.toList ++ (encT t ++ (num8 (l.length : Int) ++ encL l)))) := by
  obtain ⟨h1, h2, _⟩ := pNum_fwd (d := enc4 n s t l) (p := 0) (n := n) (rest := (num8 (s.size : Int) ++ s.data.toList) ++ (encT t ++ (num8 (l.length : Int) ++ encL l))) (by simp [enc4]) hn
  refine ⟨by simpa using h1, ?_⟩
  rw [List.append_assoc] at h2
  simpa using h2
theorem back_text {n : Int} {s : ByteArray} {t : Tr} {l : List Stp} (hn : inI64 n) (hs : s.size ≤ 9223372036854775807) : pText (enc4 n s t l) 8 = .ok (s, 8 + 8 + s.size) ∧ (enc4 n s t l).drop (8 + 8 + s.size) = encT t ++ (num8 (l.length : Int) ++ encL l) := by
  obtain ⟨h1, h2, _⟩ := pText_fwd (back_num (s := s) (t := t) (l := l) hn).2 hs
  exact ⟨h1, h2⟩
theorem back_tree {n : Int} {s : ByteArray} {t : Tr} {l : List Stp} (hn : inI64 n) (hs : s.size ≤ 9223372036854775807) (ht : t.in64) : (t.good → pTree (enc4 n s t l) (8 + 8 + s.size) = .ok (nT t, 8 + 8 + s.size + (encT t).length)) ∧ (¬ t.good → ∃ e, pTree (enc4 n s t l) (8 + 8 + s.size) = .error e) :=
  pTree_fwd ht (back_text hn hs).2
theorem back_steps {n : Int} {s : ByteArray} {t : Tr} {l : List Stp} (hn : inI64 n) (hs : s.size ≤ 9223372036854775807) (hl : ∀ x ∈ l, x.in64) (hl2 : l.length ≤ 9223372036854775807) :
    (l.length ≤ 60 ∧ (∀ x ∈ l, x.sub.good) → pSteps (enc4 n s t l) (8 + 8 + s.size + (encT t).length) = .ok (l.map nS, (enc4 n s t l).length)) ∧
    (¬ (l.length ≤ 60 ∧ ∀ x ∈ l, x.sub.good) → ∃ e, pSteps (enc4 n s t l) (8 + 8 + s.size + (encT t).length) = .error e) := by
  have hd : (enc4 n s t l).drop (8 + 8 + s.size + (encT t).length) = num8 (l.length : Int) ++ encL l := by
    rw [← List.drop_drop, (back_text hn hs).2, List.drop_left' rfl]
  by_cases h60 : l.length ≤ 60
  · have F := pSteps_fwd (rest := []) hl h60 (by rw [List.append_nil]; exact hd)
    have hlen : 8 + 8 + s.size + (encT t).length + 8 + (encL l).length = (enc4 n s t l).length := by
      have hts : s.data.toList.length = s.size := toList_size s
      simp only [enc4, List.length_append, num8_length, hts]; omega
    rw [hlen] at F
    exact ⟨fun h => F.1 h.2, fun h => F.2 fun h' => h ⟨h60, h'⟩⟩
  · refine ⟨fun h => absurd h.1 h60, fun _ => pSteps_many (by omega) hl2 hd⟩
/-- What the walk over a tree tells of it. -/
theorem good_spots (t : Tr) : t.good ↔ ∀ (i : Nat) (p : ByteArray × Int), (spT 1 t)[i]? = some p → p.2 ≤ 40 ∧ i < 200 := by
  have hlen : (spT 1 t).length = foSize t.kids + 1 := by simp [spT, spF_length]
  constructor
  · rintro ⟨h1, h2⟩ i p hp
    have hi := (List.getElem?_eq_some_iff.1 hp).1
    exact ⟨h1 p (List.mem_of_getElem? hp), by omega⟩
  · intro h
    refine ⟨fun x hx => ?_, ?_⟩
    · obtain ⟨i, hi⟩ := List.getElem?_of_mem hx
      exact (h i x hi).1
    · have hi : foSize t.kids < (spT 1 t).length := by omega
      have := (h _ _ (List.getElem?_eq_getElem hi)).2
      omega
end Go.Proofs.Ytljlijdgocfofaa
