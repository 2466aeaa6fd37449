/-
  The document's own Number and Text: new bytes. No condition but that there are not too many of them.
-/
import Derived.Test.YteccnekdmehloaaDoorCWakes
import Derived.Laws.AppendOwnNone
namespace Go.Proofs.YteccnekdmehloaaDoor
open Go.RowKit
open Extern.Stop (cell)

def RNumInv (w : World) (bs : List UInt8) (n : Int) (v i : Value) (wr : World) : Prop := ∃ k : Nat, k ≤ 8 ∧ i = .int .i64 (7 - (k : Int)) ∧ OwnB w.heap.size v (bs ++ (num8 n).take k) w wr
theorem OwnB.none (w : World) : OwnB w.heap.size (.slice none 0 0) [] w w := ⟨⟨World.ownsRowF_nil _ _ _ _, Below.refl _ _, Nat.le_refl _⟩, StaysU.refl _⟩
/-- What a call owns is a slice of these bytes. -/
theorem OwnB.byAt {B : Nat} {v : Value} {bs : List UInt8} {W0 w : World} (h : OwnB B v bs W0 w) : ∃ a cap, v = .slice a bs.length cap ∧ ByAt w a bs := by
  have ho := h.1.1
  have hc := fun g hg => World.ownsRowF.cells ho (g := g) hg
  rcases ho.2 with ⟨hv, hn⟩ | ⟨g, cap, cur, fz, hv, _⟩
  · refine ⟨Option.none, 0, by rw [hv, hn], fun _ => List.eq_nil_of_length_eq_zero hn, fun ad e => by cases e⟩
  · subst hv
    exact ⟨_, cap, rfl, fun e => (by cases e), fun ad e j u hj => by
      cases e
      exact hc g rfl j _ (by rw [List.getElem?_map, hj]; rfl)⟩

def RNumInv0 (w : World) (n : Int) (v i : Value) (wr : World) : Prop := ∃ k : Nat, k ≤ 8 ∧ i = .int .i64 (7 - (k : Int)) ∧ OwnB w.heap.size v ((num8 n).take k) w wr
theorem num_more_nil (n : Int) (k : Nat) (h : k < 8) : ((num8 n).take (k + 1)).length = ((num8 n).take k).length + 1 ∧ ((num8 n).take (k + 1)).map cell = ((num8 n).take k).map cell ++ [.int .u8 (n / 2 ^ (56 - 8 * k) % 256)] := num_more [] n k h
theorem u64_byte (n : Int) (q : Nat) (h : q ≤ 7) : IntKind.u64.wrap n / 2 ^ (8 * q) % 256 = n / 2 ^ (8 * q) % 256 := by
  have e : IntKind.u64.wrap n = n % 18446744073709551616 := by simp [IntKind.wrap, IntKind.signed, IntKind.bits]
  rw [e]
  have hq : q = 0 ∨ q = 1 ∨ q = 2 ∨ q = 3 ∨ q = 4 ∨ q = 5 ∨ q = 6 ∨ q = 7 := by omega
  rcases hq with rfl | rfl | rfl | rfl | rfl | rfl | rfl | rfl <;> first | (simp; done) | (simp; omega) | omega
set_option maxRecDepth 100000 in
set_option maxHeartbeats 1000000 in
theorem refNumber_any (w : World) (a : Option Addr) (cap : Nat) (bs : List UInt8) (n : Int) (h : ByAt w a bs) (hl : bs.length ≤ 1000000000000) :
    Calls Tryd.prog 48 #[.slice a bs.length cap, .int .i64 n] w (PutC w.heap.size (bs ++ num8 n) w) := by
  obtain ⟨i0, hi, hz, hs, hby⟩ := info_u Tryd.infoU
  have HI := Lib.hid (And.intro hi (And.intro hz (And.intro hs hby)))
  clear hi hz hs hby
  have HL := Lib.hid hl
  cases a with
  | none =>
    have hb := h.1 rfl
    subst hb
    clear h hl
    go_enter Tryd.func48, Tryd.ntmps48
    go_wp2_with fail
    have HO := Lib.hid (OwnB.none w)
    go_loopw [5, 6] (fun v i wr => RNumInv0 w n v i wr) (fun _ i _ => (intOf i + 1).toNat)
    case atStart => exact ⟨0, Nat.zero_le _, rfl, by simpa using HO.out⟩
    case round =>
      obtain ⟨k, hk, rfl, hinv⟩ := hrel
      have HV := Lib.hid hinv
      clear hinv
      by_cases hlt : k < 8
      · obtain ⟨q, hq⟩ : ∃ q : Nat, q = 7 - k := ⟨_, rfl⟩
        have hqi : (7 - (k : Int)) = (q : Int) := by omega
        have hq7 : q ≤ 7 := by omega
        have HQ := Lib.hid (And.intro hq (And.intro hlt hqi))
        rw [hqi]
        clear hq hqi hlt hk
        go_wp2_with (at_builtin; refine wpList_byte rfl (.tmp 14) (.tmp 22) 22 rfl w.heap.size i0 Tryd.underlying22 HI.out.1 HI.out.2.1 HI.out.2.2.1 HI.out.2.2.2 _ ((num8 n).take k).length (((num8 n).take k).map cell) rfl w wr (IntKind.u64.wrap n / 2 ^ (8 * q) % 256) HV.out _ rfl rfl (by have := HQ.out.2.1; have := HL.out; simp only [List.length_take, num8_length]; omega) ?_; intro v' w1 ho; have HO2 := Lib.hid ho; clear ho)
        refine ⟨⟨k + 1, by have := HQ.out.2.1; omega, by have := HQ.out.2.2; congr 1; omega, ?_⟩, by first | (simp [intOf]; done) | (simp [intOf]; omega)⟩
        have h1 := num_more_nil n k HQ.out.2.1
        have h2 := HO2.out
        rw [u64_byte n q hq7, show 8 * q = 56 - 8 * k by have := HQ.out.1; have := HQ.out.2.1; omega] at h2
        show OwnS w.heap.size v' ((num8 n).take (k + 1)).length (((num8 n).take (k + 1)).map cell) w w1
        rw [h1.1, h1.2]
        exact h2
      · have hk8 : k = 8 := by omega
        subst hk8
        have hi8 : (7 - ((8 : Nat) : Int)) = -1 := by omega
        rw [hi8]
        clear hlt hk hi8
        go_wp2_with fail
        go_ret
        exact ⟨_, rfl, HV.out⟩
  | some ad =>
    have HC := Lib.hid (h.2 ad rfl)
    clear h hl
    go_enter Tryd.func48, Tryd.ntmps48
    go_wp2_with (at_builtin; refine wpList_bytes rfl (.tmp 7) (.tmp 8) 22 rfl w.heap.size i0 Tryd.underlying22 HI.out.1 HI.out.2.1 HI.out.2.2.1 HI.out.2.2.2 (.slice none 0 0) 0 [] rfl w (OwnB.none w) ad cap bs rfl HC.out (by have := HL.out; omega) ?_; intro v' w1 ho; have HO := Lib.hid ho; clear ho)
    go_loopw [5, 6] (fun v i wr => RNumInv w bs n v i wr) (fun _ i _ => (intOf i + 1).toNat)
    case atStart => exact ⟨0, Nat.zero_le _, rfl, by simpa using HO.out⟩
    case round =>
      obtain ⟨k, hk, rfl, hinv⟩ := hrel
      have HV := Lib.hid hinv
      clear hinv
      by_cases hlt : k < 8
      · obtain ⟨q, hq⟩ : ∃ q : Nat, q = 7 - k := ⟨_, rfl⟩
        have hqi : (7 - (k : Int)) = (q : Int) := by omega
        have hq7 : q ≤ 7 := by omega
        have HQ := Lib.hid (And.intro hq (And.intro hlt hqi))
        rw [hqi]
        clear hq hqi hlt hk
        go_wp2_with (at_builtin; refine wpList_byte rfl (.tmp 14) (.tmp 22) 22 rfl w.heap.size i0 Tryd.underlying22 HI.out.1 HI.out.2.1 HI.out.2.2.1 HI.out.2.2.2 _ (bs ++ (num8 n).take k).length ((bs ++ (num8 n).take k).map cell) rfl w wr (IntKind.u64.wrap n / 2 ^ (8 * q) % 256) HV.out _ rfl rfl (by have := HQ.out.2.1; have := HL.out; simp only [List.length_append, List.length_take, num8_length]; omega) ?_; intro v' w1 ho; have HO2 := Lib.hid ho; clear ho)
        refine ⟨⟨k + 1, by have := HQ.out.2.1; omega, by have := HQ.out.2.2; congr 1; omega, ?_⟩, by first | (simp [intOf]; done) | (simp [intOf]; omega)⟩
        have h1 := num_more bs n k HQ.out.2.1
        have h2 := HO2.out
        rw [u64_byte n q hq7, show 8 * q = 56 - 8 * k by have := HQ.out.1; have := HQ.out.2.1; omega] at h2
        show OwnS w.heap.size v' (bs ++ (num8 n).take (k + 1)).length ((bs ++ (num8 n).take (k + 1)).map cell) w w1
        rw [h1.1, h1.2]
        exact h2
      · have hk8 : k = 8 := by omega
        subst hk8
        have hi8 : (7 - ((8 : Nat) : Int)) = -1 := by omega
        rw [hi8]
        clear hlt hk hi8
        go_wp2_with fail
        go_ret
        exact ⟨_, rfl, HV.out⟩

set_option maxRecDepth 100000 in
set_option maxHeartbeats 1000000 in
theorem refText_any (w : World) (a : Option Addr) (cap : Nat) (bs : List UInt8) (s : ByteArray) (h : ByAt w a bs) (hl : bs.length + s.size + 8 ≤ 1000000000000) :
    Calls Tryd.prog 49 #[.slice a bs.length cap, .string s] w (PutC w.heap.size (bs ++ (num8 (s.size : Int) ++ s.data.toList)) w) := by
  have HN := Lib.hid (refNumber_any w a cap bs (s.size : Int) h (by omega))
  obtain ⟨i0, hi, hz, hsz, hby⟩ := info_u Tryd.infoU
  have HI := Lib.hid (And.intro hi (And.intro hz (And.intro hsz hby)))
  have HL := Lib.hid hl
  clear h hi hz hsz hby hl
  go_enter Tryd.func49, Tryd.ntmps49
  go_wp2_with (first
    | (go_at_call 48; refine HN.out.mono ?_; clear HN; rintro e w1 ⟨v1, rfl, h1⟩; have H1 := Lib.hid h1; clear h1)
    | (at_builtin; refine wpList_text rfl (.tmp 8) (.tmp 9) 22 9 rfl w.heap.size i0 Tryd.underlying22 Tryd.underlying9 HI.out.1 HI.out.2.1 HI.out.2.2.1 HI.out.2.2.2 _ (bs ++ num8 (s.size : Int)).length ((bs ++ num8 (s.size : Int)).map cell) rfl w H1.out s rfl (by have := HL.out; simp only [List.length_append, num8_length]; omega) ?_; intro v' w2 ho; have HO := Lib.hid ho; clear ho))
  go_ret
  refine ⟨_, rfl, ?_⟩
  have h2 := HO.out
  have e1 : (bs ++ (num8 (s.size : Int) ++ s.data.toList)).length = (bs ++ num8 (s.size : Int)).length + s.size := by
    have : s.data.toList.length = s.size := by simp
    simp [this]; omega
  have e2 : (bs ++ (num8 (s.size : Int) ++ s.data.toList)).map cell = (bs ++ num8 (s.size : Int)).map cell ++ Lib.strCells s := by
    rw [← List.append_assoc, List.map_append (l₁ := bs ++ _)]; rfl
  show OwnS w.heap.size _ (bs ++ (num8 (s.size : Int) ++ s.data.toList)).length ((bs ++ (num8 (s.size : Int) ++ s.data.toList)).map cell) w _
  rw [e1, e2]
  exact h2
end Go.Proofs.YteccnekdmehloaaDoor
