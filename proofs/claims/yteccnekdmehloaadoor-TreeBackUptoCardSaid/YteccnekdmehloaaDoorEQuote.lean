/-
  Show's helpers: what stands between two nodes, and a text in quotes. No condition but that the text is not too long.
-/
import Derived.Test.YteccnekdmehloaaDoorESay
import Derived.Test.YteccnekdmehloaaDoorCPut
namespace Go.Proofs.YteccnekdmehloaaDoor
open Go.RowKit Go.Shelf
open Extern.Stop (cell)
attribute [local go_sem] Oper.semAt_some
set_option linter.unusedVariables false
set_option linter.unusedSimpArgs false

def SayC (w : World) (l : List UInt8) (e : Ending) (w' : World) : Prop := e = .returned (.string ⟨l.toArray⟩) ∧ Below w.heap.size w w'
def closeL (n : Nat) : List UInt8 := Lib.repeatL [41] n
theorem closeL_length (n : Nat) : (closeL n).length = n := by
  unfold closeL
  induction n with
  | zero => rfl
  | succ n ih => simp only [Lib.repeatL, List.length_append, ih, List.length_cons, List.length_nil]; omega
theorem closed_any (w : World) (n : Nat) (hn : n ≤ 1000000) : Calls Tryd.prog 37 #[.int .i64 (n : Int)] w (SayC w (closeL n)) := by
  have HR := Lib.hid (Tryd.strings_Repeat ⟨#[41]⟩ n w (by omega) (by show 1 * n ≤ _; omega))
  go_enter Tryd.func37, Tryd.ntmps37
  go_wp2_with (go_at_call 55; refine HR.out.mono ?_; rintro e w1 ⟨rfl, h1⟩)
  go_ret
  exact ⟨rfl, h1⟩
def betwL (a d : Nat) : List UInt8 := if a = 0 then [] else if a < d then [40] else closeL (a - d) ++ [44]
theorem between_any (w : World) (a d : Nat) (ha : a ≤ 1000000) (hd : d ≤ 1000000) : Calls Tryd.prog 34 #[.int .i64 (a : Int), .int .i64 (d : Int)] w (SayC w (betwL a d)) := by
  by_cases h0 : a = 0
  · subst h0
    go_enter Tryd.func34, Tryd.ntmps34
    go_wp2_with fail
    go_ret
    exact ⟨rfl, Below.refl _ _⟩
  · have h0' : ¬ (a : Int) = 0 := by omega
    by_cases h1 : a < d
    · have h1' : (a : Int) < (d : Int) := by omega
      have HE := Lib.hid (show betwL a d = [40] by simp [betwL, h0, h1])
      go_enter Tryd.func34, Tryd.ntmps34
      clear h0 h1
      go_wp2_with fail
      go_ret
      exact ⟨by rw [HE.out]; rfl, Below.refl _ _⟩
    · have h1' : ¬ (a : Int) < (d : Int) := by omega
      have HE := Lib.hid (show betwL a d = closeL (a - d) ++ [44] by simp [betwL, h0, h1])
      obtain ⟨m, hm⟩ : ∃ m, m = a - d := ⟨_, rfl⟩
      have hma : (a : Int) - (d : Int) = (m : Int) := by omega
      have HC := Lib.hid (closed_any w m (by omega))
      have hq : ¬ 9223372036854775807 < (closeL m).length + 1 := by rw [closeL_length]; omega
      rw [← hm] at HE
      go_enter Tryd.func34, Tryd.ntmps34
      clear h0 h1 hm
      go_wp2_with (go_at_call 37; refine HC.out.mono ?_; rintro e w1 ⟨rfl, h1⟩)
      go_ret
      exact ⟨by rw [HE.out]; congr 2, h1⟩

def escB (u : UInt8) : List UInt8 := if u = 34 ∨ u = 92 then [92, u] else [u]
def quoL (l : List UInt8) : List UInt8 := 34 :: (l.flatMap escB ++ [34])
theorem escB_length (u : UInt8) : 1 ≤ (escB u).length ∧ (escB u).length ≤ 2 := by unfold escB; split <;> simp
theorem esc_length : ∀ l : List UInt8, (l.flatMap escB).length ≤ 2 * l.length
  | [] => by simp
  | u :: l => by have := esc_length l; have := (escB_length u).2; simp only [List.flatMap_cons, List.length_append, List.length_cons]; omega
def quoP (s : ByteArray) (k : Nat) : List UInt8 := 34 :: (s.data.toList.take k).flatMap escB
theorem quoP_len (s : ByteArray) (k : Nat) : (quoP s k).length ≤ 2 * k + 1 := by
  have := esc_length (s.data.toList.take k)
  have h2 : (s.data.toList.take k).length ≤ k := by simp; omega
  simp only [quoP, List.length_cons]; omega
theorem quoP_next (s : ByteArray) (k : Nat) (hk : k < s.size) : quoP s (k + 1) = quoP s k ++ escB (s[k]'hk) := by
  have h1 : s.data.toList[k]? = some (s[k]'hk) := by
    rw [Array.getElem?_toList, Array.getElem?_eq_getElem (by exact hk)]; rfl
  simp [quoP, List.take_add_one, h1, List.flatMap_append]
def QuoInv (w : World) (s : ByteArray) (v i : Value) (wr : World) : Prop := ∃ k : Nat, k ≤ s.size ∧ i = .int .i64 (k : Int) ∧ OwnB w.heap.size v (quoP s k) w wr
theorem byte_of_int {u : UInt8} {n : Nat} (hn : n < 256) (h : (u.toNat : Int) = (n : Int)) : u = UInt8.ofNat n := by
  apply UInt8.toNat_inj.1
  rw [UInt8.toNat_ofNat']; omega
/-- One byte more. -/
theorem quo_one {w w1 : World} {s : ByteArray} {k : Nat} {v : Value} (hk : k < s.size) {x : UInt8} (hx : s[k]'hk = x) (h1 : x ≠ 34) (h2 : x ≠ 92) (h : OwnS w.heap.size v ((quoP s k).length + 1) ((quoP s k).map cell ++ [.int .u8 (x.toNat : Int)]) w w1) : OwnB w.heap.size v (quoP s (k + 1)) w w1 := by
  have e : quoP s (k + 1) = quoP s k ++ [x] := by rw [quoP_next s k hk, hx]; simp [escB, h1, h2]
  show OwnS _ _ (quoP s (k + 1)).length _ _ _
  rw [e]
  have e2 : (quoP s k ++ [x]).map cell = (quoP s k).map cell ++ [.int .u8 (x.toNat : Int)] := by simp; rfl
  rw [e2, show (quoP s k ++ [x]).length = (quoP s k).length + 1 by simp]
  exact h
theorem quo_two {w w1 : World} {s : ByteArray} {k : Nat} {v : Value} (hk : k < s.size) {x : UInt8} (hx : s[k]'hk = x) (h1 : x = 34 ∨ x = 92) (h : OwnS w.heap.size v ((quoP s k).length + 1 + 1) ((quoP s k).map cell ++ [.int .u8 92] ++ [.int .u8 (x.toNat : Int)]) w w1) : OwnB w.heap.size v (quoP s (k + 1)) w w1 := by
  have e : quoP s (k + 1) = quoP s k ++ [92, x] := by rw [quoP_next s k hk, hx]; simp [escB, h1]
  show OwnS _ _ (quoP s (k + 1)).length _ _ _
  rw [e]
  have e2 : (quoP s k ++ [92, x]).map cell = (quoP s k).map cell ++ [.int .u8 92] ++ [.int .u8 (x.toNat : Int)] := by simp; exact ⟨rfl, rfl⟩
  rw [e2, show (quoP s k ++ [92, x]).length = (quoP s k).length + 1 + 1 by simp]
  exact h
theorem quo_conv {w w1 : World} {s : ByteArray} {v : Value} (h : OwnS w.heap.size v ((quoP s s.size).length + 1) ((quoP s s.size).map cell ++ [.int .u8 34]) w w1) : (convert 22 9 v).run Tryd.prog w1 = .ok (.string ⟨(quoL s.data.toList).toArray⟩) w1 := by
  have e : quoP s s.size ++ [34] = quoL s.data.toList := by
    have ht : s.data.toList.take s.size = s.data.toList := List.take_of_length_le (Nat.le_of_eq (Array.length_toList (xs := s.data)))
    rw [quoP, quoL, ht]; rfl
  have e2 : (quoP s s.size).map cell ++ [.int .u8 34] = (quoL s.data.toList).map cell := by rw [← e]; simp; rfl
  have e3 : (quoP s s.size).length + 1 = (quoL s.data.toList).length := by rw [← e]; simp
  rw [e2, e3] at h
  rcases h.1.1.2 with ⟨_, h0⟩ | ⟨g, cap, cur, fz, rfl, hB, hg, _, hc⟩
  · simp [quoL] at h0
  · refine run_convert_bytes_back w1 _ _ _ ⟨g, 0, none⟩ cap (quoL s.data.toList) Tryd.underlying22 Tryd.underlying5 Tryd.underlying9 (fun j hj => ?_)
    have := h.1.1.cells (g := g) rfl j (cell (quoL s.data.toList)[j]) (by rw [List.getElem?_map, List.getElem?_eq_getElem hj]; rfl)
    exact this
set_option maxRecDepth 100000 in
set_option maxHeartbeats 2000000 in
theorem quoted_any (w : World) (s : ByteArray) (hs : s.size ≤ 10000000000000) : Calls Tryd.prog 36 #[.string s] w (SayC w (quoL s.data.toList)) := by
  obtain ⟨i0, hi, hz, hsz, hby⟩ := info_u Tryd.infoU
  have HI := Lib.hid (And.intro hi (And.intro hz (And.intro hsz hby)))
  have hsl : s.data.toList.length = s.size := Array.length_toList
  have HL := Lib.hid (And.intro hs hsl)
  clear hi hz hsz hby
  have HOWN : Hid (OwnB w.heap.size (.slice (some ⟨w.heap.size, 0, none⟩) 1 1) (quoP s 0) w (w.alloc (.cells #[.int .u8 34] 5))) := Lib.hid (by
    have hm : (w.alloc (.cells #[.int .u8 34] 5)).ownsRow w.heap.size 5 1 (.slice (some ⟨w.heap.size, 0, none⟩) 1 1) 1 [.int .u8 34] := ⟨rfl, .inr ⟨w.heap.size, 1, _, rfl, Nat.le_refl _, heap_alloc_new w _, Nat.le_refl _, by unfold maxLen; omega, rfl, rfl⟩⟩
    have hb : Below w.heap.size w (w.alloc (.cells #[.int .u8 34] 5)) := (Below.refl _ _).alloc (Nat.le_refl _) _
    exact ⟨⟨World.ownsRowF_of hm, hb, hb.size⟩, StaysU.below hb⟩)
  go_enter Tryd.func36, Tryd.ntmps36
  go_wp2_with fail
  go_loopw [3, 8] (fun v i wr => QuoInv w s v i wr) (fun _ i _ => s.size - (intOf i).toNat)
  case atStart => exact ⟨0, Nat.zero_le _, rfl, HOWN.out⟩
  case round =>
    obtain ⟨k, hk, rfl, hv⟩ := hrel
    have HV := Lib.hid hv
    clear hv
    by_cases hlt : k < s.size
    · have hlt' : (k : Int) < (s.size : Int) := by omega
      have hki : 0 ≤ (k : Int) ∧ (k : Int) < (s.size : Int) := by omega
      have HK := Lib.hid hlt
      have HN := Lib.hid (quoP_len s k)
      have hlen : k ≤ 10000000000000 := by omega
      have HLN := Lib.hid hlen
      by_cases hq : (((s[k]'hlt).toNat : Nat) : Int) = 34
      · have HX := Lib.hid (byte_of_int (n := 34) (by omega) hq)
        clear hk hs hsl
        go_wp2_with (at_builtin; first
          | (refine wpList_byte rfl (.tmp 21) (.tmp 22) 22 rfl w.heap.size i0 Tryd.underlying22 HI.out.1 HI.out.2.1 HI.out.2.2.1 HI.out.2.2.2 _ (quoP s k).length ((quoP s k).map cell) rfl w wr _ HV.out _ rfl rfl (by have := HN.out; have := HLN.out; omega) ?_; intro v1 w1 ho; have HO := Lib.hid ho; clear ho)
          | (refine wpList_byte rfl (.tmp 24) (.tmp 28) 22 rfl w.heap.size i0 Tryd.underlying22 HI.out.1 HI.out.2.1 HI.out.2.2.1 HI.out.2.2.2 v1 ((quoP s k).length + 1) ((quoP s k).map cell ++ [.int .u8 92]) rfl w w1 _ HO.out _ rfl rfl (by have := HN.out; have := HLN.out; omega) ?_; intro v2 w2 ho; have HO2 := Lib.hid ho; clear ho))
        exact ⟨⟨k + 1, HK.out, rfl, quo_two HK.out HX.out (Or.inl rfl) HO2.out⟩, by have := HK.out; simp [intOf]; omega⟩
      · by_cases hr : (((s[k]'hlt).toNat : Nat) : Int) = 92
        · have HX := Lib.hid (byte_of_int (n := 92) (by omega) hr)
          clear hk hs hsl hq
          go_wp2_with (at_builtin; first
            | (refine wpList_byte rfl (.tmp 21) (.tmp 22) 22 rfl w.heap.size i0 Tryd.underlying22 HI.out.1 HI.out.2.1 HI.out.2.2.1 HI.out.2.2.2 _ (quoP s k).length ((quoP s k).map cell) rfl w wr _ HV.out _ rfl rfl (by have := HN.out; have := HLN.out; omega) ?_; intro v1 w1 ho; have HO := Lib.hid ho; clear ho)
            | (refine wpList_byte rfl (.tmp 24) (.tmp 28) 22 rfl w.heap.size i0 Tryd.underlying22 HI.out.1 HI.out.2.1 HI.out.2.2.1 HI.out.2.2.2 v1 ((quoP s k).length + 1) ((quoP s k).map cell ++ [.int .u8 92]) rfl w w1 _ HO.out _ rfl rfl (by have := HN.out; have := HLN.out; omega) ?_; intro v2 w2 ho; have HO2 := Lib.hid ho; clear ho))
          exact ⟨⟨k + 1, HK.out, rfl, quo_two HK.out HX.out (Or.inr rfl) HO2.out⟩, by have := HK.out; simp [intOf]; omega⟩
        · have hq2 : ((((s[k]'hlt).toNat : Nat) : Int) == 34) = false := by simpa using hq
          have hr2 : ((((s[k]'hlt).toNat : Nat) : Int) == 92) = false := by simpa using hr
          have HX : Hid ((s[k]'hlt) ≠ 34 ∧ (s[k]'hlt) ≠ 92) := Lib.hid ⟨fun e => by rw [e] at hq; exact hq rfl, fun e => by rw [e] at hr; exact hr rfl⟩
          clear hk hs hsl
          go_wp2_with (at_builtin; refine wpList_byte rfl (.tmp 24) (.tmp 28) 22 rfl w.heap.size i0 Tryd.underlying22 HI.out.1 HI.out.2.1 HI.out.2.2.1 HI.out.2.2.2 _ (quoP s k).length ((quoP s k).map cell) rfl w wr _ HV.out _ rfl rfl (by have := HN.out; have := HLN.out; omega) ?_; intro v2 w2 ho; have HO2 := Lib.hid ho; clear ho)
          exact ⟨⟨k + 1, HK.out, rfl, quo_one HK.out rfl HX.out.1 HX.out.2 HO2.out⟩, by have := HK.out; simp [intOf]; omega⟩
    · have hke : k = s.size := by omega
      subst hke
      have HN := Lib.hid (quoP_len s s.size)
      clear hlt hk
      go_wp2_with (at_builtin; refine wpList_byte rfl (.tmp 31) (.tmp 32) 22 rfl w.heap.size i0 Tryd.underlying22 HI.out.1 HI.out.2.1 HI.out.2.2.1 HI.out.2.2.2 _ (quoP s s.size).length ((quoP s s.size).map cell) rfl w wr _ HV.out _ rfl rfl (by have := HN.out; have := HL.out.1; omega) ?_; intro v2 w2 ho; have hcv := quo_conv ho; have HO2 := Lib.hid ho.1.2.1; clear ho)
      go_ret
      exact ⟨rfl, HO2.out⟩
end Go.Proofs.YteccnekdmehloaaDoor
