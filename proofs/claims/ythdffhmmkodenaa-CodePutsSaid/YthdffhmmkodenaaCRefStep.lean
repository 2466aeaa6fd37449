/-
  The document's own Step and Steps: new bytes. No condition but that there are not too many of them.
-/
import Derived.Test.YthdffhmmkodenaaCPutNode
namespace Go.Proofs.Ythdffhmmkodenaa
open Go.RowKit
open Extern.Stop (cell)

theorem rcopy_start (w : World) (o : Obj) : OwnB (w.alloc o).heap.size (.slice none 0 0) [] (w.alloc o) (w.alloc o) := OwnB.none _
theorem box9h {w w' : World} {a0 a1 a2 a3 a4 a5 a6 a7 a8 : Value} {t : TypeId} (h1 : w'.heap[w.heap.size]? = some (.cells #[a0, a1, a2, a3, a4, a5, a6, a7, a8] t (0, 0))) : (w'.cell? ⟨w.heap.size, 0, none⟩ = some a0 ∧ w'.cell? ⟨w.heap.size, 1, none⟩ = some a1 ∧ w'.cell? ⟨w.heap.size, 2, none⟩ = some a2 ∧ w'.cell? ⟨w.heap.size, 3, none⟩ = some a3 ∧ w'.cell? ⟨w.heap.size, 4, none⟩ = some a4) ∧ w'.cell? ⟨w.heap.size, 5, none⟩ = some a5 ∧ w'.cell? ⟨w.heap.size, 6, none⟩ = some a6 ∧ w'.cell? ⟨w.heap.size, 7, none⟩ = some a7 ∧ w'.cell? ⟨w.heap.size, 8, none⟩ = some a8 :=
  ⟨⟨by rw [cell_of_row _ _ 0 _ _ _ h1]; rfl, by rw [cell_of_row _ _ 1 _ _ _ h1]; rfl, by rw [cell_of_row _ _ 2 _ _ _ h1]; rfl, by rw [cell_of_row _ _ 3 _ _ _ h1]; rfl, by rw [cell_of_row _ _ 4 _ _ _ h1]; rfl⟩, by rw [cell_of_row _ _ 5 _ _ _ h1]; rfl, by rw [cell_of_row _ _ 6 _ _ _ h1]; rfl, by rw [cell_of_row _ _ 7 _ _ _ h1]; rfl, by rw [cell_of_row _ _ 8 _ _ _ h1]; rfl⟩

set_option maxRecDepth 100000 in
set_option maxHeartbeats 1000000 in
theorem rstep (w : World) (S : Nat → Prop) (sv : Value) (s : Stp) (ad : Addr) (n cap : Nat) (bs : List UInt8) (hS : ∀ k, S k → k < w.heap.size) (hs : StAt w S sv s) (hn : n = bs.length) (hby : ByAt w (some ad) bs) (hl : bs.length + (encS s).length ≤ 1000000000000) :
    Calls Try.prog 42 #[.slice (some ad) n cap, sv] w (NewB w (bs ++ encS s)) := by
  obtain ⟨ka, kcap, rfl, hcap, hk⟩ := hs
  rw [encS_length] at hl
  subst hn
  obtain ⟨i0, hi, hz, hsz, hb0⟩ := info_u Try.infoU
  have HI := Lib.hid (And.intro hi (And.intro hz (And.intro hsz hb0)))
  obtain ⟨len, hlen⟩ : ∃ len, len = foLen s.sub.kids := ⟨_, rfl⟩
  rw [← hlen]
  have hb1 : Below w.heap.size w (w.alloc (.cells #[.int .i8 s.op, .int .i64 s.id, .int .i64 s.parent, .int .i64 s.place, .string s.text, .int .i64 s.sub.id, .int .i64 s.sub.kind, .string s.sub.text, .slice ka len kcap] 54)) := (Below.refl _ _).alloc (Nat.le_refl _) _
  have H := Lib.hid (And.intro hS (And.intro hk (And.intro hl (And.intro hcap (And.intro hlen (And.intro hb1 ((hby.below hb1).2 ad rfl)))))))
  clear hS hk hl hcap hlen hi hz hsz hb0 hb1 hby
  go_enter Try.func42, Try.ntmps42
  go_wp2_with (first
    | (at_builtin; refine wpList_bytes rfl (.tmp 6) (.tmp 7) 22 rfl _ i0 Try.underlying22 HI.out.1 HI.out.2.1 HI.out.2.2.1 HI.out.2.2.2 (.slice none 0 0) 0 [] rfl _ (rcopy_start w _) ad cap bs rfl H.out.2.2.2.2.2.2 (by have := H.out.2.2.1; omega) ?_; intro v0 w1 ho; have d0 := (box9 ho.2 rfl).1.1; have HO : Hid (OwnB (w.alloc (.cells #[.int .i8 s.op, .int .i64 s.id, .int .i64 s.parent, .int .i64 s.place, .string s.text, .int .i64 s.sub.id, .int .i64 s.sub.kind, .string s.sub.text, .slice ka len kcap] 54)).heap.size v0 bs (w.alloc (.cells #[.int .i8 s.op, .int .i64 s.id, .int .i64 s.parent, .int .i64 s.place, .string s.text, .int .i64 s.sub.id, .int .i64 s.sub.kind, .string s.sub.text, .slice ka len kcap] 54)) w1) := Lib.hid (by simpa using ho); clear ho)
    | (at_builtin; refine wpList_byte rfl (.tmp 9) (.tmp 13) 22 rfl _ i0 Try.underlying22 HI.out.1 HI.out.2.1 HI.out.2.2.1 HI.out.2.2.2 _ bs.length (bs.map cell) rfl _ _ _ HO.out _ rfl rfl (by have := H.out.2.2.1; omega) ?_; intro v1 w2 ho; have h1 := OwnB.more (opByte_cell _) ho; have hb := H.out.2.2.2.2.2.1.trans (h1.1.2.1.mono H.out.2.2.2.2.2.1.size); have hx := h1.2 _ _ (heap_alloc_new w _) rfl; have d1 := (box9h hx).1.2.1; obtain ⟨a1, c1, rfl, h2⟩ := OwnB.byAt h1; obtain ⟨n1, hn1⟩ : ∃ n, n = (bs ++ [opByte s.op]).length := ⟨_, rfl⟩; rw [← hn1]; have HX := Lib.hid (And.intro hx hb); have HA := Lib.hid (rnum w2 a1 n1 c1 _ s.id hn1 h2 (by have := H.out.2.2.1; simp only [List.length_append, List.length_singleton]; omega)); clear ho h1 hb hx h2 hn1 HO)
    | (go_at_call 11; (with_reducible refine HA.out.mono ?_); clear HA; rintro e w3 ⟨a2, n2, c2, rfl, hn, h1, h2⟩; have hx := box_there HX.out.1 h2; have d2 := (box9h hx).1.2.2.1; have HX2 := Lib.hid (And.intro hx (HX.out.2.trans (h2.mono HX.out.2.size))); have HB := Lib.hid (rnum w3 a2 n2 c2 _ s.parent hn h1 (by have := H.out.2.2.1; simp only [List.length_append, List.length_singleton, num8_length]; omega)); clear hn h1 h2 hx HX)
    | (go_at_call 11; (with_reducible refine HB.out.mono ?_); clear HB; rintro e w4 ⟨a3, n3, c3, rfl, hn, h1, h2⟩; have hx := box_there HX2.out.1 h2; have d3 := (box9h hx).1.2.2.2.1; have HX3 := Lib.hid (And.intro hx (HX2.out.2.trans (h2.mono HX2.out.2.size))); have HC := Lib.hid (rnum w4 a3 n3 c3 _ s.place hn h1 (by have := H.out.2.2.1; simp only [List.length_append, List.length_singleton, num8_length]; omega)); clear hn h1 h2 hx HX2)
    | (go_at_call 11; (with_reducible refine HC.out.mono ?_); clear HC; rintro e w5 ⟨a4, n4, c4, rfl, hn, h1, h2⟩; have hx := box_there HX3.out.1 h2; have d4 := (box9h hx).1.2.2.2.2; have HX4 := Lib.hid (And.intro hx (HX3.out.2.trans (h2.mono HX3.out.2.size))); have HD := Lib.hid (rtext w5 a4 n4 c4 _ s.text hn h1 (by have := H.out.2.2.1; simp only [List.length_append, List.length_singleton, num8_length]; omega)); clear hn h1 h2 hx HX3)
    | (go_at_call 13; (with_reducible refine HD.out.mono ?_); clear HD; rintro e w6 ⟨a5, n5, c5, rfl, hn, h1, h2⟩; have hx := box_there HX4.out.1 h2; obtain ⟨d5, d6, d7, d8⟩ := (box9h hx).2; have hb := HX4.out.2.trans (h2.mono HX4.out.2.size); have HE := Lib.hid (And.intro hb (refNode_any _ w6 S (.agg #[.int .i64 s.sub.id, .int .i64 s.sub.kind, .string s.sub.text, .slice ka len kcap]) s.sub a5 n5 c5 _ (Nat.lt_succ_self _) (fun x hx => Nat.lt_of_lt_of_le (H.out.1 x hx) hb.size) ⟨ka, kcap, by rw [H.out.2.2.2.2.1], H.out.2.2.2.1, H.out.2.1.kept fun x hx => ⟨hx, hb.block x (H.out.1 x hx)⟩⟩ hn h1 (by have := H.out.2.2.1; simp only [List.length_append, List.length_singleton, num8_length, toList_size]; omega))); clear hn h1 h2 hx hb HX4)
    | (go_at_call 15; (with_reducible refine HE.out.2.mono ?_); rintro e w7 ⟨a6, n6, c6, rfl, hn, h1, h2⟩; have HF := Lib.hid (And.intro hn (And.intro h1 (HE.out.1.trans (h2.mono HE.out.1.size)))); clear hn h1 h2))
  go_ret
  have e9 : bs ++ encS s = bs ++ [opByte s.op] ++ num8 s.id ++ num8 s.parent ++ num8 s.place ++ (num8 (s.text.size : Int) ++ s.text.data.toList) ++ encT s.sub := by simp [encS, List.append_assoc]
  refine ⟨a6, n6, c6, rfl, ?_, ?_, HF.out.2.2⟩
  · rw [e9]; exact HF.out.1
  · rw [e9]; exact HF.out.2.1

/-- New bytes, at least one. -/
def NewB1 (bs : List UInt8) (v : Value) (w' : World) : Prop := ∃ ad n cap, v = .slice (some ad) n cap ∧ n = bs.length ∧ ByAt w' (some ad) bs
theorem NewB1.of {bs : List UInt8} {a : Option Addr} {n cap : Nat} {w' : World} (hn : n = bs.length) (h : ByAt w' a bs) (h0 : bs ≠ []) : NewB1 bs (.slice a n cap) w' := by
  cases a with
  | none => exact absurd (h.1 rfl) h0
  | some ad => exact ⟨ad, n, cap, rfl, hn, h⟩
def RStepsInv (w : World) (pre : List UInt8) (l : List Stp) (len : Nat) (v i : Value) (wr : World) : Prop := ∃ k : Nat, k ≤ len ∧ i = .int .i64 k ∧ NewB1 (pre ++ encL (l.take k)) v wr ∧ Below w.heap.size w wr
theorem num8_ne (bs : List UInt8) (n : Int) (c : List UInt8) : bs ++ num8 n ++ c ≠ [] := by
  intro h
  have := congrArg List.length h
  simp [num8_length] at this

set_option maxRecDepth 100000 in
set_option maxHeartbeats 1000000 in
theorem rsteps (w : World) (S : Nat → Prop) (l : List Stp) (a sa : Option Addr) (n cap len scap : Nat) (bs : List UInt8) (hS : ∀ k, S k → k < w.heap.size) (hs : StepsAt w S sa l) (hlen : len = l.length) (hn : n = bs.length) (hby : ByAt w a bs) (hl : bs.length + 8 + (encL l).length ≤ 1000000000000) (hl2 : len ≤ 1000000) :
    Calls Try.prog 17 #[.slice a n cap, .slice sa len scap] w (NewB w (bs ++ num8 (len : Int) ++ encL l)) := by
  have HC := Lib.hid (rnum w a n cap bs (len : Int) hn hby (by omega))
  have H := Lib.hid (And.intro hS (And.intro hs (And.intro hlen hl)))
  clear hS hs hlen hl hn hby
  go_enter Try.func17, Try.ntmps17
  go_wp2_with (go_at_call 11; (with_reducible refine HC.out.mono ?_); clear HC; rintro e w2 ⟨a1, n1, c1, rfl, hn, h1, h2⟩; have H1 := Lib.hid (And.intro (NewB1.of (cap := c1) hn h1 (by have := num8_ne bs (len : Int) []; simpa using this)) h2); clear hn h1 h2)
  go_loopw [0, 5] (fun v i wr => RStepsInv w (bs ++ num8 (len : Int)) l len v i wr) (fun _ i _ => len - (intOf i).toNat)
  case atStart => exact ⟨0, Nat.zero_le _, rfl, by simpa [encL] using H1.out.1, H1.out.2⟩
  case round =>
    obtain ⟨k, hk, rfl, ⟨ad, n2, cc2, rfl, hn2, hb2⟩, hbel⟩ := hrel
    by_cases hlt : k < len
    · obtain ⟨x, hx⟩ : ∃ x, l[k]? = some x := ⟨l[k]'(by have := H.out.2.2.1; omega), List.getElem?_eq_getElem _⟩
      obtain ⟨b, off, rfl, hSb, hc⟩ := (H.out.2.1.kept (w' := wr) (S' := S) fun y hy => ⟨hy, hbel.block y (H.out.1 y hy)⟩) (by have := H.out.2.2.1; omega)
      obtain ⟨ka, kcap, c0, c1, c2, c3, c4, c5, c6, c7, c8, hp, hf⟩ := hc k x hx
      have hbd : (encL (l.take (k + 1))).length ≤ (encL l).length := encL_le l (k + 1)
      rw [encL_take l k x hx, List.length_append] at hbd
      have hadd := rstep wr S (.agg #[.int .i8 x.op, .int .i64 x.id, .int .i64 x.parent, .int .i64 x.place, .string x.text, .int .i64 x.sub.id, .int .i64 x.sub.kind, .string x.sub.text, .slice ka (foLen x.sub.kids) kcap]) x ad n2 cc2 _ (fun y hy => Nat.lt_of_lt_of_le (H.out.1 y hy) hbel.size) ⟨ka, kcap, rfl, hp, hf⟩ hn2 hb2 (by have := H.out.2.2.2; simp only [List.length_append, num8_length]; omega)
      obtain ⟨m1, hm1⟩ : ∃ m, m = foLen x.sub.kids := ⟨_, rfl⟩
      rw [← hm1] at hadd c8
      have HA := Lib.hid hadd
      have HX := Lib.hid (And.intro (encL_take l k x hx) hbel)
      have hkl : (k : Int) < (len : Int) := by omega
      clear hc hx hadd hf hp hm1 hbd hSb hbel hn2 hb2
      go_wp2_with (go_at_call 42; (with_reducible refine HA.out.mono ?_); clear HA; rintro e w4 ⟨a3, n3, c3', rfl, hn, h1, h2⟩; have HE := Lib.hid (And.intro hn (And.intro h1 h2)); clear hn h1 h2)
      have e9 : bs ++ num8 (len : Int) ++ encL (l.take k) ++ encS x = bs ++ num8 (len : Int) ++ encL (l.take (k + 1)) := by rw [HX.out.1, List.append_assoc]
      have h7 := HE.out
      rw [e9] at h7
      exact ⟨⟨k + 1, by omega, by go_num, NewB1.of h7.1 h7.2.1 (num8_ne _ _ _), HX.out.2.trans (h7.2.2.mono HX.out.2.size)⟩, by simp [intOf]; omega⟩
    · have hkk : k = len := by omega
      have HKK := Lib.hid hkk
      have HV := Lib.hid (And.intro hn2 (And.intro hb2 hbel))
      have hkl : ¬ (k : Int) < (len : Int) := by omega
      clear hkk hn2 hb2 hbel
      go_wp2_with fail
      go_ret
      have h8 := HV.out
      rw [HKK.out, H.out.2.2.1, List.take_length, ← H.out.2.2.1, List.append_assoc] at h8
      exact ⟨_, n2, cc2, rfl, h8.1, h8.2.1, h8.2.2⟩
end Go.Proofs.Ythdffhmmkodenaa
