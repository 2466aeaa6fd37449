/-
  What the program's Number, Text, Node and Steps answer: new bytes. No condition but that there are not too many of them.
-/
import Derived.Test.YtljlijdgocfofaaCStep
import Derived.Deep.RegionHeld3
namespace Go.Proofs.Ytljlijdgocfofaa
open Go.RowKit
open Extern.Stop (cell)

theorem pnum (w : World) (a : Option Addr) (m cap : Nat) (bs : List UInt8) (n : Int) (hm : m = bs.length) (h : ByAt w a bs) (hl : bs.length ≤ 1000000000000) :
    Calls Try.prog 9 #[.slice a m cap, .int .i64 n] w (NewB w (bs ++ num8 n)) := by
  subst hm
  exact (putNumber_any w a cap bs h hl n).mono fun _ _ h => h.new
theorem ptext (w : World) (a : Option Addr) (m cap : Nat) (bs : List UInt8) (s : ByteArray) (hm : m = bs.length) (h : ByAt w a bs) (hl : bs.length ≤ 1000000000000) (hs : s.size ≤ 1000000000000) :
    Calls Try.prog 11 #[.slice a m cap, .string s] w (NewB w (bs ++ (num8 (s.size : Int) ++ s.data.toList))) := by
  subst hm
  exact (putText_any w a cap bs h hl s hs).mono fun _ _ h => h.new
theorem clone_n (w : World) (a : Option Addr) (n cap : Nat) (bs : List UInt8) (hn : n = bs.length) (h : ByAt w a bs) (hl : bs.length ≤ 1000000000000) : Calls Try.prog 37 #[.slice a n cap] w (PutC w.heap.size bs w) := by
  subst hn
  exact (clone_bytes w a cap bs h hl).mono fun _ _ ⟨v, h1, h2, h3⟩ => ⟨v, h1, OwnB.of h2 h3⟩
def BoxN (w : World) (id kd : Int) (tx : ByteArray) (ka : Option Addr) (len cap : Nat) (W : World) : Prop := W.cell? ⟨w.heap.size, 0, none⟩ = some (.int .i64 id) ∧ W.cell? ⟨w.heap.size, 1, none⟩ = some (.int .i64 kd) ∧ W.cell? ⟨w.heap.size, 2, none⟩ = some (.string tx) ∧ W.cell? ⟨w.heap.size, 3, none⟩ = some (.slice ka len cap)
theorem boxN_of {w W : World} {id kd : Int} {tx : ByteArray} {ka : Option Addr} {len cap : Nat} (h : W.heap[w.heap.size]? = some (.cells #[.int .i64 id, .int .i64 kd, .string tx, .slice ka len cap] 25 (0, 0))) : BoxN w id kd tx ka len cap W :=
  ⟨by rw [cell_of_row _ _ 0 _ _ _ h]; rfl, by rw [cell_of_row _ _ 1 _ _ _ h]; rfl, by rw [cell_of_row _ _ 2 _ _ _ h]; rfl, by rw [cell_of_row _ _ 3 _ _ _ h]; rfl⟩

set_option maxRecDepth 100000 in
set_option maxHeartbeats 1000000 in
theorem pnode (w : World) (S : Nat → Prop) (nv : Value) (t : Tr) (a : Option Addr) (n cap : Nat) (bs : List UInt8) (hS : ∀ k, S k → k < w.heap.size) (hv : TrAt w S nv t) (hn : n = bs.length) (hby : ByAt w a bs) (hl : bs.length + (encT t).length ≤ 1000000000000) :
    Calls Try.prog 13 #[.slice a n cap, nv] w (NewB w (bs ++ encT t)) := by
  obtain ⟨ka, kcap, rfl, hkc, hk⟩ := hv
  obtain ⟨len, hlen⟩ : ∃ len, len = foLen t.kids := ⟨_, rfl⟩
  rw [← hlen]
  have hb1 : Below w.heap.size w (w.alloc (.cells #[.int .i64 t.id, .int .i64 t.kind, .string t.text, .slice ka len kcap] 25)) := (Below.refl _ _).alloc (Nat.le_refl _) _
  have hby1 := hby.below hb1
  have HC := Lib.hid (clone_n (w.alloc (.cells #[.int .i64 t.id, .int .i64 t.kind, .string t.text, .slice ka len kcap] 25)).drew a n cap bs hn hby1 (by omega))
  have hbox := heap_alloc_new w (.cells #[.int .i64 t.id, .int .i64 t.kind, .string t.text, .slice ka len kcap] 25)
  obtain ⟨c0, c1, c2, c3⟩ := boxN_of hbox
  have H := Lib.hid hb1
  have HD : Hid (∀ w2 v1, OwnB (w.alloc (.cells #[.int .i64 t.id, .int .i64 t.kind, .string t.text, .slice ka len kcap] 25)).drew.heap.size v1 bs (w.alloc (.cells #[.int .i64 t.id, .int .i64 t.kind, .string t.text, .slice ka len kcap] 25)).drew w2 → Calls Try.prog 39 #[v1, .agg #[.int .i64 t.id, .int .i64 t.kind, .string t.text, .slice ka len kcap]] w2 (PutC (w.alloc (.cells #[.int .i64 t.id, .int .i64 t.kind, .string t.text, .slice ka len kcap] 25)).drew.heap.size (bs ++ encT t) w2)) := Lib.hid fun w2 v1 h1 =>
    addNode_any w2 _ v1 bs S _ t h1.here (fun x hx => Nat.lt_of_lt_of_le (hS x hx) hb1.size) ⟨ka, kcap, by rw [hlen], hkc, hk.kept fun x hx => ⟨hx, (h1.1.2.1.block x (Nat.lt_of_lt_of_le (hS x hx) hb1.size)).trans (hb1.block x (hS x hx))⟩⟩ hl
  have HB : Hid (∀ w2 v1 bs2, OwnB (w.alloc (.cells #[.int .i64 t.id, .int .i64 t.kind, .string t.text, .slice ka len kcap] 25)).drew.heap.size v1 bs2 (w.alloc (.cells #[.int .i64 t.id, .int .i64 t.kind, .string t.text, .slice ka len kcap] 25)).drew w2 → w2.cell? ⟨w.heap.size, 0, none⟩ = some (.int .i64 t.id) ∧ w2.cell? ⟨w.heap.size, 1, none⟩ = some (.int .i64 t.kind) ∧ w2.cell? ⟨w.heap.size, 2, none⟩ = some (.string t.text) ∧ w2.cell? ⟨w.heap.size, 3, none⟩ = some (.slice ka len kcap)) := Lib.hid fun w2 v1 bs2 h1 =>
    boxN_of ((h1.1.2.1.block _ (by show w.heap.size < (w.alloc _).heap.size; rw [World.size_alloc]; omega)).trans hbox)
  clear hS hk hkc hlen hl hbox hby hby1 hn hb1
  go_enter Try.func13, Try.ntmps13
  go_wp2_with fail
  go_region_held3 (fun W => W.cell? ⟨w.heap.size, 0, none⟩ = some (.int .i64 t.id) ∧ W.cell? ⟨w.heap.size, 1, none⟩ = some (.int .i64 t.kind) ∧ W.cell? ⟨w.heap.size, 2, none⟩ = some (.string t.text) ∧ W.cell? ⟨w.heap.size, 3, none⟩ = some (.slice ka len kcap))
    (first | (go_keep; done) | exact ⟨c0, c1, c2, c3⟩ | exact HB.out _ _ _ h1 | exact HB.out _ _ _ h2)
    (first
      | (go_at_call 37; refine HC.out.mono ?_; rintro e w2 ⟨v1, rfl, h1⟩)
      | (go_at_call 39; refine (HD.out _ _ h1).mono ?_; rintro e w3 ⟨v2, rfl, h2'⟩; have h2 := OwnS.since h1 h2'))
  have HF := Lib.hid h2
  rename_i hheld
  clear h1 h2 h2' hheld c0 c1 c2 c3
  go_wp2_with fail
  go_ret
  have h3 := HF.out
  obtain ⟨a', cap', rfl, h4⟩ := OwnB.byAt h3
  have hd : Below w.heap.size w (w.alloc (.cells #[.int .i64 t.id, .int .i64 t.kind, .string t.text, .slice ka len kcap] 25)).drew := ⟨H.out.os, H.out.tape, H.out.output, H.out.size, H.out.block⟩
  exact ⟨a', _, cap', rfl, rfl, h4, hd.trans (h3.1.2.1.mono H.out.size)⟩

/-- Steps, one behind the other. -/
def encL (l : List Stp) : List UInt8 := l.flatMap encS
theorem encL_take (l : List Stp) (k : Nat) (x : Stp) (h : l[k]? = some x) : encL (l.take (k + 1)) = encL (l.take k) ++ encS x := by
  rw [List.take_add_one, h]; simp [encL, List.flatMap_append]
theorem encL_le : ∀ (l : List Stp) (k : Nat), (encL (l.take k)).length ≤ (encL l).length
  | [], k => by simp [encL]
  | x :: l, 0 => by simp [encL]
  | x :: l, k + 1 => by
    have := encL_le l k
    simp only [encL, List.take_succ_cons, List.flatMap_cons, List.length_append] at this ⊢; omega
def PStepInv (w : World) (pre : List UInt8) (l : List Stp) (len : Nat) (v i : Value) (wr : World) : Prop := ∃ k : Nat, k ≤ len ∧ i = .int .i64 k ∧ OwnB w.heap.size v (pre ++ encL (l.take k)) w wr

set_option maxRecDepth 100000 in
set_option maxHeartbeats 1000000 in
theorem psteps (w : World) (S : Nat → Prop) (l : List Stp) (a sa : Option Addr) (n cap len scap : Nat) (bs : List UInt8) (hS : ∀ k, S k → k < w.heap.size) (hs : StepsAt w S sa l) (hlen : len = l.length) (hn : n = bs.length) (hby : ByAt w a bs) (hl : bs.length + 8 + (encL l).length ≤ 1000000000000) (hl2 : len ≤ 1000000) :
    Calls Try.prog 15 #[.slice a n cap, .slice sa len scap] w (NewB w (bs ++ num8 (len : Int) ++ encL l)) := by
  have HC := Lib.hid (clone_n w a n cap bs hn hby (by omega))
  have HD : Hid (∀ w2 v1, OwnB w.heap.size v1 bs w w2 → Calls Try.prog 36 #[v1, .int .i64 (len : Int)] w2 (PutC w.heap.size (bs ++ num8 (len : Int)) w)) := Lib.hid fun w2 v1 h1 => addNumber_any w2 w _ v1 bs _ h1 (by omega)
  have H := Lib.hid (And.intro hS (And.intro hs (And.intro hlen hl)))
  clear hS hs hlen hl hn hby
  go_enter Try.func15, Try.ntmps15
  go_wp2_with (first
    | (go_at_call 37; refine HC.out.mono ?_; clear HC; rintro e w2 ⟨v1, rfl, h1⟩; have H1 := Lib.hid (HD.out _ _ h1); clear h1)
    | (go_at_call 36; refine H1.out.mono ?_; clear H1; rintro e w3 ⟨v2, rfl, h1⟩; have H2 := Lib.hid h1; clear h1))
  go_loopw [0, 14] (fun v i wr => PStepInv w (bs ++ num8 (len : Int)) l len v i wr) (fun _ i _ => len - (intOf i).toNat)
  case atStart => exact ⟨0, Nat.zero_le _, rfl, by simpa [encL] using H2.out⟩
  case round =>
    obtain ⟨k, hk, rfl, hinv⟩ := hrel
    have HV := Lib.hid hinv
    clear hinv
    by_cases hlt : k < len
    · obtain ⟨x, hx⟩ : ∃ x, l[k]? = some x := ⟨l[k]'(by have := H.out.2.2.1; omega), List.getElem?_eq_getElem _⟩
      obtain ⟨b, off, rfl, hSb, hc⟩ := (H.out.2.1.kept (w' := wr) (S' := S) fun y hy => ⟨hy, HV.out.1.2.1.block y (H.out.1 y hy)⟩) (by have := H.out.2.2.1; omega)
      obtain ⟨ka, kcap, c0, c1, c2, c3, c4, c5, c6, c7, c8, hp, hf⟩ := hc k x hx
      have hbd : (encL (l.take (k + 1))).length ≤ (encL l).length := encL_le l (k + 1)
      rw [encL_take l k x hx, List.length_append] at hbd
      have hadd := fun (o : Obj) => addStep_any (wr.alloc o) w.heap.size u0 _ S (.agg #[.int .i8 x.op, .int .i64 x.id, .int .i64 x.parent, .int .i64 x.place, .string x.text, .int .i64 x.sub.id, .int .i64 x.sub.kind, .string x.sub.text, .slice ka (foLen x.sub.kids) kcap]) x (HV.out.alloc o).here H.out.1 ⟨ka, kcap, rfl, hp, hf.kept fun y hy => ⟨hy, Below.heap_alloc _ _ _ (by have := H.out.1 y hy; have := HV.out.1.2.2; omega)⟩⟩ (by have := H.out.2.2.2; simp only [List.length_append, num8_length]; omega)
      obtain ⟨m1, hm1⟩ : ∃ m, m = foLen x.sub.kids := ⟨_, rfl⟩
      rw [← hm1] at hadd c8
      have HA := Lib.hid hadd
      have HX := Lib.hid (encL_take l k x hx)
      have hkl : (k : Int) < (len : Int) := by omega
      clear hc hx hadd hf hp hm1 hbd hSb
      go_wp2_with (go_at_call 40; (with_reducible refine (HA.out _).mono ?_); clear HA; rintro e w4 ⟨v3, rfl, h1⟩; have HE := Lib.hid (OwnS.since (HV.out.alloc _) h1); clear h1)
      have e9 : bs ++ num8 (len : Int) ++ encL (l.take k) ++ encS x = bs ++ num8 (len : Int) ++ encL (l.take (k + 1)) := by rw [HX.out, List.append_assoc]
      have h7 := HE.out
      refine ⟨⟨k + 1, by omega, by go_num, ?_⟩, by simp [intOf]; omega⟩
      rw [← e9]; exact h7
    · have hkk : k = len := by omega
      have HKK := Lib.hid hkk
      have hkl : ¬ (k : Int) < (len : Int) := by omega
      clear hkk
      go_wp2_with fail
      go_ret
      have h8 := HV.out
      rw [HKK.out, H.out.2.2.1, List.take_length, ← H.out.2.2.1, List.append_assoc] at h8
      obtain ⟨a', cap', rfl, h4⟩ := OwnB.byAt h8
      exact ⟨a', _, cap', rfl, rfl, h4, h8.1.2.1⟩
end Go.Proofs.Ytljlijdgocfofaa
