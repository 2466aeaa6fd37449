/-
  What slices.Clone answers of bytes, and what is put behind a clone: numbers and texts. A reader of bytes is one of their clone. No condition but that there are not too many of them.
  The calls of a reader of layer 3: what Number and End answer; what each answers of no reader. No condition.
  Trees and steps as bytes, plainly. No condition.
  The document's own Number and Text: new bytes. No condition but that there are not too many of them.
  The document's own Node: bytes, and a tree behind them. No condition but that there are not too many of them.
  What 'wakes' of layer 3 answers: true. No condition.
-/
import Derived.Test.YteccnekdmehloaaDoorCPut
import Derived.Test.YteccnekdmehloaaDoorCTold
import Derived.Test.YteccnekdmehloaaDoorTree
import Derived.Laws.AppendOwnNone
import Derived.Laws.IdiomStrings
namespace Go.Proofs.YteccnekdmehloaaDoor
open Go.RowKit
open Extern.Stop (cell)

/-- The bytes that a slice tells. -/
def ByAt (w : World) (a : Option Addr) (bs : List UInt8) : Prop := (a = none → bs = []) ∧ ∀ ad, a = some ad → ∀ j u, bs[j]? = some u → w.cell? (ad.add j) = some (cell u)
def CloneB (w : World) (bs : List UInt8) (e : Ending) (w' : World) : Prop := ∃ v', e = .returned v' ∧ Below w.heap.size w w' ∧ w'.ownsRow w.heap.size 5 1 v' bs.length (bs.map cell)

theorem Tryd.noneBytes (w : World) (a : Option Addr) (n c : Nat) : (binOp .eql 22 (.slice a n c) (.slice none 0 0)).run Tryd.prog w = .ok (.bool a.isNone) w := Lib.run_eql_slice_nil w _ _ a n c 0 0 Tryd.underlying22
set_option maxRecDepth 100000 in
set_option maxHeartbeats 1000000 in
theorem clone_bytes (w : World) (a : Option Addr) (cap : Nat) (bs : List UInt8) (h : ByAt w a bs) (hn : bs.length ≤ 1000000000000) :
    Calls Tryd.prog 43 #[.slice a bs.length cap] w (CloneB w bs) := by
  have hq := Tryd.noneBytes
  cases a with
  | none =>
    have hb := h.1 rfl
    subst hb
    clear h hn
    go_enter Tryd.func43, Tryd.ntmps43
    go_wp2_with fail
    go_ret
    exact ⟨_, rfl, Below.refl _ _, World.ownsRow_nil _ _ _ _⟩
  | some ad =>
    have hc1 : ∀ (j : Nat) (u : Value), (bs.map cell)[j]? = some u → (w.alloc (.cells #[] 5)).cell? (ad.add j) = some u := fun j u hj => by
      rw [List.getElem?_map, Option.map_eq_some_iff] at hj
      obtain ⟨x, hx, rfl⟩ := hj
      exact Lib.cell?_alloc_some _ (h.2 ad rfl j x hx)
    have hc2 : ∀ u ∈ bs.map cell, u.oneCell' = true := fun u hu => by
      obtain ⟨x, _, rfl⟩ := List.mem_map.1 hu
      rfl
    have HC := Lib.hid (And.intro hc1 hc2)
    clear hc1 hc2
    obtain ⟨i0, hi, hz, hs, hby⟩ := info_u Tryd.infoU
    have HI := Lib.hid (And.intro hi (And.intro hz (And.intro hs hby)))
    obtain ⟨n, hnn⟩ : ∃ n, n = bs.length := ⟨_, rfl⟩
    have HN := Lib.hid (And.intro hnn hn)
    rw [← hnn]
    clear h hn hi hz hs hby hnn
    go_enter Tryd.func43, Tryd.ntmps43
    go_wp2_with (at_builtin; refine wpList_append_own_at _ rfl (.tmp 5) (.tmp 6) _ rfl w.heap.size 5 i0 (.int .u8 0) 1 1 Tryd.underlying22 HI.out.1 HI.out.2.1 HI.out.2.2.1 HI.out.2.2.2 rfl (by omega) (.slice (some ⟨w.heap.size, 0, none⟩) 0 0) 0 [] rfl (World.ownsRow_made w #[] 0 (Nat.le_refl _) (by unfold maxLen; omega) rfl) ad n cap (bs.map cell) rfl (by rw [HN.out.1]; simp) HC.out.1 HC.out.2 (by have := HN.out; unfold maxLen; omega) (by have := HN.out; omega) (by simp) ?_; intro v' w1 hown hgrow _ hat)
    go_ret
    have hs := hgrow.size
    rw [World.size_alloc] at hs
    refine ⟨_, rfl, ⟨hgrow.os, hgrow.tape, hgrow.output, by omega, fun x hx => by
      rw [hgrow.block x (by rw [World.size_alloc]; omega) (by simp [Value.ownBlock]; omega), Below.heap_alloc _ _ _ hx]⟩, ?_⟩
    rw [Nat.zero_add, List.nil_append] at hown
    rw [← HN.out.1]; exact hown

theorem OwnB.of {w w' : World} {v : Value} {bs : List UInt8} (hb : Below w.heap.size w w') (h : w'.ownsRow w.heap.size 5 1 v bs.length (bs.map cell)) : OwnB w.heap.size v bs w w' := ⟨⟨World.ownsRowF_of h, hb, hb.size⟩, StaysU.below hb⟩

theorem owns_sl {w : World} {B : Nat} {e : TypeId} {size : Nat} {v : Value} {n : Nat} {xs : List Value} (h : w.ownsRow B e size v n xs) : ∃ a c, v = .slice a n c := by
  rcases h.2 with ⟨h, h'⟩ | ⟨g', cap', cur, hv, _, hh, _⟩
  · exact ⟨none, 0, by rw [h, h']⟩
  · exact ⟨_, _, hv⟩
/-- A new reader. -/
def NewC (w : World) (bs : List UInt8) (e : Ending) (w' : World) : Prop := ∃ b dv, e = .returned (.pointer (some ⟨b, 0, none⟩)) ∧ w.heap.size ≤ b ∧ (∀ g, dv.ownBlock = some g → w.heap.size ≤ g) ∧ RdAt w' b dv ⟨bs, 0, false⟩ ∧ Below w.heap.size w w'
theorem owns_base {w : World} {B B' : Nat} {e : TypeId} {size : Nat} {v : Value} {n : Nat} {xs : List Value} (h : w.ownsRow B e size v n xs) (hB : B' ≤ B) : w.ownsRow B' e size v n xs := by
  obtain ⟨h1, h2⟩ := h
  refine ⟨h1, ?_⟩
  rcases h2 with h2 | ⟨g, cap, cur, hv, hg, r⟩
  · exact Or.inl h2
  · exact Or.inr ⟨g, cap, cur, hv, Nat.le_trans hB hg, r⟩
theorem newRd_any (w : World) (a : Option Addr) (cap : Nat) (bs : List UInt8) (h : ByAt w a bs) (hn : bs.length ≤ 100000000) :
    Calls Tryd.prog 20 #[.slice a bs.length cap] w (NewC w bs) := by
  have HC := Lib.hid (clone_bytes w a cap bs h (by omega))
  have HN := Lib.hid hn
  clear h hn
  go_enter Tryd.func20, Tryd.ntmps20
  go_wp2_with (go_at_call 43; refine HC.out.mono ?_; clear HC; rintro e w1 ⟨v1, rfl, h1, h2⟩; obtain ⟨a1, c1, rfl⟩ := owns_sl h2; have H1 := Lib.hid (And.intro h1 h2); clear h1 h2)
  go_ret
  have hb := H1.out.1
  have ho := H1.out.2
  have hs := hb.size
  refine ⟨w1.heap.size, _, rfl, hs, fun g hg => ?_, ⟨heap_alloc_new _ _, ?_, fun e => ?_, Nat.zero_le _, HN.out⟩, hb.alloc hs _⟩
  · rcases ho.2 with ⟨h, _⟩ | ⟨g', cap', cur, hv, h3, _⟩
    · rw [h] at hg; cases hg
    · rw [hv] at hg; cases hg; exact h3
  · exact owns_base (owns_keep ho (fun g hg => Below.heap_alloc _ _ _ (owns_lt ho g hg))) (Nat.zero_le _)
  · exact absurd (owns_lt ho _ e) (Nat.lt_irrefl _)
end Go.Proofs.YteccnekdmehloaaDoor
namespace Go.Proofs.YteccnekdmehloaaDoor
open Go.RowKit
open Extern.Stop (cell)

def RetC (R : Value → World → Prop) (e : Ending) (w' : World) : Prop := ∃ v, e = .returned v ∧ R v w'

/-- The next number, and the reader behind it. -/
def Rd.number (s : Rd) : Int × Rd :=
  if s.bad then (0, s) else if s.pos + 8 ≤ s.data.length then (s.num, { s with pos := s.pos + 8 }) else (0, { s with pos := s.data.length, bad := true })
/-- What End tells. -/
def Rd.endV (s : Rd) : Value := if s.bad ∨ s.pos < s.data.length then .tuple #[.int .i64 s.pos, .int .i64 30] else .tuple #[.int .i64 0, .int .i64 0]
theorem End_any (w : World) (b : Nat) (dv : Value) (s : Rd) (h : RdAt w b dv s) : Calls Tryd.prog 22 #[.pointer (some ⟨b, 0, none⟩)] w (RetC fun v w' => v = s.endV ∧ RdAt w' b dv s ∧ Touched w w' (fun _ => False)) := by
  obtain ⟨c0, c1, c2, f⟩ := h.cells
  obtain ⟨a, cap, hdv⟩ : ∃ a cap, dv = .slice a s.data.length cap := owns_sl h.owns
  have hfit := h.fits
  have hfew := h.few
  have H := Lib.hid h
  subst hdv
  clear h
  cases hb : s.bad with
  | true =>
    have e : s.endV = .tuple #[.int .i64 s.pos, .int .i64 30] := by simp [Rd.endV, hb]
    rw [e]
    rw [hb] at c2
    clear e hb
    go_enter Tryd.func22, Tryd.ntmps22
    go_wp2_with (go_quiet (fail))
    go_ret2
    exact ⟨_, rfl, rfl, H.out.drewN _, (Touched.refl _ _).drewN _⟩
  | false =>
    rw [hb] at c2
    by_cases hp : s.pos < s.data.length
    · have e : s.endV = .tuple #[.int .i64 s.pos, .int .i64 30] := by simp [Rd.endV, hp]
      rw [e]
      have hd : decide ((s.pos : Int) < (s.data.length : Int)) = true := by simp; omega
      clear e hb
      go_enter Tryd.func22, Tryd.ntmps22
      go_wp2_with (go_quiet (fail))
      go_ret2
      exact ⟨_, rfl, rfl, H.out.drewN _, (Touched.refl _ _).drewN _⟩
    · have e : s.endV = .tuple #[.int .i64 0, .int .i64 0] := by simp [Rd.endV, hp, hb]
      rw [e]
      have hd : decide ((s.pos : Int) < (s.data.length : Int)) = false := by simp; omega
      clear e hb
      go_enter Tryd.func22, Tryd.ntmps22
      go_wp2_with (go_quiet (fail))
      go_ret2
      exact ⟨_, rfl, rfl, H.out.drewN _, (Touched.refl _ _).drewN _⟩
end Go.Proofs.YteccnekdmehloaaDoor
namespace Go.Proofs.YteccnekdmehloaaDoor
open Go.RowKit
open Extern.Stop (cell)

/-- One node without its kids: n, how many these are. -/
def encK (k : Int × Int × ByteArray) (n : Nat) : List UInt8 := num8 k.1 ++ num8 k.2.1 ++ (num8 (k.2.2.size : Int) ++ k.2.2.data.toList) ++ num8 (n : Int)
def encF : Fo → List UInt8
  | .nil => []
  | .node _ _ k l r => encK k (foLen l) ++ (encF l ++ encF r)
def encT (t : Tr) : List UInt8 := encK (t.id, t.kind, t.text) (foLen t.kids) ++ encF t.kids
/-- How many bytes of text. -/
def foText : Fo → Nat
  | .nil => 0
  | .node _ _ k l r => k.2.2.size + foText l + foText r
def trText (t : Tr) : Nat := t.text.size + foText t.kids
theorem encK_length (k : Int × Int × ByteArray) (n : Nat) : (encK k n).length = 32 + k.2.2.size := by
  have : k.2.2.data.toList.length = k.2.2.size := by simp
  simp [encK, num8_length, this]; omega
theorem encF_length : ∀ f : Fo, (encF f).length = 32 * foSize f + foText f
  | .nil => rfl
  | .node _ _ k l r => by
    simp only [encF, List.length_append, encK_length, encF_length l, encF_length r, foSize, foText]; omega
theorem encT_length (t : Tr) : (encT t).length = 32 * (foSize t.kids + 1) + trText t := by
  simp only [encT, List.length_append, encK_length, encF_length, trText]; omega

/-- A row of nodes that waits. -/
structure Wait where
  a : Option Addr
  cap : Nat
  f : Fo
def Wait.v (r : Wait) : Value := .slice r.a (foLen r.f) r.cap
/-- The bytes that are still to come: the last row's first. -/
def encR (rows : List Wait) : List UInt8 := rows.foldl (fun acc r => encF r.f ++ acc) []
theorem encR_snoc (rows : List Wait) (r : Wait) : encR (rows ++ [r]) = encF r.f ++ encR rows := by simp [encR, List.foldl_append]
def waitN (rows : List Wait) : Nat := rows.foldl (fun acc r => (2 * foSize r.f + 1) + acc) 0
theorem waitN_snoc (rows : List Wait) (r : Wait) : waitN (rows ++ [r]) = (2 * foSize r.f + 1) + waitN rows := by simp [waitN, List.foldl_append]
theorem waitN_acc : ∀ (rows : List Wait) (acc : Nat), rows.length + acc ≤ rows.foldl (fun acc r => (2 * foSize r.f + 1) + acc) acc
  | [], acc => by simp
  | r :: rows, acc => by
    have := waitN_acc rows ((2 * foSize r.f + 1) + acc)
    simp only [List.foldl_cons, List.length_cons]; omega
theorem waitN_len (rows : List Wait) : rows.length ≤ waitN rows := by have := waitN_acc rows 0; simpa [waitN] using this
theorem nil_or_snocC {α : Type} (l : List α) : l = [] ∨ ∃ rs x, l = rs ++ [x] := by
  rcases List.eq_nil_or_concat l with h | ⟨rs, x, h⟩
  · exact Or.inl h
  · exact Or.inr ⟨rs, x, by rw [h]; simp⟩
end Go.Proofs.YteccnekdmehloaaDoor
namespace Go.Proofs.YteccnekdmehloaaDoor
open Go.RowKit
open Extern.Stop (cell)

/-- What a call owns is a slice of these bytes. -/
theorem OwnB.byAt {B : Nat} {v : Value} {bs : List UInt8} {W0 w : World} (h : OwnB B v bs W0 w) : ∃ a cap, v = .slice a bs.length cap ∧ ByAt w a bs := by
  have ho := h.1.1
  have hc := fun g hg => World.ownsRowF.cells ho (g := g) hg
  rcases ho.2 with ⟨hv, hn⟩ | ⟨g, cap, cur, fz, hv, _⟩
  · refine ⟨Option.none, 0, by rw [hv, hn], fun _ => List.eq_nil_of_length_eq_zero hn, fun ad e => by cases e⟩
  · subst hv
    exact ⟨_, cap, rfl, fun e => (by cases e), fun ad e j u hj => by
      cases e
      exact hc g rfl j _ (by rw [List.getElem?_map, hj]; rfl)⟩

end Go.Proofs.YteccnekdmehloaaDoor
namespace Go.Proofs.YteccnekdmehloaaDoor
open Go.RowKit
open Extern.Stop (cell)

/-- New bytes, of which nothing lay in w. -/
def NewB (w : World) (bs : List UInt8) (e : Ending) (w' : World) : Prop := ∃ a n cap, e = .returned (.slice a n cap) ∧ n = bs.length ∧ ByAt w' a bs ∧ Below w.heap.size w w'
theorem PutC.new {w w' : World} {bs : List UInt8} {e : Ending} (h : PutC w.heap.size bs w e w') : NewB w bs e w' := by
  obtain ⟨v, rfl, h⟩ := h
  obtain ⟨a, cap, rfl, h2⟩ := h.byAt
  exact ⟨a, _, cap, rfl, rfl, h2, h.1.2.1⟩
theorem ByAt.below {w w' : World} {a : Option Addr} {bs : List UInt8} (h : ByAt w a bs) (hb : Below w.heap.size w w') : ByAt w' a bs := ⟨h.1, fun ad e j u hj => by
  have := h.2 ad e j u hj
  rw [World.cell?_of_block (hb.block _ (block_lt_of_cell this))]; exact this⟩
theorem toList_size (s : ByteArray) : s.data.toList.length = s.size := by simp
end Go.Proofs.YteccnekdmehloaaDoor
namespace Go.Proofs.YteccnekdmehloaaDoor
open Go.RowKit
open Extern.Stop (cell)

/-- Bytes that a call owns, as a text. -/
theorem OwnB.text {B : Nat} {v : Value} {bs : List UInt8} {W0 w : World} (h : OwnB B v bs W0 w) : (convert 22 9 v).run Tryd.prog w = .ok (.string ⟨bs.toArray⟩) w := by
  have ho := h.1.1
  have hc := fun g hg => World.ownsRowF.cells ho (g := g) hg
  rcases ho.2 with ⟨hv, hn⟩ | ⟨g, cap, cur, fz, hv, _⟩
  · have hb : bs = [] := List.eq_nil_of_length_eq_zero hn
    subst hb
    subst hv
    rw [run_convert_bytes_string w _ _ _ none 0 0 Tryd.underlying22 Tryd.underlying5 Tryd.underlying9]
    simp [Conv.bytesToString]
    rfl
  · subst hv
    exact run_convert_bytes_back w _ _ _ ⟨g, 0, none⟩ cap bs Tryd.underlying22 Tryd.underlying5 Tryd.underlying9 (fun j hj => hc g rfl j _ (by rw [List.getElem?_map, List.getElem?_eq_getElem hj]; rfl))

/-- Two readers side by side, made since w. -/
structure TwoAt (w wr : World) (b c : Nat) (d f : Value) (s t : Rd) : Prop where
  one : RdAt wr b d s
  two : RdAt wr c f t
  apart : b ≠ c ∧ d.ownBlock ≠ some c ∧ f.ownBlock ≠ some b
  low : w.heap.size ≤ b ∧ w.heap.size ≤ c
  below : Below w.heap.size w wr
theorem TwoAt.first {w wr w' : World} {b c : Nat} {d f : Value} {s s' t : Rd} (h : TwoAt w wr b c d f s t) (h1 : RdAt w' b d s') (ht : Touched wr w' (fun k => k = b)) : TwoAt w w' b c d f s' t :=
  ⟨h1, h.two.kept ht (fun e => h.apart.1 e.symm) (fun g hg e => h.apart.2.2 (by rw [hg, e])), h.apart, h.low, h.below.trans (ht.below h.below.size (fun k e => by rw [e]; exact h.low.1))⟩
theorem TwoAt.second {w wr w' : World} {b c : Nat} {d f : Value} {s t t' : Rd} (h : TwoAt w wr b c d f s t) (h1 : RdAt w' c f t') (ht : Touched wr w' (fun k => k = c)) : TwoAt w w' b c d f s t' :=
  ⟨h.one.kept ht h.apart.1 (fun g hg e => h.apart.2.1 (by rw [hg, e])), h1, h.apart, h.low, h.below.trans (ht.below h.below.size (fun k e => by rw [e]; exact h.low.2))⟩
end Go.Proofs.YteccnekdmehloaaDoor
