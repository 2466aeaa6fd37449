/-
  Steps behind bytes: the program's addStep, the document's own Step. No condition but that there are not too many bytes.
-/
import Derived.Test.YtljlijdgocfofaaCAddNode
import Derived.Test.YtljlijdgocfofaaCRefNode
namespace Go.Proofs.Ytljlijdgocfofaa
open Go.RowKit
open Extern.Stop (cell)

structure Stp where
  op : Int
  id : Int
  parent : Int
  place : Int
  text : ByteArray
  sub : Tr
def StAt (w : World) (S : Nat → Prop) (v : Value) (s : Stp) : Prop :=
  ∃ ka cap, v = .agg #[.int .i8 s.op, .int .i64 s.id, .int .i64 s.parent, .int .i64 s.place, .string s.text, .int .i64 s.sub.id, .int .i64 s.sub.kind, .string s.sub.text, .slice ka (foLen s.sub.kids) cap] ∧ foLen s.sub.kids ≤ cap ∧ FoAt w S s.sub.kids ka
def StepsAt (w : World) (S : Nat → Prop) (a : Option Addr) (l : List Stp) : Prop :=
  0 < l.length → ∃ b off, a = some ⟨b, off, none⟩ ∧ S b ∧ ∀ k x, l[k]? = some x → ∃ ka cap, w.cell? ⟨b, off + k * 9, none⟩ = some (.int .i8 x.op) ∧ w.cell? ⟨b, off + k * 9 + 1, none⟩ = some (.int .i64 x.id) ∧ w.cell? ⟨b, off + k * 9 + 2, none⟩ = some (.int .i64 x.parent) ∧
    w.cell? ⟨b, off + k * 9 + 3, none⟩ = some (.int .i64 x.place) ∧ w.cell? ⟨b, off + k * 9 + 4, none⟩ = some (.string x.text) ∧ w.cell? ⟨b, off + k * 9 + 5, none⟩ = some (.int .i64 x.sub.id) ∧ w.cell? ⟨b, off + k * 9 + 6, none⟩ = some (.int .i64 x.sub.kind) ∧
    w.cell? ⟨b, off + k * 9 + 7, none⟩ = some (.string x.sub.text) ∧ w.cell? ⟨b, off + k * 9 + 8, none⟩ = some (.slice ka (foLen x.sub.kids) cap) ∧ foLen x.sub.kids ≤ cap ∧ FoAt w S x.sub.kids ka
theorem StepsAt.kept {w w' : World} {S S' : Nat → Prop} {a : Option Addr} {l : List Stp} (h : StepsAt w S a l) (hS : ∀ k, S k → S' k ∧ w'.heap[k]? = w.heap[k]?) : StepsAt w' S' a l := fun h0 => by
  obtain ⟨b, off, e, hb, hc⟩ := h h0
  refine ⟨b, off, e, (hS b hb).1, fun k x hx => ?_⟩
  obtain ⟨ka, cap, c0, c1, c2, c3, c4, c5, c6, c7, c8, hp, hf⟩ := hc k x hx
  have hh := (hS b hb).2
  exact ⟨ka, cap, (World.cell?_of_block hh).trans c0, (World.cell?_of_block hh).trans c1, (World.cell?_of_block hh).trans c2, (World.cell?_of_block hh).trans c3, (World.cell?_of_block hh).trans c4, (World.cell?_of_block hh).trans c5, (World.cell?_of_block hh).trans c6, (World.cell?_of_block hh).trans c7, (World.cell?_of_block hh).trans c8, hp, hf.kept hS⟩
def opByte (n : Int) : UInt8 := UInt8.ofNat (n % 256).toNat
theorem opByte_cell (n : Int) : cell (opByte n) = .int .u8 (n % 256) := by
  have h0 : 0 ≤ n % 256 := Int.emod_nonneg _ (by decide)
  have h1 : n % 256 < 256 := Int.emod_lt_of_pos _ (by decide)
  have e : (opByte n).toNat = (n % 256).toNat := by
    unfold opByte
    rw [UInt8.toNat_ofNat']; omega
  show Value.int .u8 ((opByte n).toNat : Int) = _
  rw [e, Int.toNat_of_nonneg h0]
/-- A step as bytes. -/
def encS (s : Stp) : List UInt8 := [opByte s.op] ++ num8 s.id ++ num8 s.parent ++ num8 s.place ++ (num8 (s.text.size : Int) ++ s.text.data.toList) ++ encT s.sub
theorem encS_length (s : Stp) : (encS s).length = 33 + s.text.size + (encT s.sub).length := by
  simp only [encS, List.length_append, num8_length, toList_size, List.length_singleton]; omega
theorem OwnB.more {B : Nat} {v : Value} {bs : List UInt8} {W0 w : World} {x : UInt8} {c : Int} (hc : cell x = .int .u8 c) (h : OwnS B v (bs.length + 1) (bs.map cell ++ [.int .u8 c]) W0 w) : OwnB B v (bs ++ [x]) W0 w := by
  show OwnS B v (bs ++ [x]).length ((bs ++ [x]).map cell) W0 w
  rw [List.length_append, List.map_append, List.map_singleton, hc]; exact h
theorem box9 {w w' : World} {a0 a1 a2 a3 a4 a5 a6 a7 a8 : Value} {t : TypeId} (h : StaysU (w.alloc (.cells #[a0, a1, a2, a3, a4, a5, a6, a7, a8] t)) w') (ht : (t == 5) = false) : (w'.cell? ⟨w.heap.size, 0, none⟩ = some a0 ∧ w'.cell? ⟨w.heap.size, 1, none⟩ = some a1 ∧ w'.cell? ⟨w.heap.size, 2, none⟩ = some a2 ∧ w'.cell? ⟨w.heap.size, 3, none⟩ = some a3 ∧ w'.cell? ⟨w.heap.size, 4, none⟩ = some a4) ∧ w'.cell? ⟨w.heap.size, 5, none⟩ = some a5 ∧ w'.cell? ⟨w.heap.size, 6, none⟩ = some a6 ∧ w'.cell? ⟨w.heap.size, 7, none⟩ = some a7 ∧ w'.cell? ⟨w.heap.size, 8, none⟩ = some a8 := by
  have h1 := h _ _ (heap_alloc_new w _) (by simp [notU8, ht])
  exact ⟨⟨by rw [cell_of_row _ _ 0 _ _ _ h1]; rfl, by rw [cell_of_row _ _ 1 _ _ _ h1]; rfl, by rw [cell_of_row _ _ 2 _ _ _ h1]; rfl, by rw [cell_of_row _ _ 3 _ _ _ h1]; rfl, by rw [cell_of_row _ _ 4 _ _ _ h1]; rfl⟩, by rw [cell_of_row _ _ 5 _ _ _ h1]; rfl, by rw [cell_of_row _ _ 6 _ _ _ h1]; rfl, by rw [cell_of_row _ _ 7 _ _ _ h1]; rfl, by rw [cell_of_row _ _ 8 _ _ _ h1]; rfl⟩

set_option maxRecDepth 100000 in
set_option maxHeartbeats 1000000 in
theorem addStep_any (w : World) (B : Nat) (v : Value) (bs : List UInt8) (S : Nat → Prop) (sv : Value) (s : Stp) (h : OwnB B v bs w w) (hS : ∀ k, S k → k < B) (hs : StAt w S sv s) (hl : bs.length + (encS s).length ≤ 1000000000000) :
    Calls Try.prog 40 #[v, sv] w (PutC B (bs ++ encS s) w) := by
  obtain ⟨ka, cap, rfl, hcap, hk⟩ := hs
  rw [encS_length] at hl
  obtain ⟨i0, hi, hz, hsz, hby⟩ := info_u Try.infoU
  have HI := Lib.hid (And.intro hi (And.intro hz (And.intro hsz hby)))
  obtain ⟨len, hlen⟩ : ∃ len, len = foLen s.sub.kids := ⟨_, rfl⟩
  rw [← hlen]
  have H := Lib.hid (And.intro h (And.intro hS (And.intro hk (And.intro hl (And.intro hcap hlen)))))
  clear h hS hk hl hcap hlen hi hz hsz hby
  go_enter Try.func40, Try.ntmps40
  go_wp2_with (first
    | (at_builtin; refine wpList_byte rfl (.tmp 5) (.tmp 9) 22 rfl B i0 Try.underlying22 HI.out.1 HI.out.2.1 HI.out.2.2.1 HI.out.2.2.2 _ bs.length (bs.map cell) rfl _ _ _ (H.out.1.alloc _).here (w.heap.size + 1) (by simp) rfl (by have := H.out.2.2.2.1; omega) ?_; intro v0 w1 ho; have h1 := OwnB.more (opByte_cell _) ho; have d1 := (box9 h1.2 rfl).1.2.1; have HA := Lib.hid (addNumber_any w1 _ B v0 _ s.id h1 (by have := H.out.2.2.2.1; simp only [List.length_append, List.length_singleton]; omega)); clear ho h1)
    | (go_at_call 36; (with_reducible refine HA.out.mono ?_); clear HA; rintro e w2 ⟨v1, rfl, h1⟩; have d2 := (box9 h1.2 rfl).1.2.2.1; have HB := Lib.hid (addNumber_any w2 _ B v1 _ s.parent h1 (by have := H.out.2.2.2.1; simp only [List.length_append, List.length_singleton, num8_length]; omega)); clear h1)
    | (go_at_call 36; (with_reducible refine HB.out.mono ?_); clear HB; rintro e w3 ⟨v2, rfl, h1⟩; have d3 := (box9 h1.2 rfl).1.2.2.2.1; have HC := Lib.hid (addNumber_any w3 _ B v2 _ s.place h1 (by have := H.out.2.2.2.1; simp only [List.length_append, List.length_singleton, num8_length]; omega)); clear h1)
    | (go_at_call 36; (with_reducible refine HC.out.mono ?_); clear HC; rintro e w4 ⟨v3, rfl, h1⟩; have d4 := (box9 h1.2 rfl).1.2.2.2.2; have HD := Lib.hid (addText_any w4 _ B v3 _ s.text h1 (by have := H.out.2.2.2.1; simp only [List.length_append, List.length_singleton, num8_length]; omega) (by have := H.out.2.2.2.1; omega)); clear h1)
    | (go_at_call 38; (with_reducible refine HD.out.mono ?_); clear HD; rintro e w5 ⟨v4, rfl, h1⟩; obtain ⟨d5, d6, d7, d8⟩ := (box9 h1.2 rfl).2; have HE := Lib.hid (And.intro h1 (addNode_any w5 B v4 _ S (.agg #[.int .i64 s.sub.id, .int .i64 s.sub.kind, .string s.sub.text, .slice ka len cap]) s.sub h1.here H.out.2.1 ⟨ka, cap, by rw [H.out.2.2.2.2.2], H.out.2.2.2.2.1, H.out.2.2.1.kept fun x hx => ⟨hx, (h1.1.2.1.block x (H.out.2.1 x hx)).trans (Below.heap_alloc _ _ _ (Nat.lt_of_lt_of_le (H.out.2.1 x hx) H.out.1.1.2.2))⟩⟩ (by have := H.out.2.2.2.1; simp only [List.length_append, List.length_singleton, num8_length, toList_size]; omega))); clear h1)
    | (go_at_call 39; (with_reducible refine HE.out.2.mono ?_); rintro e w6 ⟨v5, rfl, h1⟩; have HF := Lib.hid h1; clear h1))
  go_ret
  refine ⟨v5, rfl, ?_⟩
  have h2 := (H.out.1.alloc (.cells #[.int .i8 s.op, .int .i64 s.id, .int .i64 s.parent, .int .i64 s.place, .string s.text, .int .i64 s.sub.id, .int .i64 s.sub.kind, .string s.sub.text, .slice ka len cap] 54)).since (HE.out.1.since HF.out)
  have e9 : bs ++ encS s = bs ++ [opByte s.op] ++ num8 s.id ++ num8 s.parent ++ num8 s.place ++ (num8 (s.text.size : Int) ++ s.text.data.toList) ++ encT s.sub := by simp [encS, List.append_assoc]
  rw [e9]; exact h2
end Go.Proofs.Ytljlijdgocfofaa
