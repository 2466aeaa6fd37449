/-
  The document's own net: its call Double. No condition but that it lies where it is said to lie.
  The document's own net: its call Take. No condition but that it lies where it is said to lie.
  The document's own net: its call Clear. No condition but that it lies where it is said to lie.
-/
import Derived.Test.YtklpafognbodhaaRLook
import Derived.Test.YtklpafognbodhaaPDouble
import Derived.Maps.AppendAt
namespace Go.Proofs.Ytklpafognbodhaa
open Go.RowKit

theorem NetC.after {w W w' : World} {S : Nat → Prop} {rb : Nat} {l : List Item} {E : Value} {e : Ending} (hb : Below w.heap.size w W) (h : NetC W S rb l E e w') : NetC w S rb l E e w' := by
  obtain ⟨he, S', h1, h2, h3⟩ := h
  exact ⟨he, S', h1, (Below.touched hb S).trans h2 (fun x hx => Or.inl hx), fun x hx => (h3 x hx).imp id fun h => Nat.le_trans hb.size h⟩

/-- A message out of Look, laid into a cell of its own. -/
theorem look_laid {w w1 : World} {m : Msg} {cs : List Value} (h16 : cs.length = 16) (hm : ∃ sa sc ka cap, cs = msgCells m sa sc ka cap ∧ MsgIn w1 (Fresh w w1) m sa ka) (hb : Below w.heap.size w w1) :
    freeAt (w1.alloc (.cells #[.int .i8 0, .int .i64 0, .int .i64 0, .int .i64 0, .int .i64 0, .int .i64 0, .int .i64 0, .int .i64 0, .int .i64 0, .int .i64 0, .int .i64 0, .slice none 0 0, .int .i64 0, .int .i64 0, .string ⟨#[]⟩, .slice none 0 0] 40)) (.pointer (some ⟨w1.heap.size, 0, none⟩)) = true ∧ isMsg (.agg cs.toArray) = true ∧ (okAt ((w1.alloc (.cells #[.int .i8 0, .int .i64 0, .int .i64 0, .int .i64 0, .int .i64 0, .int .i64 0, .int .i64 0, .int .i64 0, .int .i64 0, .int .i64 0, .int .i64 0, .slice none 0 0, .int .i64 0, .int .i64 0, .string ⟨#[]⟩, .slice none 0 0] 40)).setCells w1.heap.size 0 cs) (.pointer (some ⟨w1.heap.size, 0, none⟩)) = true ∧ cellsAt ((w1.alloc (.cells #[.int .i8 0, .int .i64 0, .int .i64 0, .int .i64 0, .int .i64 0, .int .i64 0, .int .i64 0, .int .i64 0, .int .i64 0, .int .i64 0, .int .i64 0, .slice none 0 0, .int .i64 0, .int .i64 0, .string ⟨#[]⟩, .slice none 0 0] 40)).setCells w1.heap.size 0 cs) (.pointer (some ⟨w1.heap.size, 0, none⟩)) = cs.toArray) ∧
      Below w.heap.size w ((w1.alloc (.cells #[.int .i8 0, .int .i64 0, .int .i64 0, .int .i64 0, .int .i64 0, .int .i64 0, .int .i64 0, .int .i64 0, .int .i64 0, .int .i64 0, .int .i64 0, .slice none 0 0, .int .i64 0, .int .i64 0, .string ⟨#[]⟩, .slice none 0 0] 40)).setCells w1.heap.size 0 cs) ∧ MsgAt ((w1.alloc (.cells #[.int .i8 0, .int .i64 0, .int .i64 0, .int .i64 0, .int .i64 0, .int .i64 0, .int .i64 0, .int .i64 0, .int .i64 0, .int .i64 0, .int .i64 0, .slice none 0 0, .int .i64 0, .int .i64 0, .string ⟨#[]⟩, .slice none 0 0] 40)).setCells w1.heap.size 0 cs) (Fresh w w1) (.agg cs.toArray) m ∧ ((w1.alloc (.cells #[.int .i8 0, .int .i64 0, .int .i64 0, .int .i64 0, .int .i64 0, .int .i64 0, .int .i64 0, .int .i64 0, .int .i64 0, .int .i64 0, .int .i64 0, .slice none 0 0, .int .i64 0, .int .i64 0, .string ⟨#[]⟩, .slice none 0 0] 40)).setCells w1.heap.size 0 cs).heap.size = w1.heap.size + 1 ∧ ((w1.alloc (.cells #[.int .i8 0, .int .i64 0, .int .i64 0, .int .i64 0, .int .i64 0, .int .i64 0, .int .i64 0, .int .i64 0, .int .i64 0, .int .i64 0, .int .i64 0, .slice none 0 0, .int .i64 0, .int .i64 0, .string ⟨#[]⟩, .slice none 0 0] 40)).setCells w1.heap.size 0 cs).heap[w1.heap.size]? = some (.cells cs.toArray 40 (0, 0)) := by
  obtain ⟨sa, sc, ka, cap, rfl, hin⟩ := hm
  obtain ⟨g1, g2, g3⟩ := dbl_mid (w := w) hb h16
  have h2 := heap_alloc_new w1 (.cells #[.int .i8 0, .int .i64 0, .int .i64 0, .int .i64 0, .int .i64 0, .int .i64 0, .int .i64 0, .int .i64 0, .int .i64 0, .int .i64 0, .int .i64 0, .slice none 0 0, .int .i64 0, .int .i64 0, .string ⟨#[]⟩, .slice none 0 0] 40)
  have hst := store_msg h2 rfl h16
  have hsz : (w1.alloc (.cells #[.int .i8 0, .int .i64 0, .int .i64 0, .int .i64 0, .int .i64 0, .int .i64 0, .int .i64 0, .int .i64 0, .int .i64 0, .int .i64 0, .int .i64 0, .slice none 0 0, .int .i64 0, .int .i64 0, .string ⟨#[]⟩, .slice none 0 0] 40)).heap.size = w1.heap.size + 1 := by simp
  refine ⟨g1, isMsg_agg h16 (msgCells_one m sa sc ka cap), g2, g3, (hin.kept fun x hx => ⟨hx, ?_⟩).at sc cap, by rw [hst.2.1, hsz], hst.1⟩
  rw [hst.2.2.1 x (by have := hx.2; omega)]
  exact Below.heap_alloc w1 _ x hx.2

attribute [local go_sem ↓] loadM wpLoadM storeM wpStoreM
attribute [local go_sem] putAt_ptr
set_option maxRecDepth 100000 in
set_option maxHeartbeats 2000000 in
theorem rdouble_no (w : World) (S : Nat → Prop) (rb : Nat) (l : List Item) (k : Int) (h : RNetAt w S rb l) (hk : k < 0 ∨ (l.length : Int) ≤ k) :
    Calls Try.prog 20 #[.pointer (some ⟨rb, 0, none⟩), .int .i64 k] w (NetC w S rb l (.int .i64 4)) := by
  have hlook := rlook_no w S rb l k h hk
  have hmid : ∀ w1 : World, Below w.heap.size w w1 → freeAt (w1.alloc (.cells #[.int .i8 0, .int .i64 0, .int .i64 0, .int .i64 0, .int .i64 0, .int .i64 0, .int .i64 0, .int .i64 0, .int .i64 0, .int .i64 0, .int .i64 0, .slice none 0 0, .int .i64 0, .int .i64 0, .string ⟨#[]⟩, .slice none 0 0] 40)) (.pointer (some ⟨w1.heap.size, 0, none⟩)) = true ∧ NetC w S rb l (.int .i64 4) (.returned (.int .i64 4)) ((w1.alloc (.cells #[.int .i8 0, .int .i64 0, .int .i64 0, .int .i64 0, .int .i64 0, .int .i64 0, .int .i64 0, .int .i64 0, .int .i64 0, .int .i64 0, .int .i64 0, .slice none 0 0, .int .i64 0, .int .i64 0, .string ⟨#[]⟩, .slice none 0 0] 40)).setCells w1.heap.size 0 #[.int .i8 0, .int .i64 0, .int .i64 0, .int .i64 0, .int .i64 0, .int .i64 0, .int .i64 0, .int .i64 0, .int .i64 0, .int .i64 0, .int .i64 0, .slice none 0 0, .int .i64 0, .int .i64 0, .string ⟨#[]⟩, .slice none 0 0].toList) := fun w1 hb => by
    obtain ⟨g1, g2, g3⟩ := dbl_mid (w := w) (cs := #[.int .i8 0, .int .i64 0, .int .i64 0, .int .i64 0, .int .i64 0, .int .i64 0, .int .i64 0, .int .i64 0, .int .i64 0, .int .i64 0, .int .i64 0, .slice none 0 0, .int .i64 0, .int .i64 0, .string ⟨#[]⟩, .slice none 0 0].toList) hb rfl
    exact ⟨g1, NetC.same h g3⟩
  have f2 : isMsg (.agg #[.int .i8 0, .int .i64 0, .int .i64 0, .int .i64 0, .int .i64 0, .int .i64 0, .int .i64 0, .int .i64 0, .int .i64 0, .int .i64 0, .int .i64 0, .slice none 0 0, .int .i64 0, .int .i64 0, .string ⟨#[]⟩, .slice none 0 0]) = true := isMsg_agg (cs := (#[.int .i8 0, .int .i64 0, .int .i64 0, .int .i64 0, .int .i64 0, .int .i64 0, .int .i64 0, .int .i64 0, .int .i64 0, .int .i64 0, .int .i64 0, .slice none 0 0, .int .i64 0, .int .i64 0, .string ⟨#[]⟩, .slice none 0 0] : Array Value).toList) rfl (by simp [Value.oneCell'])
  have HL := Lib.hid hlook
  have HM := Lib.hid hmid
  clear h hk hlook hmid
  go_enter Try.func20, Try.ntmps20
  go_wp2_with (go_at_call 23; refine HL.out.mono ?_; rintro e w1 ⟨rfl, hb⟩; obtain ⟨f1, hq⟩ := HM.out w1 hb; have HQ := Lib.hid hq; clear hq hb)
  go_ret
  exact HQ.out

set_option maxRecDepth 100000 in
set_option maxHeartbeats 2000000 in
theorem rdouble_any (w : World) (S : Nat → Prop) (rb : Nat) (l l' : List Item) (k : Nat) (p : Item) (ee : Int) (h : RNetAt w S rb l) (hk : l[k]? = some p) (hm : p.1.small) (hlen : l.length ≤ 1000000)
    (hs : ∀ (W : World) (U : Nat → Prop) (v : Value), RNetAt W S rb l → (∀ x, U x → x < W.heap.size) → MsgAt W U v p.1 → Calls Try.prog 16 #[.pointer (some ⟨rb, 0, none⟩), v] W (NetC W S rb l' (.int .i64 ee))) :
    Calls Try.prog 20 #[.pointer (some ⟨rb, 0, none⟩), .int .i64 k] w (NetC w S rb l' (.int .i64 ee)) := by
  have hlook := rlook_yes w S rb l k p h hk hm hlen
  have hmid : ∀ (w1 : World) (cs : List Value), cs.length = 16 → (∃ sa sc ka cap, cs = msgCells p.1 sa sc ka cap ∧ MsgIn w1 (Fresh w w1) p.1 sa ka) → Below w.heap.size w w1 →
      freeAt (w1.alloc (.cells #[.int .i8 0, .int .i64 0, .int .i64 0, .int .i64 0, .int .i64 0, .int .i64 0, .int .i64 0, .int .i64 0, .int .i64 0, .int .i64 0, .int .i64 0, .slice none 0 0, .int .i64 0, .int .i64 0, .string ⟨#[]⟩, .slice none 0 0] 40)) (.pointer (some ⟨w1.heap.size, 0, none⟩)) = true ∧ isMsg (.agg cs.toArray) = true ∧ (okAt ((w1.alloc (.cells #[.int .i8 0, .int .i64 0, .int .i64 0, .int .i64 0, .int .i64 0, .int .i64 0, .int .i64 0, .int .i64 0, .int .i64 0, .int .i64 0, .int .i64 0, .slice none 0 0, .int .i64 0, .int .i64 0, .string ⟨#[]⟩, .slice none 0 0] 40)).setCells w1.heap.size 0 cs) (.pointer (some ⟨w1.heap.size, 0, none⟩)) = true ∧ cellsAt ((w1.alloc (.cells #[.int .i8 0, .int .i64 0, .int .i64 0, .int .i64 0, .int .i64 0, .int .i64 0, .int .i64 0, .int .i64 0, .int .i64 0, .int .i64 0, .int .i64 0, .slice none 0 0, .int .i64 0, .int .i64 0, .string ⟨#[]⟩, .slice none 0 0] 40)).setCells w1.heap.size 0 cs) (.pointer (some ⟨w1.heap.size, 0, none⟩)) = cs.toArray) ∧
      Calls Try.prog 16 #[.pointer (some ⟨rb, 0, none⟩), .agg cs.toArray] ((w1.alloc (.cells #[.int .i8 0, .int .i64 0, .int .i64 0, .int .i64 0, .int .i64 0, .int .i64 0, .int .i64 0, .int .i64 0, .int .i64 0, .int .i64 0, .int .i64 0, .slice none 0 0, .int .i64 0, .int .i64 0, .string ⟨#[]⟩, .slice none 0 0] 40)).setCells w1.heap.size 0 cs) (NetC w S rb l' (.int .i64 ee)) := fun w1 cs h16 hmi hb => by
    obtain ⟨g1, g2, g3, g4, g5, g6, _⟩ := look_laid h16 hmi hb
    refine ⟨g1, g2, g3, (hs _ (Fresh w w1) _ (h.kept g4.size (fun x hx => g4.block x (h.1 x hx))) (fun x hx => by rw [g6]; have := hx.2; omega) g5).mono fun e w' hc => hc.after g4⟩
  have HL := Lib.hid hlook
  have HM := Lib.hid hmid
  clear h hk hlook hmid hs hm
  go_enter Try.func20, Try.ntmps20
  go_wp2_with (first
    | (go_at_call 23; refine HL.out.mono ?_; rintro e w1 ⟨cs, rfl, h16, hmi, hb⟩; obtain ⟨f1, f2, ⟨f3, f4⟩, hq⟩ := HM.out w1 cs h16 hmi hb; have HQ := Lib.hid hq; clear hq hb hmi)
    | (go_at_call 16; refine HQ.out.mono ?_; rintro e w3 hc; obtain rfl := hc.1; have HC := Lib.hid hc; clear hc))
  go_ret
  exact HC.out

end Go.Proofs.Ytklpafognbodhaa
namespace Go.Proofs.Ytklpafognbodhaa
open Go.RowKit

theorem owns_low {w : World} {B size n : Nat} {e : TypeId} {v : Value} {xs : List Value} (h : w.ownsRow B e size v n xs) : w.ownsRow 0 e size v n xs :=
  ⟨h.1, h.2.imp id fun ⟨g, cap, cur, a, _, c⟩ => ⟨g, cap, cur, a, Nat.zero_le _, c⟩⟩

/-- The two rows under way: what is there of its. -/
def TakeInv (W2 wr : World) (X : Nat → Prop) (its : List Item) (v9 v10 : Value) : Prop := Below W2.heap.size W2 wr ∧ ∃ ys, wr.ownsRow W2.heap.size 40 16 v9 its.length ys ∧ wr.ownsRow W2.heap.size 4 1 v10 its.length (marks its) ∧ MsgRow W2 X (its.map (·.1)) ys
/-- The message is in, its mark is not yet. -/
def TakeMid (W2 wr : World) (X : Nat → Prop) (its : List Item) (m : Msg) (v9 v10 : Value) : Prop := Below W2.heap.size W2 wr ∧ ∃ ys, wr.ownsRow W2.heap.size 40 16 v9 (its.length + 1) ys ∧ wr.ownsRow W2.heap.size 4 1 v10 its.length (marks its) ∧ MsgRow W2 X (its.map (·.1) ++ [m]) ys

theorem take_mid {W2 wr w4 : World} {X : Nat → Prop} {its : List Item} {v9 v10 v9' : Value} {ys : List Value} {m : Msg} {o : Obj} {sa ka : Option Addr} {sc cap : Nat} (hb : Below W2.heap.size W2 wr)
    (h9 : wr.ownsRow W2.heap.size 40 16 v9 its.length ys) (h10 : wr.ownsRow W2.heap.size 4 1 v10 its.length (marks its)) (hr : MsgRow W2 X (its.map (·.1)) ys) (hin : MsgIn W2 X m sa ka)
    (hown : w4.ownsRow W2.heap.size 40 16 v9' (its.length + 1) (ys ++ msgCells m sa sc ka cap)) (hg : (wr.alloc o).grownBy w4 v9.ownBlock) : TakeMid W2 w4 X its m v9' v10 := by
  have hbs := hb.size
  refine ⟨(hb.alloc hbs o).grown hg (by simp; omega) (fun g hg => (owns_bounds h9 hg).1), _, hown, ?_, hr.snoc hin sc cap⟩
  refine owns_kept (h10.alloc o) fun g cur hg2 hgo => hg.block g (lt_of_some hg2) (fun e => ?_)
  exact owned_apart h9 h10 (by decide) e.symm hgo
theorem take_more {W2 w4 w5 : World} {X : Nat → Prop} {its : List Item} {v9 v10 v10' : Value} {p : Item} {o : Obj} (h : TakeMid W2 w4 X its p.1 v9 v10)
    (hown : w5.ownsRow W2.heap.size 4 1 v10' (its.length + 1) (marks its ++ [.bool p.2])) (hg : (w4.alloc o).grownBy w5 v10.ownBlock) : TakeInv W2 w5 X (its ++ [p]) v9 v10' := by
  obtain ⟨hb, ys, h9, h10, hr⟩ := h
  have hbs := hb.size
  refine ⟨(hb.alloc hbs o).grown hg (by simp; omega) (fun g hg => (owns_bounds h10 hg).1), ys, ?_, ?_, ?_⟩
  · rw [List.length_append]
    refine owns_kept (h9.alloc o) fun g cur hg2 hgo => hg.block g (lt_of_some hg2) (fun e => ?_)
    exact owned_apart h9 h10 (by decide) hgo e.symm
  · rw [List.length_append, show marks (its ++ [p]) = marks its ++ [.bool p.2] by simp [marks]]
    exact hown
  · rw [List.map_append]; exact hr

theorem cut_same {l : List Item} {k : Nat} : (l.take (k + 1)).eraseIdx k = (l.take k).eraseIdx k := by
  rw [List.eraseIdx_of_length_le (l := l.take k) (by simp; omega)]
  by_cases h : k < l.length
  · rw [List.take_succ_eq_append_getElem h, List.eraseIdx_append_of_length_le (by simp; omega)]
    simp [Nat.min_eq_left (Nat.le_of_lt h)]
  · rw [List.take_of_length_le (by omega), List.take_of_length_le (by omega), List.eraseIdx_of_length_le (by omega)]
theorem cut_more {l : List Item} {k i : Nat} {p : Item} (hp : l[i]? = some p) (hne : i ≠ k) : (l.take (i + 1)).eraseIdx k = (l.take i).eraseIdx k ++ [p] := by
  obtain ⟨hi, rfl⟩ := List.getElem?_eq_some_iff.1 hp
  rw [List.take_succ_eq_append_getElem hi]
  by_cases h : k < i
  · rw [List.eraseIdx_append_of_lt_length (by simp; omega)]
  · rw [List.eraseIdx_of_length_le (l := l.take i) (by simp; omega), List.eraseIdx_of_length_le (by simp; omega)]
theorem cut_le {l : List Item} {k i : Nat} : ((l.take i).eraseIdx k).length ≤ i := by
  have h1 := List.length_eraseIdx_le (l.take i) k
  have h2 := List.length_take_le i l
  omega

def RTakeC (w : World) (S : Nat → Prop) (rb : Nat) (l : List Item) (m : Msg) (e : Ending) (w' : World) : Prop :=
  ∃ cs : List Value, e = .returned (.tuple #[.agg cs.toArray, .int .i64 0]) ∧ cs.length = 16 ∧ (∃ sa sc ka cap, cs = msgCells m sa sc ka cap ∧ MsgIn w' (Fresh w w') m sa ka) ∧ ∃ S', RNetAt w' S' rb l ∧ Touched w w' S ∧ ∀ x, S' x → S x ∨ w.heap.size ≤ x

/-- What is laid back into the net, and the answer. -/
theorem rtake_end {w W2 wr : World} {S : Nat → Prop} {rb B : Nat} {its : List Item} {m : Msg} {lv hv v9 v10 : Value} {cs zs : List Value} (hS : ∀ x, S x → x < w.heap.size) (hrb : S rb) (hb : Below w.heap.size w W2) (hz : W2.heap[w.heap.size]? = some (.cells zs.toArray 40 (0, 0))) (hz16 : zs.length = 16)
    (hB : W2.heap[B]? = some (.cells cs.toArray 40 (0, 0))) (hwB : w.heap.size < B) (h16 : cs.length = 16) (hm : ∃ sa sc ka cap, cs = msgCells m sa sc ka cap ∧ MsgIn W2 (fun x => w.heap.size < x ∧ x < B) m sa ka)
    (h2 : W2.heap[rb]? = some (.cells #[lv, hv] 31 (0, 0))) (hi : TakeInv W2 wr (Inner S rb lv hv) its v9 v10) :
    (freeAt ((wr.setCell ⟨rb, 0, none⟩ v9).setCell ⟨rb, 1, none⟩ v10) (.pointer (some ⟨w.heap.size, 0, none⟩)) = true ∧ okAt ((wr.setCell ⟨rb, 0, none⟩ v9).setCell ⟨rb, 1, none⟩ v10) (.pointer (some ⟨B, 0, none⟩)) = true ∧ cellsAt ((wr.setCell ⟨rb, 0, none⟩ v9).setCell ⟨rb, 1, none⟩ v10) (.pointer (some ⟨B, 0, none⟩)) = cs.toArray) ∧
      (((wr.setCell ⟨rb, 0, none⟩ v9).setCell ⟨rb, 1, none⟩ v10).setCells w.heap.size 0 cs).heap[w.heap.size]? = some (.cells cs.toArray 40 (0, 0)) ∧
      RTakeC w S rb its m (.returned (.tuple #[.agg cs.toArray, .int .i64 0])) (((wr.setCell ⟨rb, 0, none⟩ v9).setCell ⟨rb, 1, none⟩ v10).setCells w.heap.size 0 cs) := by
  obtain ⟨hbr, ys, h9, h10, hr⟩ := hi
  have hrbw := hS rb hrb
  have hsz := hbr.size
  have hBW := lt_of_some hB
  have keep : ∀ x, x < W2.heap.size → x ≠ rb → ((wr.setCell ⟨rb, 0, none⟩ v9).setCell ⟨rb, 1, none⟩ v10).heap[x]? = W2.heap[x]? := fun x hx hn => by
    rw [Below.heap_setCell _ _ _ _ hn, Below.heap_setCell _ _ _ _ hn, hbr.block x hx]
  have hrow : ((wr.setCell ⟨rb, 0, none⟩ v9).setCell ⟨rb, 1, none⟩ v10).heap[rb]? = some (.cells #[v9, v10] 31 (0, 0)) := by
    have e1 := (hbr.block rb (by omega)).trans h2
    have e2 := heap_setCell_same wr rb 0 _ _ v9 e1
    have e3 := heap_setCell_same _ rb 1 _ _ v10 e2
    rw [e3]; rfl
  have hsz3 : ((wr.setCell ⟨rb, 0, none⟩ v9).setCell ⟨rb, 1, none⟩ v10).heap.size = wr.heap.size := by simp [World.setCell]
  have hz3 := (keep w.heap.size (by omega) (by omega)).trans hz
  have hB3 := (keep B hBW (by omega)).trans hB
  have hst := store_msg hz3 (by simpa using hz16) h16
  have hall : ∀ x, x ≠ rb → x ≠ w.heap.size → (((wr.setCell ⟨rb, 0, none⟩ v9).setCell ⟨rb, 1, none⟩ v10).setCells w.heap.size 0 cs).heap[x]? = wr.heap[x]? := fun x h1 h2 => by
    rw [hst.2.2.1 x h2, Below.heap_setCell _ _ _ _ h1, Below.heap_setCell _ _ _ _ h1]
  have b9 : ∀ g, v9.ownBlock = some g → W2.heap.size ≤ g ∧ g < wr.heap.size := fun g hg => owns_bounds h9 hg
  have b10 : ∀ g, v10.ownBlock = some g → W2.heap.size ≤ g ∧ g < wr.heap.size := fun g hg => owns_bounds h10 hg
  refine ⟨⟨freeAt_of hz3 (by simpa using hz16), msg_there hB3 h16⟩, hst.1, cs, rfl, h16, ?_, fun x => S x ∨ v9.ownBlock = some x ∨ v10.ownBlock = some x, ⟨?_, Or.inl hrb, v9, v10, ys, ?_, ?_, ?_, fun g hg => Or.inr (Or.inl hg), fun g hg => Or.inr (Or.inr hg), ?_⟩, ⟨?_, ?_, ?_, ?_, ?_⟩, ?_⟩
  · obtain ⟨sa, sc, ka, cap, e1, e2⟩ := hm
    refine ⟨sa, sc, ka, cap, e1, e2.kept fun x hx => ⟨⟨by omega, by rw [hst.2.1, hsz3]; omega⟩, ?_⟩⟩
    rw [hall x (by omega) (by omega), hbr.block x (by omega)]
  · intro x hx
    rw [hst.2.1, hsz3]
    rcases hx with hx | hx | hx
    · have := hS x hx; have := hb.size; omega
    · exact (b9 x hx).2
    · exact (b10 x hx).2
  · rw [hst.2.2.1 rb (by omega), hrow]
  · exact owns_low (owns_kept h9 fun g cur hg hgo => hall g (by have := b9 g hgo; omega) (by have := b9 g hgo; omega))
  · exact owns_low (owns_kept h10 fun g cur hg hgo => hall g (by have := b10 g hgo; omega) (by have := b10 g hgo; omega))
  · refine hr.kept fun x hx => ?_
    have hxw := hS x hx.1
    refine ⟨⟨Or.inl hx.1, hx.2.1, fun e => by have := b9 x e; have := hb.size; omega, fun e => by have := b10 x e; have := hb.size; omega⟩, ?_⟩
    rw [hall x hx.2.1 (by omega), hbr.block x (by have := hb.size; omega)]
  · exact (hst.2.2.2 0 (Nat.zero_le _)).os.trans (hbr.os.trans hb.os)
  · exact (hst.2.2.2 0 (Nat.zero_le _)).tape.trans (hbr.tape.trans hb.tape)
  · exact (hst.2.2.2 0 (Nat.zero_le _)).output.trans (hbr.output.trans hb.output)
  · rw [hst.2.1, hsz3]; have := hb.size; omega
  · intro x hx hn
    rw [hall x (fun e => hn (by rw [e]; exact hrb)) (by omega), hbr.block x (by have := hb.size; omega), hb.block x hx]
  · intro x hx
    rcases hx with hx | hx | hx
    · exact Or.inl hx
    · right; have := b9 x hx; have := hb.size; omega
    · right; have := b10 x hx; have := hb.size; omega

attribute [local go_sem ↓] loadM wpLoadM storeM wpStoreM
attribute [local go_sem] putAt_ptr
set_option maxRecDepth 100000 in
set_option maxHeartbeats 2000000 in
theorem rtake_no (w : World) (S : Nat → Prop) (rb : Nat) (l : List Item) (k : Int) (h : RNetAt w S rb l) (hk : k < 0 ∨ (l.length : Int) ≤ k) :
    Calls Try.prog 17 #[.pointer (some ⟨rb, 0, none⟩), .int .i64 k] w fun e w' => e = .returned (.tuple #[.agg #[.int .i8 0, .int .i64 0, .int .i64 0, .int .i64 0, .int .i64 0, .int .i64 0, .int .i64 0, .int .i64 0, .int .i64 0, .int .i64 0, .int .i64 0, .slice none 0 0, .int .i64 0, .int .i64 0, .string ⟨#[]⟩, .slice none 0 0], .int .i64 4]) ∧ Below w.heap.size w w' := by
  have hb0 : Below w.heap.size w (w.alloc (.cells #[.int .i8 0, .int .i64 0, .int .i64 0, .int .i64 0, .int .i64 0, .int .i64 0, .int .i64 0, .int .i64 0, .int .i64 0, .int .i64 0, .int .i64 0, .slice none 0 0, .int .i64 0, .int .i64 0, .string ⟨#[]⟩, .slice none 0 0] 40)) := (Below.refl _ _).alloc (Nat.le_refl _) _
  have hn0 := heap_alloc_new w (.cells #[.int .i8 0, .int .i64 0, .int .i64 0, .int .i64 0, .int .i64 0, .int .i64 0, .int .i64 0, .int .i64 0, .int .i64 0, .int .i64 0, .int .i64 0, .slice none 0 0, .int .i64 0, .int .i64 0, .string ⟨#[]⟩, .slice none 0 0] 40)
  have hlook := rlook_no (w.alloc (.cells #[.int .i8 0, .int .i64 0, .int .i64 0, .int .i64 0, .int .i64 0, .int .i64 0, .int .i64 0, .int .i64 0, .int .i64 0, .int .i64 0, .int .i64 0, .slice none 0 0, .int .i64 0, .int .i64 0, .string ⟨#[]⟩, .slice none 0 0] 40)) S rb l k (h.kept hb0.size (fun x hx => hb0.block x (h.1 x hx))) hk
  have f2 : isMsg (.agg #[.int .i8 0, .int .i64 0, .int .i64 0, .int .i64 0, .int .i64 0, .int .i64 0, .int .i64 0, .int .i64 0, .int .i64 0, .int .i64 0, .int .i64 0, .slice none 0 0, .int .i64 0, .int .i64 0, .string ⟨#[]⟩, .slice none 0 0]) = true := isMsg_agg (cs := (#[.int .i8 0, .int .i64 0, .int .i64 0, .int .i64 0, .int .i64 0, .int .i64 0, .int .i64 0, .int .i64 0, .int .i64 0, .int .i64 0, .int .i64 0, .slice none 0 0, .int .i64 0, .int .i64 0, .string ⟨#[]⟩, .slice none 0 0] : Array Value).toList) rfl (by simp [Value.oneCell'])
  have hs0 : (w.alloc (.cells #[.int .i8 0, .int .i64 0, .int .i64 0, .int .i64 0, .int .i64 0, .int .i64 0, .int .i64 0, .int .i64 0, .int .i64 0, .int .i64 0, .int .i64 0, .slice none 0 0, .int .i64 0, .int .i64 0, .string ⟨#[]⟩, .slice none 0 0] 40)).heap.size = w.heap.size + 1 := by simp
  have hmid : ∀ (w1 : World) (cs : List Value), cs = #[.int .i8 0, .int .i64 0, .int .i64 0, .int .i64 0, .int .i64 0, .int .i64 0, .int .i64 0, .int .i64 0, .int .i64 0, .int .i64 0, .int .i64 0, .slice none 0 0, .int .i64 0, .int .i64 0, .string ⟨#[]⟩, .slice none 0 0].toList → Below (w.alloc (.cells #[.int .i8 0, .int .i64 0, .int .i64 0, .int .i64 0, .int .i64 0, .int .i64 0, .int .i64 0, .int .i64 0, .int .i64 0, .int .i64 0, .int .i64 0, .slice none 0 0, .int .i64 0, .int .i64 0, .string ⟨#[]⟩, .slice none 0 0] 40)).heap.size (w.alloc (.cells #[.int .i8 0, .int .i64 0, .int .i64 0, .int .i64 0, .int .i64 0, .int .i64 0, .int .i64 0, .int .i64 0, .int .i64 0, .int .i64 0, .int .i64 0, .slice none 0 0, .int .i64 0, .int .i64 0, .string ⟨#[]⟩, .slice none 0 0] 40)) w1 → freeAt (w1.alloc (.cells #[.int .i8 0, .int .i64 0, .int .i64 0, .int .i64 0, .int .i64 0, .int .i64 0, .int .i64 0, .int .i64 0, .int .i64 0, .int .i64 0, .int .i64 0, .slice none 0 0, .int .i64 0, .int .i64 0, .string ⟨#[]⟩, .slice none 0 0] 40)) (.pointer (some ⟨w1.heap.size, 0, none⟩)) = true ∧ freeAt ((w1.alloc (.cells #[.int .i8 0, .int .i64 0, .int .i64 0, .int .i64 0, .int .i64 0, .int .i64 0, .int .i64 0, .int .i64 0, .int .i64 0, .int .i64 0, .int .i64 0, .slice none 0 0, .int .i64 0, .int .i64 0, .string ⟨#[]⟩, .slice none 0 0] 40)).setCells w1.heap.size 0 cs) (.pointer (some ⟨w.heap.size, 0, none⟩)) = true ∧ (okAt ((w1.alloc (.cells #[.int .i8 0, .int .i64 0, .int .i64 0, .int .i64 0, .int .i64 0, .int .i64 0, .int .i64 0, .int .i64 0, .int .i64 0, .int .i64 0, .int .i64 0, .slice none 0 0, .int .i64 0, .int .i64 0, .string ⟨#[]⟩, .slice none 0 0] 40)).setCells w1.heap.size 0 cs) (.pointer (some ⟨w1.heap.size, 0, none⟩)) = true ∧ cellsAt ((w1.alloc (.cells #[.int .i8 0, .int .i64 0, .int .i64 0, .int .i64 0, .int .i64 0, .int .i64 0, .int .i64 0, .int .i64 0, .int .i64 0, .int .i64 0, .int .i64 0, .slice none 0 0, .int .i64 0, .int .i64 0, .string ⟨#[]⟩, .slice none 0 0] 40)).setCells w1.heap.size 0 cs) (.pointer (some ⟨w1.heap.size, 0, none⟩)) = cs.toArray) ∧ (((w1.alloc (.cells #[.int .i8 0, .int .i64 0, .int .i64 0, .int .i64 0, .int .i64 0, .int .i64 0, .int .i64 0, .int .i64 0, .int .i64 0, .int .i64 0, .int .i64 0, .slice none 0 0, .int .i64 0, .int .i64 0, .string ⟨#[]⟩, .slice none 0 0] 40)).setCells w1.heap.size 0 cs).setCells w.heap.size 0 cs).heap[w.heap.size]? = some (.cells cs.toArray 40 (0, 0)) ∧ Below w.heap.size w (((w1.alloc (.cells #[.int .i8 0, .int .i64 0, .int .i64 0, .int .i64 0, .int .i64 0, .int .i64 0, .int .i64 0, .int .i64 0, .int .i64 0, .int .i64 0, .int .i64 0, .slice none 0 0, .int .i64 0, .int .i64 0, .string ⟨#[]⟩, .slice none 0 0] 40)).setCells w1.heap.size 0 cs).setCells w.heap.size 0 cs) := fun w1 cs hcs hb => by
    have h16 : cs.length = 16 := by rw [hcs]; rfl
    have hbs := hb.size
    have hz1 := (hb.block w.heap.size (by omega)).trans hn0
    have hz2 := (Below.heap_alloc w1 (.cells #[.int .i8 0, .int .i64 0, .int .i64 0, .int .i64 0, .int .i64 0, .int .i64 0, .int .i64 0, .int .i64 0, .int .i64 0, .int .i64 0, .int .i64 0, .slice none 0 0, .int .i64 0, .int .i64 0, .string ⟨#[]⟩, .slice none 0 0] 40) w.heap.size (lt_of_some hz1)).trans hz1
    have hnew := heap_alloc_new w1 (.cells #[.int .i8 0, .int .i64 0, .int .i64 0, .int .i64 0, .int .i64 0, .int .i64 0, .int .i64 0, .int .i64 0, .int .i64 0, .int .i64 0, .int .i64 0, .slice none 0 0, .int .i64 0, .int .i64 0, .string ⟨#[]⟩, .slice none 0 0] 40)
    have hst := store_msg hnew rfl h16
    have hbw1 : Below w.heap.size w w1 := hb0.trans (hb.mono hb0.size)
    have hz3 := (hst.2.2.1 w.heap.size (by omega)).trans hz2
    have hst3 := store_msg hz3 rfl h16
    exact ⟨freeAt_of hnew rfl, freeAt_of hz3 rfl, msg_there hst.1 h16, hst3.1, (((hbw1.alloc hbw1.size _).trans (hst.2.2.2 _ (by omega))).trans (hst3.2.2.2 _ (Nat.le_refl _)))⟩
  have HL := Lib.hid hlook
  have HM := Lib.hid hmid
  clear h hk hlook hmid hb0 hn0 hs0
  go_enter Try.func17, Try.ntmps17
  go_wp2_with (go_at_call 23; refine HL.out.mono ?_; rintro e w1 ⟨rfl, hb⟩; obtain ⟨f1, f3, ⟨f4, f5⟩, hq⟩ := HM.out w1 _ rfl hb; have HQ := Lib.hid hq; clear hq hb)
  have hE := HQ.out
  generalize World.setCells _ w.heap.size _ _ = W5 at hE ⊢
  refine bodyPost_ret (results_cell_row2 rfl _ _ w.heap.size 40 _ (0, 0) _ rfl hE.1 Try.underlying40 rfl (by kernel_rfl)) rfl ?_
  exact ⟨rfl, hE.2⟩

set_option maxRecDepth 100000 in
set_option maxHeartbeats 4000000 in
theorem rtake_yes (w : World) (S : Nat → Prop) (rb : Nat) (l : List Item) (k : Nat) (p : Item) (h : RNetAt w S rb l) (hk : l[k]? = some p) (hm : p.1.small) (hlen : l.length ≤ 1000000) :
    Calls Try.prog 17 #[.pointer (some ⟨rb, 0, none⟩), .int .i64 k] w (RTakeC w S rb (l.eraseIdx k) p.1) := by
  have hb0 : Below w.heap.size w (w.alloc (.cells #[.int .i8 0, .int .i64 0, .int .i64 0, .int .i64 0, .int .i64 0, .int .i64 0, .int .i64 0, .int .i64 0, .int .i64 0, .int .i64 0, .int .i64 0, .slice none 0 0, .int .i64 0, .int .i64 0, .string ⟨#[]⟩, .slice none 0 0] 40)) := (Below.refl _ _).alloc (Nat.le_refl _) _
  have hn0 := heap_alloc_new w (.cells #[.int .i8 0, .int .i64 0, .int .i64 0, .int .i64 0, .int .i64 0, .int .i64 0, .int .i64 0, .int .i64 0, .int .i64 0, .int .i64 0, .int .i64 0, .slice none 0 0, .int .i64 0, .int .i64 0, .string ⟨#[]⟩, .slice none 0 0] 40)
  have hs0 : (w.alloc (.cells #[.int .i8 0, .int .i64 0, .int .i64 0, .int .i64 0, .int .i64 0, .int .i64 0, .int .i64 0, .int .i64 0, .int .i64 0, .int .i64 0, .int .i64 0, .slice none 0 0, .int .i64 0, .int .i64 0, .string ⟨#[]⟩, .slice none 0 0] 40)).heap.size = w.heap.size + 1 := by simp
  have hlook := rlook_yes (w.alloc (.cells #[.int .i8 0, .int .i64 0, .int .i64 0, .int .i64 0, .int .i64 0, .int .i64 0, .int .i64 0, .int .i64 0, .int .i64 0, .int .i64 0, .int .i64 0, .slice none 0 0, .int .i64 0, .int .i64 0, .string ⟨#[]⟩, .slice none 0 0] 40)) S rb l k p (h.kept hb0.size (fun x hx => hb0.block x (h.1 x hx))) hk hm hlen
  have hkl := (List.getElem?_eq_some_iff.1 hk).1
  obtain ⟨h0, h1, lv, hv, xs, h2, h3, h4, h5, h6, h7⟩ := h
  obtain ⟨g, lc, rfl, _⟩ := h3.form (by omega)
  obtain ⟨gh, hc, rfl, _⟩ := h4.form (by omega)
  have hgl := (owns_bounds h3 (g := g) rfl).2
  have hghl := (owns_bounds h4 (g := gh) rfl).2
  have hrl : rb < w.heap.size := h0 rb h1
  obtain ⟨len, hln⟩ : ∃ len, len = l.length := ⟨_, rfl⟩
  obtain ⟨X, hX⟩ : ∃ X, X = Inner S rb (.slice (some ⟨g, 0, none⟩) l.length lc) (.slice (some ⟨gh, 0, none⟩) l.length hc) := ⟨_, rfl⟩
  have hget : ∀ (W2 : World), Below w.heap.size w W2 → ∀ i, i < len → ∃ (q : Item) (sa : Option Addr) (sc : Nat) (ka : Option Addr) (cap : Nat) (c0 c1 c2 c3 c4 c5 c6 c7 c8 c9 c10 c11 c12 c13 c14 c15 : Value), l[i]? = some q ∧ MsgIn W2 X q.1 sa ka ∧ msgCells q.1 sa sc ka cap = [c0, c1, c2, c3, c4, c5, c6, c7, c8, c9, c10, c11, c12, c13, c14, c15] ∧ ∀ V, Below W2.heap.size W2 V → (V.cell? ⟨rb, 0, none⟩ = some (.slice (some ⟨g, 0, none⟩) len lc) ∧ V.cell? ⟨rb, 1, none⟩ = some (.slice (some ⟨gh, 0, none⟩) len hc) ∧ V.cell? ⟨gh, i, none⟩ = some (.bool q.2) ∧ okAt V (.pointer (some ⟨g, i * 16, none⟩)) = true ∧ cellsAt V (.pointer (some ⟨g, i * 16, none⟩)) = #[c0, c1, c2, c3, c4, c5, c6, c7, c8, c9, c10, c11, c12, c13, c14, c15]) := fun W2 hb2 i hi => by
    obtain ⟨q, hq⟩ : ∃ q, l[i]? = some q := ⟨l[i]'(by omega), List.getElem?_eq_getElem _⟩
    obtain ⟨sa, sc, ka, cap, hcells, hin⟩ := MsgRow.at i q.1 h7 (by rw [List.getElem?_map, hq]; rfl)
    rw [← hX] at hin
    refine ⟨q, sa, sc, ka, cap, _, _, _, _, _, _, _, _, _, _, _, _, _, _, _, _, hq, hin.kept fun x hx => ⟨hx, hb2.block x (h0 x (by rw [hX] at hx; exact hx.1))⟩, rfl, fun V hV => ?_⟩
    have hbV : Below w.heap.size w V := hb2.trans (hV.mono hb2.size)
    have hmt : MsgThere w g (i * 16) (msgCells q.1 sa sc ka cap) := by
      obtain ⟨cur, hcur⟩ : ∃ cur, w.heap[g]? = some (.cells cur 40 (0, 0)) := by
        rcases h3.2 with ⟨hv, _⟩ | ⟨g', cap', cur, hv, _, hh, _⟩
        · cases hv
        · cases hv; exact ⟨cur, hh⟩
      refine there_msg hcur rfl fun j u hj => ?_
      have h8 := owns_cell h3 rfl _ u (hcells j u hj)
      rw [cell_of_row w _ _ _ _ _ hcur] at h8
      exact h8
    have hmV := hmt.same (hbV.block g hgl)
    refine ⟨(World.cell?_of_block (hbV.block rb hrl)).trans (by rw [cell_of_row w _ 0 _ _ _ h2, hln]; rfl), (World.cell?_of_block (hbV.block rb hrl)).trans (by rw [cell_of_row w _ 1 _ _ _ h2, hln]; rfl), (World.cell?_of_block (hbV.block gh hghl)).trans (by rw [h4.cellAt i (by omega)]; simp [marks, hq]), hmV.1, hmV.2⟩
  have hfin : ∀ W2 : World, Below w.heap.size w W2 → ∀ V, Below W2.heap.size W2 V → (V.cell? ⟨rb, 0, none⟩ = some (.slice (some ⟨g, 0, none⟩) len lc) ∧ V.cell? ⟨rb, 1, none⟩ = some (.slice (some ⟨gh, 0, none⟩) len hc) ∧ V.frozen? ⟨rb, 0, none⟩ = false ∧ V.frozen? ⟨rb, 1, none⟩ = false) := fun W2 hb2 V hV => by
    have hbV : Below w.heap.size w V := hb2.trans (hV.mono hb2.size)
    have h2V := (hbV.block rb hrl).trans h2
    exact ⟨by rw [cell_of_row V _ 0 _ _ _ h2V, hln]; rfl, by rw [cell_of_row V _ 1 _ _ _ h2V, hln]; rfl, frozen_of_row _ _ 0 _ _ h2V, frozen_of_row _ _ 1 _ _ h2V⟩
  have hmid : ∀ (w1 : World) (cs : List Value), cs.length = 16 → (∃ sa sc ka cap, cs = msgCells p.1 sa sc ka cap ∧ MsgIn w1 (Fresh (w.alloc (.cells #[.int .i8 0, .int .i64 0, .int .i64 0, .int .i64 0, .int .i64 0, .int .i64 0, .int .i64 0, .int .i64 0, .int .i64 0, .int .i64 0, .int .i64 0, .slice none 0 0, .int .i64 0, .int .i64 0, .string ⟨#[]⟩, .slice none 0 0] 40)) w1) p.1 sa ka) → Below (w.alloc (.cells #[.int .i8 0, .int .i64 0, .int .i64 0, .int .i64 0, .int .i64 0, .int .i64 0, .int .i64 0, .int .i64 0, .int .i64 0, .int .i64 0, .int .i64 0, .slice none 0 0, .int .i64 0, .int .i64 0, .string ⟨#[]⟩, .slice none 0 0] 40)).heap.size (w.alloc (.cells #[.int .i8 0, .int .i64 0, .int .i64 0, .int .i64 0, .int .i64 0, .int .i64 0, .int .i64 0, .int .i64 0, .int .i64 0, .int .i64 0, .int .i64 0, .slice none 0 0, .int .i64 0, .int .i64 0, .string ⟨#[]⟩, .slice none 0 0] 40)) w1 →
      freeAt (w1.alloc (.cells #[.int .i8 0, .int .i64 0, .int .i64 0, .int .i64 0, .int .i64 0, .int .i64 0, .int .i64 0, .int .i64 0, .int .i64 0, .int .i64 0, .int .i64 0, .slice none 0 0, .int .i64 0, .int .i64 0, .string ⟨#[]⟩, .slice none 0 0] 40)) (.pointer (some ⟨w1.heap.size, 0, none⟩)) = true ∧ isMsg (.agg cs.toArray) = true ∧ (okAt ((w1.alloc (.cells #[.int .i8 0, .int .i64 0, .int .i64 0, .int .i64 0, .int .i64 0, .int .i64 0, .int .i64 0, .int .i64 0, .int .i64 0, .int .i64 0, .int .i64 0, .slice none 0 0, .int .i64 0, .int .i64 0, .string ⟨#[]⟩, .slice none 0 0] 40)).setCells w1.heap.size 0 cs) (.pointer (some ⟨w1.heap.size, 0, none⟩)) = true ∧ cellsAt ((w1.alloc (.cells #[.int .i8 0, .int .i64 0, .int .i64 0, .int .i64 0, .int .i64 0, .int .i64 0, .int .i64 0, .int .i64 0, .int .i64 0, .int .i64 0, .int .i64 0, .slice none 0 0, .int .i64 0, .int .i64 0, .string ⟨#[]⟩, .slice none 0 0] 40)).setCells w1.heap.size 0 cs) (.pointer (some ⟨w1.heap.size, 0, none⟩)) = cs.toArray) ∧
      Below w.heap.size w ((w1.alloc (.cells #[.int .i8 0, .int .i64 0, .int .i64 0, .int .i64 0, .int .i64 0, .int .i64 0, .int .i64 0, .int .i64 0, .int .i64 0, .int .i64 0, .int .i64 0, .slice none 0 0, .int .i64 0, .int .i64 0, .string ⟨#[]⟩, .slice none 0 0] 40)).setCells w1.heap.size 0 cs) ∧ ∀ wr v9 v10, TakeInv ((w1.alloc (.cells #[.int .i8 0, .int .i64 0, .int .i64 0, .int .i64 0, .int .i64 0, .int .i64 0, .int .i64 0, .int .i64 0, .int .i64 0, .int .i64 0, .int .i64 0, .slice none 0 0, .int .i64 0, .int .i64 0, .string ⟨#[]⟩, .slice none 0 0] 40)).setCells w1.heap.size 0 cs) wr X (l.eraseIdx k) v9 v10 → (freeAt ((wr.setCell ⟨rb, 0, none⟩ v9).setCell ⟨rb, 1, none⟩ v10) (.pointer (some ⟨w.heap.size, 0, none⟩)) = true ∧ okAt ((wr.setCell ⟨rb, 0, none⟩ v9).setCell ⟨rb, 1, none⟩ v10) (.pointer (some ⟨w1.heap.size, 0, none⟩)) = true ∧ cellsAt ((wr.setCell ⟨rb, 0, none⟩ v9).setCell ⟨rb, 1, none⟩ v10) (.pointer (some ⟨w1.heap.size, 0, none⟩)) = cs.toArray) ∧
      (((wr.setCell ⟨rb, 0, none⟩ v9).setCell ⟨rb, 1, none⟩ v10).setCells w.heap.size 0 cs).heap[w.heap.size]? = some (.cells cs.toArray 40 (0, 0)) ∧
      RTakeC w S rb (l.eraseIdx k) p.1 (.returned (.tuple #[.agg cs.toArray, .int .i64 0])) (((wr.setCell ⟨rb, 0, none⟩ v9).setCell ⟨rb, 1, none⟩ v10).setCells w.heap.size 0 cs) := fun w1 cs h16 hmi hb => by
    obtain ⟨g1, g2, g3, g4, g5, g6, g7⟩ := look_laid h16 hmi hb
    have hbs := hb.size
    have hb1 : Below w.heap.size w ((w1.alloc (.cells #[.int .i8 0, .int .i64 0, .int .i64 0, .int .i64 0, .int .i64 0, .int .i64 0, .int .i64 0, .int .i64 0, .int .i64 0, .int .i64 0, .int .i64 0, .slice none 0 0, .int .i64 0, .int .i64 0, .string ⟨#[]⟩, .slice none 0 0] 40)).setCells w1.heap.size 0 cs) := hb0.trans (g4.mono hb0.size)
    refine ⟨g1, g2, g3, hb1, fun wr v9 v10 hi => ?_⟩
    rw [hX] at hi
    refine rtake_end (zs := #[.int .i8 0, .int .i64 0, .int .i64 0, .int .i64 0, .int .i64 0, .int .i64 0, .int .i64 0, .int .i64 0, .int .i64 0, .int .i64 0, .int .i64 0, .slice none 0 0, .int .i64 0, .int .i64 0, .string ⟨#[]⟩, .slice none 0 0].toList) h0 h1 hb1 ((g4.block w.heap.size (by omega)).trans hn0) rfl g7 (by omega) h16 ?_ ((hb1.block rb hrl).trans h2) hi
    obtain ⟨sa, sc, ka, cap, e1, e2⟩ := hmi
    have hst := store_msg (heap_alloc_new w1 (.cells #[.int .i8 0, .int .i64 0, .int .i64 0, .int .i64 0, .int .i64 0, .int .i64 0, .int .i64 0, .int .i64 0, .int .i64 0, .int .i64 0, .int .i64 0, .slice none 0 0, .int .i64 0, .int .i64 0, .string ⟨#[]⟩, .slice none 0 0] 40)) rfl h16
    refine ⟨sa, sc, ka, cap, e1, e2.kept fun x hx => ⟨⟨by have := hx.1; omega, hx.2⟩, ?_⟩⟩
    rw [hst.2.2.1 x (by have := hx.2; omega)]
    exact Below.heap_alloc w1 _ x hx.2
  obtain ⟨pm, pk⟩ := p
  have HL := Lib.hid hlook
  have HM := Lib.hid hmid
  have HG := Lib.hid (And.intro hget hfin)
  have HLN := Lib.hid hln
  rw [← hln] at hkl hlen
  obtain ⟨i0, z0, hi0, hz0, hz1, hz2, hz3⟩ := info_wide Try.infoM
  have HI := Lib.hid (And.intro hi0 (And.intro hz0 (And.intro hz1 (And.intro hz2 hz3))))
  obtain ⟨j0, y0, hj0, hy0, hy1, hy2, hy3⟩ := info_wide Try.infoB
  have HJ := Lib.hid (And.intro hj0 (And.intro hy0 (And.intro hy1 (And.intro hy2 hy3))))
  clear h0 h1 h2 h3 h4 h5 h6 h7 hk hm hgl hghl hrl hget hfin hmid hlook hn0 hs0 hb0 hX hln hi0 hz0 hz1 hz2 hz3 hj0 hy0 hy1 hy2 hy3
  go_enter Try.func17, Try.ntmps17
  go_wp2_with (go_at_call 23; refine HL.out.mono ?_; rintro e w1 ⟨cs, rfl, h16, hmi, hb⟩; obtain ⟨f1, f2, ⟨f4, f5⟩, hq⟩ := HM.out w1 cs h16 hmi hb; have HQ := Lib.hid hq; clear hq hb hmi)
  clear f1 f4 f5 HM HL
  generalize World.setCells _ _ _ _ = W2 at HQ ⊢
  generalize w1.heap.size = B at HQ ⊢
  go_loopw [9, 10, 11] (fun x y vi wr => ∃ (i n : Nat) (v9 v10 : Value), v9 = x ∧ v10 = y ∧ i ≤ len ∧ n ≤ i ∧ vi = .int .i64 i ∧ Hid (n = ((l.take i).eraseIdx k).length ∧ TakeInv W2 wr X ((l.take i).eraseIdx k) v9 v10)) (fun _ _ vi _ => len - (intOf vi).toNat)
  case atStart => exact ⟨0, 0, _, _, rfl, rfl, by omega, by omega, rfl, Lib.hid ⟨by simp, Below.refl _ _, [], by simpa using World.ownsRow_nil _ _ _ _, by simpa [marks] using World.ownsRow_nil _ _ _ _, by simp [MsgRow]⟩⟩
  case round =>
    obtain ⟨i, n, v9, v10, rfl, rfl, hi, hn, rfl, hh⟩ := hrel
    obtain ⟨wo, rfl⟩ : ∃ wo, wo = wr := ⟨_, rfl⟩
    by_cases hlt : i < len
    · have hji : (i : Int) < (len : Int) := by omega
      have hin0 : (0 : Int) ≤ (i : Int) := by omega
      by_cases hik : i = k
      · subst hik
        have c0 := (HG.out.2 W2 HQ.out.1 wo hh.out.2.1).1
        go_wp2_with fail
        exact ⟨⟨i + 1, n, v9, v10, rfl, rfl, by omega, by omega, by go_num, Lib.hid (by rw [cut_same]; exact hh.out)⟩, by simp [intOf]; omega⟩
      · have hne : ¬ (i : Int) = (k : Int) := by omega
        obtain ⟨q, sa, sc, ka, cap, c0, c1, c2, c3, c4, c5, c6, c7, c8, c9, c10, c11, c12, c13, c14, c15, hq, hmi, hcs, hV⟩ := HG.out.1 W2 HQ.out.1 i hlt
        obtain ⟨qm, qk⟩ := q
        obtain ⟨a0, a1, a2, a3, a4⟩ := hV wo hh.out.2.1
        obtain ⟨ys, h9, h10, hr⟩ := hh.out.2.2
        have hmore := cut_more hq hik
        have hone : ∀ u ∈ [c0, c1, c2, c3, c4, c5, c6, c7, c8, c9, c10, c11, c12, c13, c14, c15], u.oneCell' = true := by rw [← hcs]; exact msgCells_one qm sa sc ka cap
        have hmidd := fun (v9' : Value) (w4 : World) (hown : w4.ownsRow W2.heap.size 40 16 v9' (n + 1) (ys ++ [c0, c1, c2, c3, c4, c5, c6, c7, c8, c9, c10, c11, c12, c13, c14, c15])) hg => take_mid (w4 := w4) (v9' := v9') (o := .cells #[c0, c1, c2, c3, c4, c5, c6, c7, c8, c9, c10, c11, c12, c13, c14, c15] 40) hh.out.2.1 h9 h10 hr hmi (by rw [hcs, ← hh.out.1]; exact hown) hg
        have hmm := fun (v9' v10' : Value) (w4 w5 : World) (hmd : TakeMid W2 w4 X ((l.take i).eraseIdx k) qm v9' v10) (hown : w5.ownsRow W2.heap.size 4 1 v10' (n + 1) (marks ((l.take i).eraseIdx k) ++ [.bool qk])) hg => take_more (p := (qm, qk)) (o := .cells #[.bool qk] 4) hmd (by rw [← hh.out.1]; exact hown) hg
        have hsz := hh.out.2.1.size
        rw [← hh.out.1] at h9 h10
        have H9 := Lib.hid (And.intro h9 (And.intro hone (And.intro hmidd (And.intro hmm (And.intro hV (And.intro hsz hmore))))))
        have HN := Lib.hid hh.out.1
        clear h9 h10 hr hmi hcs hone hmidd hmm hV hq hh hsz hmore hik
        go_wp2_with (first
          | (at_builtin; refine wpList_append_own_at _ rfl (.tmp 35) (.tmp 43) _ rfl W2.heap.size 40 i0 z0 16 168 Try.underlying28 HI.out.1 HI.out.2.1 HI.out.2.2.1 HI.out.2.2.2.1 HI.out.2.2.2.2 (by omega) v9 n ys rfl (H9.out.1.alloc _) ⟨wo.heap.size, 0, none⟩ 1 1 [c0, c1, c2, c3, c4, c5, c6, c7, c8, c9, c10, c11, c12, c13, c14, c15] rfl rfl (World.news_of_block (cs := #[c0, c1, c2, c3, c4, c5, c6, c7, c8, c9, c10, c11, c12, c13, c14, c15]) (t := 40) (fr := (0, 0)) (heap_alloc_new wo _)) H9.out.2.1 (by unfold maxLen; omega) (by omega) (by have := H9.out.2.2.2.2.2.1; simp; omega) ?_; intro v9' w4 hown hgrow _ hat; have hmd := H9.out.2.2.1 v9' w4 hown hgrow; obtain ⟨b0, b1, b2, b3, b4⟩ := H9.out.2.2.2.2.1 w4 hmd.1; have HD := Lib.hid hmd; clear hown hgrow hat hmd)
          | (at_builtin; refine wpList_append_own_at _ rfl (.tmp 45) (.tmp 53) _ rfl W2.heap.size 4 j0 y0 1 1 Try.underlying29 HJ.out.1 HJ.out.2.1 HJ.out.2.2.1 HJ.out.2.2.2.1 HJ.out.2.2.2.2 (by omega) v10 n (marks ((l.take i).eraseIdx k)) rfl (by have := HD.out.2.choose_spec.2.1; rw [← HN.out] at this; exact this.alloc _) ⟨w4.heap.size, 0, none⟩ 1 1 [.bool qk] rfl rfl (World.news_of_block (cs := #[.bool qk]) (t := 4) (fr := (0, 0)) (heap_alloc_new w4 _)) (by simp [Value.oneCell']) (by unfold maxLen; omega) (by omega) (by have := HD.out.1.size; simp; omega) ?_; intro v10' w5 hown hgrow _ hat; have hfi := H9.out.2.2.2.1 v9' v10' w4 w5 HD.out hown hgrow; have HF := Lib.hid hfi; clear hown hgrow hat hfi))
        exact ⟨⟨i + 1, n + 1, v9', v10', rfl, rfl, by omega, by omega, by go_num, Lib.hid ⟨by rw [H9.out.2.2.2.2.2.2, List.length_append, ← HN.out]; rfl, by rw [H9.out.2.2.2.2.2.2]; exact HF.out⟩⟩, by simp [intOf]; omega⟩
    · have hji : ¬ (i : Int) < (len : Int) := by omega
      have hil : i = len := by omega
      subst hil
      obtain ⟨c0, c1, c2, c3⟩ := HG.out.2 W2 HQ.out.1 wo hh.out.2.1
      have hti : l.take i = l := List.take_of_length_le (by have := HLN.out; omega)
      have hlast := hh.out.2
      rw [hti] at hlast
      obtain ⟨_, ys, h9, h10, _⟩ := id hlast
      obtain ⟨xa, xc, rfl⟩ := owns_slice h9
      obtain ⟨ya, yc, rfl⟩ := owns_slice h10
      clear h9 h10
      generalize (l.eraseIdx k).length = ln at hlast ⊢
      obtain ⟨⟨f1, f3, f4⟩, hq⟩ := HQ.out.2 wo _ _ hlast
      have HE := Lib.hid hq
      clear hh hti hlast hq hlt
      go_wp2_with fail
      have hE := HE.out
      generalize World.setCells _ _ _ _ = W5 at hE ⊢
      refine bodyPost_ret (results_cell_row2 rfl _ _ w.heap.size 40 _ (0, 0) _ rfl hE.1 Try.underlying40 rfl (by rw [List.size_toArray, h16]; kernel_rfl)) rfl ?_
      exact hE.2

end Go.Proofs.Ytklpafognbodhaa
namespace Go.Proofs.Ytklpafognbodhaa
open Go.RowKit

def rstays (addr : Int) (l : List Item) : List Item := l.filter fun p => !decide (p.1.to = addr)
theorem rstays_hit {addr : Int} {p : Item} {l : List Item} (h : p.1.to = addr) : rstays addr (p :: l) = rstays addr l := by simp [rstays, h]
theorem rstays_miss {addr : Int} {p : Item} {l : List Item} (h : ¬ p.1.to = addr) : rstays addr (p :: l) = p :: rstays addr l := by simp [rstays, h]
theorem rstays_le {addr : Int} {l : List Item} : (rstays addr l).length ≤ l.length := List.length_filter_le _ _
/-- The net since w: it may lie in more blocks, all of them new. -/
def RGone (w wr : World) (S : Nat → Prop) (rb : Nat) (l : List Item) : Prop := ∃ S', RNetAt wr S' rb l ∧ Touched w wr S ∧ ∀ x, S' x → S x ∨ w.heap.size ≤ x
theorem RGone.take {w wr w2 : World} {S : Nat → Prop} {rb : Nat} {l' : List Item} {m : Msg} {e : Ending} {S' : Nat → Prop} (ht : Touched w wr S) (hS : ∀ x, S' x → S x ∨ w.heap.size ≤ x) (h : RTakeC wr S' rb l' m e w2) : RGone w w2 S rb l' := by
  obtain ⟨_, _, _, _, S2, h1, h2, h3⟩ := h
  refine ⟨S2, h1, ht.trans h2 hS, fun x hx => ?_⟩
  rcases h3 x hx with h | h
  · exact hS x h
  · exact Or.inr (Nat.le_trans ht.size h)

attribute [local go_sem ↓] loadM wpLoadM storeM wpStoreM
attribute [local go_sem] putAt_ptr
set_option maxRecDepth 100000 in
set_option maxHeartbeats 2000000 in
theorem rclear_any (w : World) (S : Nat → Prop) (rb : Nat) (l : List Item) (addr : Int) (h : RNetAt w S rb l) (hm : ∀ p ∈ l, p.1.small) (hlen : l.length ≤ 1000000) :
    Calls Try.prog 27 #[.pointer (some ⟨rb, 0, none⟩), .int .i64 addr] w (NetC w S rb (rstays addr l) (.int .i64 ((l.length : Int) - (rstays addr l).length))) := by
  obtain ⟨len, hln⟩ : ∃ len, len = l.length := ⟨_, rfl⟩
  have H0 := Lib.hid (And.intro h (And.intro hm hln))
  rw [← hln] at hlen ⊢
  clear h hm hln
  go_enter Try.func27, Try.ntmps27
  go_wp2_with fail
  go_loopw [5, 6] (fun kv iv wr => ∃ (a r : List Item) (n i k : Nat), kv = .int .i64 k ∧ iv = .int .i64 i ∧ i ≤ n ∧ k + n = len ∧ Hid (i = a.length ∧ n = (a ++ r).length ∧ rstays addr l = a ++ rstays addr r ∧ (∀ p ∈ r, p.1.small) ∧ RGone w wr S rb (a ++ r))) (fun kv iv _ => len - (intOf kv).toNat - (intOf iv).toNat)
  case atStart => exact ⟨[], l, len, 0, 0, rfl, rfl, by omega, by omega, Lib.hid ⟨rfl, H0.out.2.2, rfl, H0.out.2.1, S, H0.out.1, Touched.refl _ _, fun x hx => Or.inl hx⟩⟩
  case round =>
    obtain ⟨a, r, n, i, k, rfl, rfl, hin, hkn, hh⟩ := hrel
    obtain ⟨wo, rfl⟩ : ∃ wo, wo = wr := ⟨_, rfl⟩
    cases r with
    | nil =>
      have hni : n = i := by have h1 := hh.out.1; have h2 := hh.out.2.1; rw [List.append_nil] at h2; omega
      subst hni
      have hji : ¬ (n : Int) < (n : Int) := by omega
      have hc0 : ∃ la lc, wo.cell? ⟨rb, 0, none⟩ = some (.slice la n lc) := by
        obtain ⟨S', ⟨_, _, lv, hv, xs, h2, h3, _⟩, _⟩ := hh.out.2.2.2.2
        obtain ⟨la, lc, rfl⟩ := owns_slice h3
        exact ⟨la, lc, by rw [cell_of_row wo _ 0 _ _ _ h2, hh.out.2.1]; rfl⟩
      obtain ⟨la, lc, c0⟩ := hc0
      have hres : ((k : Nat) : Int) = (len : Int) - (rstays addr l).length := by
        have h1 := hh.out.2.2.1
        have h2 := hh.out.1
        rw [h1]; simp [rstays]; omega
      have hend : NetC w S rb (rstays addr l) (.int .i64 ((len : Int) - (rstays addr l).length)) (.returned (.int .i64 (k : Nat))) wo := by
        rw [← hres]
        obtain ⟨S', h1, h2, h3⟩ := hh.out.2.2.2.2
        refine ⟨rfl, S', ?_, h2, h3⟩
        have h4 := hh.out.2.2.1
        rw [h4]; simpa [rstays] using h1
      have HE := Lib.hid hend
      clear hh hend hres
      go_wp2_with fail
      go_ret
      exact HE.out
    | cons p r =>
      have hlt : i < n := by have h1 := hh.out.1; have h2 := hh.out.2.1; rw [List.length_append, List.length_cons] at h2; omega
      have hji : (i : Int) < (n : Int) := by omega
      have hi0 : (0 : Int) ≤ (i : Int) := by omega
      have hfa : ∃ g lc, wo.cell? ⟨rb, 0, none⟩ = some (.slice (some ⟨g, 0, none⟩) n lc) ∧ wo.cell? ⟨g, i * 16 + 2, none⟩ = some (.int .i64 p.1.to) := by
        obtain ⟨S', ⟨_, _, lv, hv, xs, h2, h3, _, _, _, h7⟩, _⟩ := hh.out.2.2.2.2
        obtain ⟨g, lc, rfl, _⟩ := h3.form (by rw [← hh.out.2.1]; omega)
        obtain ⟨sa, sc, ka, cap, hcells, _⟩ := MsgRow.at i p.1 h7 (by rw [List.getElem?_map, List.getElem?_append_right (by rw [hh.out.1]; omega), hh.out.1]; simp)
        exact ⟨g, lc, by rw [cell_of_row wo _ 0 _ _ _ h2, hh.out.2.1]; rfl, owns_cell h3 rfl _ _ (hcells 2 _ rfl)⟩
      obtain ⟨g, lc, c0, c1⟩ := hfa
      obtain ⟨t, ht⟩ : ∃ t, t = p.1.to := ⟨_, rfl⟩
      rw [← ht] at c1
      by_cases hto : t = addr
      · have htk : Calls Try.prog 17 #[.pointer (some ⟨rb, 0, none⟩), .int .i64 i] wo fun e w2 => ∃ cs : List Value, e = .returned (.tuple #[.agg cs.toArray, .int .i64 0]) ∧ RGone w w2 S rb (a ++ r) := by
          obtain ⟨S', h1, h2, h3⟩ := hh.out.2.2.2.2
          refine (rtake_yes wo S' rb _ i p h1 (by rw [hh.out.1, List.getElem?_append_right (Nat.le_refl _)]; simp) (hh.out.2.2.2.1 p List.mem_cons_self) (by rw [← hh.out.2.1]; omega)).mono fun e w2 hc => ?_
          have e1 : (a ++ p :: r).eraseIdx i = a ++ r := by rw [hh.out.1, List.eraseIdx_append_of_length_le (Nat.le_refl _)]; simp
          rw [e1] at hc
          obtain ⟨cs, he, h5, h6, h7⟩ := id hc
          exact ⟨cs, he, RGone.take h2 h3 hc⟩
        have HT := Lib.hid htk
        have HF := Lib.hid (And.intro hh.out.1 (And.intro hh.out.2.1 (And.intro hh.out.2.2.1 (And.intro hh.out.2.2.2.1 ht))))
        clear htk hh ht
        subst hto
        go_wp2_with (go_at_call 17; refine HT.out.mono ?_; clear HT; rintro e w2 ⟨cs, rfl, hg⟩; have HG := Lib.hid hg; clear hg)
        exact ⟨⟨a, r, n - 1, i, k + 1, by go_num, rfl, by omega, by omega, Lib.hid ⟨HF.out.1, by rw [HF.out.2.1, List.length_append, List.length_append, List.length_cons]; omega, by rw [HF.out.2.2.1, rstays_hit HF.out.2.2.2.2.symm], fun q hq => HF.out.2.2.2.1 q (List.mem_cons_of_mem _ hq), HG.out⟩⟩, by simp [intOf]; omega⟩
      · have HF := Lib.hid (And.intro hh.out.1 (And.intro hh.out.2.1 (And.intro hh.out.2.2.1 (And.intro hh.out.2.2.2.1 (And.intro ht hh.out.2.2.2.2)))))
        clear hh ht
        go_wp2_with fail
        have HTO := Lib.hid hto
        exact ⟨⟨a ++ [p], r, n, i + 1, k, rfl, by go_num, by omega, by omega, Lib.hid ⟨by rw [List.length_append, HF.out.1]; rfl, by rw [HF.out.2.1, List.append_assoc]; rfl, by rw [HF.out.2.2.1, rstays_miss (by rw [← HF.out.2.2.2.2.1]; exact HTO.out), List.append_assoc]; rfl, fun q hq => HF.out.2.2.2.1 q (List.mem_cons_of_mem _ hq), by rw [List.append_assoc]; exact HF.out.2.2.2.2.2⟩⟩, by simp [intOf]; omega⟩

end Go.Proofs.Ytklpafognbodhaa
