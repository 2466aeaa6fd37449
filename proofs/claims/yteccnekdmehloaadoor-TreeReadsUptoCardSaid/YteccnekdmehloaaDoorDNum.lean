/-
  The document's reader of layer 3 in memory, and its New, fails and Number. No condition.
  The document's Number and Small. No condition.
-/
import Derived.Test.YteccnekdmehloaaDoorCBackR
import Derived.Laws.BitsAllLaws
namespace Go.Proofs.YteccnekdmehloaaDoor
open Go.RowKit
open Extern.Stop (cell)

/-- Block rb is a document's reader over the bytes of the slice at a; m: its field Nodes. -/
structure RfAt (w : World) (rb : Nat) (a : Option Addr) (cap : Nat) (s : Rd) (m : Int) : Prop where
  here : ∃ at_ : Int, w.heap[rb]? = some (.cells #[.slice a s.data.length cap, .int .i64 at_, .int .i64 (if s.bad then (s.pos : Int) else -1), .int .i64 m] 83 (0, 0)) ∧ (s.bad = false → at_ = s.pos)
  byt : ByAt w a s.data
  apart : 0 < s.data.length → ∀ ad, a = some ad → ad.block ≠ rb
  fits : s.pos ≤ s.data.length
  few : s.data.length ≤ 100000000
  room : s.data.length ≤ cap ∧ (cap : Int) ≤ 9223372036854775807
theorem ByAt.still {w w' : World} {a : Option Addr} {bs : List UInt8} (h : ByAt w a bs) (hk : ∀ ad, a = some ad → w'.heap[ad.block]? = w.heap[ad.block]?) : ByAt w' a bs :=
  ⟨h.1, fun ad e j u hj => (World.cell?_of_block (a := ad.add j) (by rw [add_blockC]; exact hk ad e)).trans (h.2 ad e j u hj)⟩
theorem ByAt.lt {w : World} {ad : Addr} {bs : List UInt8} (h : ByAt w (some ad) bs) (hb : 0 < bs.length) : ad.block < w.heap.size := by
  have := World.block_lt_of_cell? w _ (h.2 ad rfl 0 bs[0] (List.getElem?_eq_getElem hb))
  rw [add_blockC] at this
  exact this
theorem RfAt.kept {w w' : World} {rb : Nat} {a : Option Addr} {cap : Nat} {s : Rd} {m : Int} (h : RfAt w rb a cap s m) {S : Nat → Prop} (ht : Touched w w' S) (h1 : ¬ S rb) (h2 : 0 < s.data.length → ∀ ad, a = some ad → ad.block < w.heap.size → ¬ S ad.block) : RfAt w' rb a cap s m := by
  obtain ⟨at_, hh, he⟩ := h.here
  refine ⟨⟨at_, (ht.block rb (lt_of_heap hh) h1).trans hh, he⟩, ?_, h.apart, h.fits, h.few, h.room⟩
  by_cases h0 : 0 < s.data.length
  · exact h.byt.still fun ad e => by subst e; exact ht.block _ (h.byt.lt h0) (h2 h0 ad rfl (h.byt.lt h0))
  · have : s.data = [] := List.eq_nil_of_length_eq_zero (by omega)
    rw [this]
    exact ⟨fun _ => rfl, fun ad e j u hj => by simp at hj⟩
theorem RfAt.drewN {w : World} {rb : Nat} {a : Option Addr} {cap : Nat} {s : Rd} {m : Int} (h : RfAt w rb a cap s m) (k : Nat) : RfAt (w.drewN k) rb a cap s m :=
  h.kept (S := fun _ => False) ⟨rfl, rfl, rfl, Nat.le_refl _, fun _ _ _ => rfl⟩ id (fun _ _ _ _ => id)
theorem RfAt.alloc {w : World} {rb : Nat} {a : Option Addr} {cap : Nat} {s : Rd} {m : Int} (h : RfAt w rb a cap s m) (o : Obj) : RfAt (w.alloc o) rb a cap s m :=
  h.kept (S := fun _ => False) ((Touched.refl w _).alloc o) id (fun _ _ _ _ => id)
theorem RfAt.cells {w : World} {rb : Nat} {a : Option Addr} {cap : Nat} {s : Rd} {m : Int} (h : RfAt w rb a cap s m) : w.cell? ⟨rb, 0, none⟩ = some (.slice a s.data.length cap) ∧ w.cell? ⟨rb, 2, none⟩ = some (.int .i64 (if s.bad then (s.pos : Int) else -1)) ∧ w.cell? ⟨rb, 3, none⟩ = some (.int .i64 m) ∧ (∀ j, w.frozen? ⟨rb, j, none⟩ = false) ∧ ∃ at_ : Int, w.cell? ⟨rb, 1, none⟩ = some (.int .i64 at_) ∧ (s.bad = false → at_ = s.pos) := by
  obtain ⟨at_, hh, he⟩ := h.here
  exact ⟨by rw [cell_of_row w _ 0 _ _ _ hh]; rfl, by rw [cell_of_row w _ 2 _ _ _ hh]; rfl, by rw [cell_of_row w _ 3 _ _ _ hh]; rfl, fun j => frozen_of_row w rb j _ _ hh, at_, by rw [cell_of_row w _ 1 _ _ _ hh]; rfl, he⟩
/-- A reader that has not failed. -/
theorem RfAt.good {w : World} {rb : Nat} {a : Option Addr} {cap : Nat} {s : Rd} {m : Int} (h : RfAt w rb a cap s m) (hb : s.bad = false) : w.cell? ⟨rb, 0, none⟩ = some (.slice a s.data.length cap) ∧ w.cell? ⟨rb, 1, none⟩ = some (.int .i64 (s.pos : Int)) ∧ w.cell? ⟨rb, 2, none⟩ = some (.int .i64 (-1)) ∧ w.cell? ⟨rb, 3, none⟩ = some (.int .i64 m) ∧ ∀ j, w.frozen? ⟨rb, j, none⟩ = false := by
  obtain ⟨c0, c2, c3, f, at_, c1, he⟩ := h.cells
  rw [hb] at c2
  rw [he hb] at c1
  exact ⟨c0, c1, c2, c3, f⟩
/-- One that has. -/
theorem RfAt.failed {w : World} {rb : Nat} {a : Option Addr} {cap : Nat} {s : Rd} {m : Int} (h : RfAt w rb a cap s m) (hb : s.bad = true) : w.cell? ⟨rb, 2, none⟩ = some (.int .i64 (s.pos : Int)) := by
  obtain ⟨c0, c2, c3, f, at_, c1, he⟩ := h.cells
  rw [hb] at c2
  exact c2
theorem RfAt.cell {w : World} {rb : Nat} {ad : Addr} {cap : Nat} {s : Rd} {m : Int} (h : RfAt w rb (some ad) cap s m) (j : Nat) (u : UInt8) (hj : s.data[j]? = some u) : w.cell? (ad.add j) = some (.int .u8 (u.toNat : Int)) := h.byt.2 ad rfl j u hj
theorem RfAt.bytSet {w : World} {rb : Nat} {a : Option Addr} {cap : Nat} {s : Rd} {m : Int} (h : RfAt w rb a cap s m) (j : Nat) (v : Value) : ByAt (w.setCell ⟨rb, j, none⟩ v) a s.data := by
  by_cases h0 : 0 < s.data.length
  · exact h.byt.still fun ad e => Below.heap_setCell _ _ _ _ (h.apart h0 ad e)
  · have : s.data = [] := List.eq_nil_of_length_eq_zero (by omega)
    rw [this]
    exact ⟨fun _ => rfl, fun ad e j u hj => by simp at hj⟩
theorem RfAt.move {w : World} {rb : Nat} {a : Option Addr} {cap : Nat} {s : Rd} {m : Int} (h : RfAt w rb a cap s m) (hb : s.bad = false) (p : Nat) (hp : p ≤ s.data.length) : RfAt (w.setCell ⟨rb, 1, none⟩ (.int .i64 (p : Int))) rb a cap { s with pos := p } m := by
  obtain ⟨at_, hh, he⟩ := h.here
  rw [hb] at hh
  refine ⟨⟨p, ?_, fun _ => rfl⟩, h.bytSet _ _, h.apart, hp, h.few, h.room⟩
  rw [heap_setCell_same w rb 1 _ _ _ hh]
  show some (Obj.cells _ _ _) = some (Obj.cells #[_, _, .int .i64 (if s.bad = true then _ else _), _] _ _)
  rw [hb]; rfl
theorem RfAt.fall {w : World} {rb : Nat} {a : Option Addr} {cap : Nat} {s : Rd} {m : Int} (h : RfAt w rb a cap s m) (p : Nat) (hp : p ≤ s.data.length) : RfAt (w.setCell ⟨rb, 2, none⟩ (.int .i64 (p : Int))) rb a cap { s with pos := p, bad := true } m := by
  obtain ⟨at_, hh, he⟩ := h.here
  refine ⟨⟨at_, ?_, fun e => by cases e⟩, h.bytSet _ _, h.apart, hp, h.few, h.room⟩
  rw [heap_setCell_same w rb 2 _ _ _ hh]
  rfl
theorem RfAt.nodes {w : World} {rb : Nat} {a : Option Addr} {cap : Nat} {s : Rd} {m : Int} (h : RfAt w rb a cap s m) (m' : Int) : RfAt (w.setCell ⟨rb, 3, none⟩ (.int .i64 m')) rb a cap s m' := by
  obtain ⟨at_, hh, he⟩ := h.here
  refine ⟨⟨at_, ?_, he⟩, h.bytSet _ _, h.apart, h.fits, h.few, h.room⟩
  rw [heap_setCell_same w rb 3 _ _ _ hh]
  rfl
/-- What fails does to a reader that has not failed. -/
def FailC (w : World) (rb : Nat) (a : Option Addr) (cap : Nat) (s : Rd) (m : Int) (p : Nat) (w' : World) : Prop := RfAt w' rb a cap { s with pos := p, bad := true } m ∧ Touched w w' (fun k => k = rb)
set_option maxHeartbeats 400000 in
theorem fails_any (w : World) (rb : Nat) (a : Option Addr) (cap : Nat) (s : Rd) (m : Int) (p : Nat) (h : RfAt w rb a cap s m) (hb : s.bad = false) (hp : p ≤ s.data.length) :
    Calls Tryd.prog 65 #[.pointer (some ⟨rb, 0, none⟩), .int .i64 (p : Int)] w fun e w' => e = .returned (.tuple #[]) ∧ FailC w rb a cap s m p w' := by
  obtain ⟨c0, c1, c2, c3, f⟩ := h.good hb
  have HE := Lib.hid (And.intro (h.fall p hp) (Touched.setCell (w := w) (S := fun k => k = rb) (a := ⟨rb, 2, none⟩) rfl (.int .i64 (p : Int))))
  clear h hb
  go_enter Tryd.func65, Tryd.ntmps65
  go_wp2_with fail
  go_end0
  exact ⟨rfl, HE.out⟩

/-- What a call of a document's reader answers: v, and how the reader stands then. -/
def RefR {α : Type} (z : Value) (V : α → Value → World → Prop) (w : World) (rb : Nat) (a : Option Addr) (cap : Nat) (s : Rd) (m : Int) (o : Got α) (v : Value) (w' : World) : Prop :=
  Touched w w' (fun k => k = rb) ∧ if s.bad = true then v = z ∧ RfAt w' rb a cap s m else match o with
    | .ok (x, q) => V x v w' ∧ RfAt w' rb a cap { s with pos := q } m
    | .error p => v = z ∧ RfAt w' rb a cap { s with pos := p, bad := true } m
def RefCC {α : Type} (z : Value) (V : α → Value → World → Prop) (w : World) (rb : Nat) (a : Option Addr) (cap : Nat) (s : Rd) (m : Int) (o : Got α) (e : Ending) (w' : World) : Prop := ∃ v, e = .returned v ∧ RefR z V w rb a cap s m o v w'
section
variable {α : Type} {z : Value} {V : α → Value → World → Prop} {w w' : World} {rb : Nat} {a : Option Addr} {cap : Nat} {s : Rd} {m : Int} {o : Got α} {v : Value}
theorem RefR.sticky (hb : s.bad = true) (ht : Touched w w' (fun k => k = rb)) (h : RfAt w' rb a cap s m) (hv : v = z) : RefR z V w rb a cap s m o v w' := ⟨ht, by rw [if_pos hb]; exact ⟨hv, h⟩⟩
theorem RefR.okay {x : α} {q : Nat} (hb : s.bad = false) (ho : o = .ok (x, q)) (ht : Touched w w' (fun k => k = rb)) (hV : V x v w') (h : RfAt w' rb a cap { s with pos := q } m) : RefR z V w rb a cap s m o v w' := ⟨ht, by rw [if_neg (by rw [hb]; decide), ho]; exact ⟨hV, h⟩⟩
theorem RefR.wrong {p : Nat} (hb : s.bad = false) (ho : o = .error p) (ht : Touched w w' (fun k => k = rb)) (hv : v = z) (h : RfAt w' rb a cap { s with pos := p, bad := true } m) : RefR z V w rb a cap s m o v w' := ⟨ht, by rw [if_neg (by rw [hb]; decide), ho]; exact ⟨hv, h⟩⟩
theorem RefR.bad (h : RefR z V w rb a cap s m o v w') (hb : s.bad = true) : v = z ∧ RfAt w' rb a cap s m := by have := h.2; rw [if_pos hb] at this; exact this
theorem RefR.ok (h : RefR z V w rb a cap s m o v w') (hb : s.bad = false) {x : α} {q : Nat} (ho : o = .ok (x, q)) : V x v w' ∧ RfAt w' rb a cap { s with pos := q } m := by have := h.2; rw [if_neg (by rw [hb]; decide), ho] at this; exact this
theorem RefR.err (h : RefR z V w rb a cap s m o v w') (hb : s.bad = false) {p : Nat} (ho : o = .error p) : v = z ∧ RfAt w' rb a cap { s with pos := p, bad := true } m := by have := h.2; rw [if_neg (by rw [hb]; decide), ho] at this; exact this
end
end Go.Proofs.YteccnekdmehloaaDoor
namespace Go.Proofs.YteccnekdmehloaaDoor
open Go.RowKit
open Extern.Stop (cell)

theorem u64_step (x : Nat) (u : UInt8) (hx : x < 72057594037927936) : bits .or .u64 (IntKind.u64.wrap ((x : Int) * 256)) (IntKind.u64.wrap (u.toNat : Int)) = ((x * 256 + u.toNat : Nat) : Int) := by
  have hu : u.toNat < 256 := u.toNat_lt
  have e1 : IntKind.u64.wrap ((x : Int) * 256) = ((x * 256 : Nat) : Int) := by
    rw [IntKind.wrap_u64]; omega
  have e2 : IntKind.u64.wrap (u.toNat : Int) = (u.toNat : Int) := by
    rw [IntKind.wrap_u64]; omega
  rw [e1, e2, u64_or_nat _ _ (by omega) (by omega), or_byte]
theorem valN_take (l : List UInt8) (k : Nat) (u : UInt8) (h : l[k]? = some u) : valN (l.take (k + 1)) = valN (l.take k) * 256 + u.toNat := by
  rw [List.take_add_one, h]; exact valN_snoc _ _
theorem valN_few (l : List UInt8) (k : Nat) (h : k < 8) : valN (l.take k) < 72057594037927936 := by
  have h1 := valN_lt (l.take k) 7 (by simp; omega)
  exact h1
def DNumRel (w : World) (rb : Nat) (a : Option Addr) (cap : Nat) (s : Rd) (m : Int) (bs : List UInt8) (x i : Value) (wr : World) : Prop := ∃ k : Nat, k ≤ 8 ∧ x = .int .u64 (valN (bs.take k) : Int) ∧ i = .int .i64 (k : Int) ∧ RfAt wr rb a cap s m ∧ Touched w wr (fun k => k = rb)
theorem drewN_touched (w : World) (q : Nat) (S : Nat → Prop) : Touched w (w.drewN q) S := ⟨rfl, rfl, rfl, Nat.le_refl _, fun _ _ _ => rfl⟩
set_option maxRecDepth 100000 in
set_option maxHeartbeats 1000000 in
theorem dNumber (w : World) (rb : Nat) (a : Option Addr) (cap : Nat) (s : Rd) (m : Int) (h : RfAt w rb a cap s m) :
    Calls Tryd.prog 66 #[.pointer (some ⟨rb, 0, none⟩)] w (RefCC (.int .i64 0) IntV w rb a cap s m (pNum s.data s.pos)) := by
  by_cases hb : s.bad = true
  · have c2 := h.failed hb
    have HE := Lib.hid (RefR.sticky (z := .int .i64 0) (V := IntV) (o := pNum s.data s.pos) hb (Touched.refl w _) h rfl)
    have hp : 0 ≤ (s.pos : Int) := by omega
    clear h hb
    go_enter Tryd.func66, Tryd.ntmps66
    go_wp2_with fail
    go_ret
    exact ⟨_, rfl, HE.out⟩
  · have hb : s.bad = false := by simpa using hb
    obtain ⟨c0, c1, c2, c3, f⟩ := h.good hb
    have hfew := h.few
    have hfits := h.fits
    by_cases h8 : s.pos + 8 ≤ s.data.length
    · have ho : pNum s.data s.pos = .ok (numOf ((s.data.drop s.pos).take 8), s.pos + 8) := if_pos h8
      have hd : decide ((s.data.length : Int) - (s.pos : Int) < 8) = false := by simp; omega
      have hw1 : IntKind.i64.wrap ((s.data.length : Int) - (s.pos : Int)) = (s.data.length : Int) - (s.pos : Int) := by rw [IntKind.wrap_i64]; omega
      have H := Lib.hid (And.intro h (And.intro hb ho))
      clear h hb ho
      go_enter Tryd.func66, Tryd.ntmps66
      go_wp2_with (go_quiet (fail))
      obtain ⟨bs, hbs⟩ : ∃ bs, bs = (s.data.drop s.pos).take 8 := ⟨_, rfl⟩
      have HBS := Lib.hid (And.intro hbs (show bs.length = 8 by rw [hbs]; simp; omega))
      clear hbs hd hw1 c0 c1 c2 c3 f
      go_loopw [3, 4] (fun x i wr => DNumRel w rb a cap s m bs x i wr) (fun _ i _ => 8 - (intOf i).toNat)
      case atStart => exact ⟨0, Nat.zero_le _, rfl, rfl, H.out.1.drewN _, drewN_touched w _ _⟩
      case round =>
        obtain ⟨k, hk, rfl, rfl, hr, ht⟩ := hrel
        obtain ⟨c0, c1, c2, c3, f⟩ := hr.good H.out.2.1
        have HR := Lib.hid (And.intro hr ht)
        by_cases hlt : k < 8
        · obtain ⟨u, hu⟩ : ∃ u, s.data[s.pos + k]? = some u := ⟨s.data[s.pos + k]'(by omega), List.getElem?_eq_getElem _⟩
          have hub : bs[k]? = some u := by rw [HBS.out.1, List.getElem?_take, if_pos hlt, List.getElem?_drop, hu]
          cases a with
          | none => have := hr.byt.1 rfl; rw [this] at h8; simp at h8
          | some ad =>
            have hcell := hr.cell (s.pos + k) u hu
            have hw2 : IntKind.i64.wrap ((s.pos : Int) + (k : Int)) = ((s.pos + k : Nat) : Int) := by rw [IntKind.wrap_i64]; omega
            have h0 : 0 ≤ ((s.pos + k : Nat) : Int) := by omega
            have h1 : ((s.pos + k : Nat) : Int) < (s.data.length : Int) := by omega
            have h2 : ((s.pos + k : Nat) : Int).toNat = s.pos + k := by omega
            have HU := Lib.hid (And.intro hu hub)
            clear hr ht hu hub
            go_wp2_with (go_quiet (fail))
            refine ⟨⟨k + 1, by omega, ?_, by congr 1, HR.out.1.drewN _, HR.out.2.trans (drewN_touched wr _ _) (fun k hk => Or.inl hk)⟩, by simp [intOf]; omega⟩
            rw [u64_step _ _ (valN_few bs k hlt), valN_take bs k u HU.out.2]
        · have hk8 : k = 8 := by omega
          subst hk8
          obtain ⟨j, hj⟩ : ∃ j : Nat, j = s.pos + 8 := ⟨_, rfl⟩
          have hp8 : (s.pos : Int) + 8 = (j : Int) := by omega
          have hpl : (j : Int) ≤ 100000000 := by omega
          have hv := numOf_val (bs.take 8) (by simp; omega)
          have hwr : IntKind.i64.wrap (valN (bs.take 8) : Int) = numOf bs := by rw [← hv, List.take_of_length_le (by rw [HBS.out.2]; exact Nat.le_refl _)]
          have HE := Lib.hid (And.intro (hr.move H.out.2.1 j (by omega)) (Touched.setCell (w := wr) (S := fun k => k = rb) (a := ⟨rb, 1, none⟩) rfl (.int .i64 (j : Int))))
          have HJ := Lib.hid hj
          clear hr ht hv hj
          go_wp2_with fail
          go_ret
          exact ⟨_, rfl, RefR.okay H.out.2.1 H.out.2.2 (HR.out.2.trans HE.out.2 (fun k hk => Or.inl hk)) (by rw [← HBS.out.1]; rfl) (by rw [← HJ.out]; exact HE.out.1)⟩
    · have ho : pNum s.data s.pos = .error s.data.length := if_neg h8
      have hd : decide ((s.data.length : Int) - (s.pos : Int) < 8) = true := by simp; omega
      have hw1 : IntKind.i64.wrap ((s.data.length : Int) - (s.pos : Int)) = (s.data.length : Int) - (s.pos : Int) := by rw [IntKind.wrap_i64]; omega
      have HF := Lib.hid (fun (q : Nat) => fails_any (w.drewN q) rb a cap s m s.data.length (h.drewN q) hb (Nat.le_refl _))
      have H := Lib.hid (And.intro hb ho)
      clear h hb ho
      go_enter Tryd.func66, Tryd.ntmps66
      go_wp2_with (first
        | (go_at_call 65; refine (HF.out _).mono ?_; rintro e w1 ⟨rfl, h1, h2⟩; have H1 := Lib.hid (And.intro h1 h2); clear h1 h2)
        | go_quiet (fail))
      go_ret
      exact ⟨_, rfl, RefR.wrong H.out.1 H.out.2 ((drewN_touched w _ _).trans H1.out.2 (fun k hk => Or.inl hk)) rfl H1.out.1⟩
end Go.Proofs.YteccnekdmehloaaDoor
