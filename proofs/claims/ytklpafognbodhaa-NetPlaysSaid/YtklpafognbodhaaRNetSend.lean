/-
  The document's own net: its call Send. No condition but that it lies where it is said to lie.
-/
import Derived.Test.YtklpafognbodhaaRNetFirst
import Derived.Deep.RegionLaw
namespace Go.Proofs.Ytklpafognbodhaa
open Go.RowKit

def isAddr (n : Int) : Bool := decide (0 ≤ n ∧ n ≤ 8)
set_option maxHeartbeats 400000 in
theorem address_any (w : World) (n : Int) (b : Bool) (hb : isAddr n = b) : Calls Try.prog 40 #[.int .i64 n] w fun e w' => e = .returned (.bool b) ∧ w = w' := by
  by_cases h0 : 0 ≤ n
  · by_cases h1 : n ≤ 8
    · have hbb : b = true := by rw [← hb]; simp [isAddr, h0, h1]
      subst hbb
      clear hb
      go_enter Try.func40, Try.ntmps40
      go_wp2_with fail
      go_ret
      exact ⟨rfl, rfl⟩
    · have hbb : b = false := by rw [← hb]; simp [isAddr, h1]
      subst hbb
      clear hb
      go_enter Try.func40, Try.ntmps40
      go_wp2_with fail
      go_ret
      exact ⟨rfl, rfl⟩
  · have hbb : b = false := by rw [← hb]; simp [isAddr, h0]
    subst hbb
    clear hb
    go_enter Try.func40, Try.ntmps40
    go_wp2_with fail
    go_ret
    exact ⟨rfl, rfl⟩

def sendE (l : List Item) (m : Msg) : Int := if isAddr m.frm && isAddr m.to then (if 1024 ≤ l.length then 20 else 0) else 2
def sendL (l : List Item) (m : Msg) : List Item := if isAddr m.frm && isAddr m.to then (if 1024 ≤ l.length then l else l ++ [(m, false)]) else l
/-- What a call leaves of the net: it may lie in more blocks, all of them new. -/
def NetC (w : World) (S : Nat → Prop) (rb : Nat) (l : List Item) (E : Value) (e : Ending) (w' : World) : Prop := e = .returned E ∧ ∃ S', RNetAt w' S' rb l ∧ Touched w w' S ∧ ∀ x, S' x → S x ∨ w.heap.size ≤ x
theorem NetC.same {w w' : World} {S : Nat → Prop} {rb : Nat} {l : List Item} {E : Value} (h : RNetAt w S rb l) (hb : Below w.heap.size w w') : NetC w S rb l E (.returned E) w' :=
  ⟨rfl, S, h.kept hb.size (fun x hx => hb.block x (h.1 x hx)), Below.touched hb S, fun _ hx => Or.inl hx⟩

set_option maxRecDepth 100000 in
set_option maxHeartbeats 1000000 in
theorem rsend_no (w : World) (S U : Nat → Prop) (rb : Nat) (l : List Item) (v : Value) (m : Msg) (h : RNetAt w S rb l) (hv : MsgAt w U v m) (hlen : l.length ≤ 1000000) (hno : (isAddr m.frm && isAddr m.to) = false ∨ 1024 ≤ l.length) :
    Calls Try.prog 16 #[.pointer (some ⟨rb, 0, none⟩), v] w (NetC w S rb l (.int .i64 (if isAddr m.frm && isAddr m.to then 20 else 2))) := by
  obtain ⟨sa, sc, ka, cap, rfl, _, _⟩ := hv
  obtain ⟨sl, hsl⟩ : ∃ y, y = m.steps.length := ⟨_, rfl⟩
  obtain ⟨tl, htl⟩ : ∃ y, y = foLen m.tree.kids := ⟨_, rfl⟩
  rw [← hsl, ← htl]
  have hb : Below w.heap.size w (w.alloc (.cells #[.int .i8 m.kind, .int .i64 m.frm, .int .i64 m.to, .int .i64 m.boot, .int .i64 m.server, .int .i64 m.number, .int .i64 m.node, .int .i64 m.lease, .int .i64 m.epoch, .int .i64 m.version, .int .i64 m.e, .slice sa sl sc, .int .i64 m.tree.id, .int .i64 m.tree.kind, .string m.tree.text, .slice ka tl cap] 40)) := (Below.refl _ _).alloc (Nat.le_refl _) _
  have HR := Lib.hid (And.intro h hb)
  obtain ⟨h0, h1, lv, hv, xs, h2, h3, _⟩ := h
  obtain ⟨la, lc, rfl⟩ := owns_slice h3
  have hlt : rb < w.heap.size := lt_of_some h2
  have c0 : w.cell? ⟨rb, 0, none⟩ = some (.slice la l.length lc) := by rw [cell_of_row w _ 0 _ _ _ h2]; rfl
  obtain ⟨len, hl⟩ : ∃ len, len = l.length := ⟨_, rfl⟩
  rw [← hl] at c0 hno hlen
  have a1 := fun W => address_any W m.frm _ rfl
  have a2 := fun W => address_any W m.to _ rfl
  obtain ⟨b1, hb1⟩ : ∃ b, b = isAddr m.frm := ⟨_, rfl⟩
  obtain ⟨b2, hb2⟩ : ∃ b, b = isAddr m.to := ⟨_, rfl⟩
  rw [← hb1] at a1
  rw [← hb2] at a2
  rw [← hb1, ← hb2] at hno
  rw [← hb1, ← hb2]
  have A1 := Lib.hid a1
  have A2 := Lib.hid a2
  clear hsl htl hb h0 h1 h2 h3 hl a1 a2 hb1 hb2
  cases b1
  · clear hno
    go_enter Try.func16, Try.ntmps16
    go_wp2_with fail
    refine (A1.out _).mono ?_
    rintro e w' ⟨rfl, rfl⟩
    go_wp2_with fail
    go_ret
    exact NetC.same HR.out.1 HR.out.2
  · cases b2
    · clear hno
      go_enter Try.func16, Try.ntmps16
      go_wp2_with fail
      refine (A1.out _).mono ?_
      rintro e w' ⟨rfl, rfl⟩
      go_wp2_with fail
      refine (A2.out _).mono ?_
      rintro e w' ⟨rfl, rfl⟩
      go_wp2_with fail
      go_ret
      exact NetC.same HR.out.1 HR.out.2
    · have hfull : 1024 ≤ len := by simpa using hno
      have hfull2 : (1024 : Int) ≤ (len : Int) := by omega
      clear hno
      go_enter Try.func16, Try.ntmps16
      go_wp2_with fail
      refine (A1.out _).mono ?_
      rintro e w' ⟨rfl, rfl⟩
      go_wp2_with fail
      refine (A2.out _).mono ?_
      rintro e w' ⟨rfl, rfl⟩
      go_wp2_with fail
      go_ret
      exact NetC.same HR.out.1 HR.out.2

end Go.Proofs.Ytklpafognbodhaa
