/-
  The document's own Open. No condition but that the bytes lie where they are said to lie, and are not too many.
-/
import Derived.Test.YtpceledeeplhlaaSWakes
namespace Go.Proofs.Ytpceledeeplhlaa
open Go.RowKit
open Extern.Stop (cell)

theorem drew_below (W : World) : Below W.heap.size W W.drew := ⟨rfl, rfl, rfl, Nat.le_refl _, fun _ _ => rfl⟩
theorem ByAt.conv {w : World} {a : Option Addr} {bs : List UInt8} (h : ByAt w a bs) (n : Nat) (hn : n = bs.length) (cap : Nat) : (convert 22 9 (.slice a n cap)).run Try.prog w = .ok (.string ⟨bs.toArray⟩) w := by
  subst hn
  exact h.text cap
theorem below_drew {w w2 : World} {v : Value} {bs : List UInt8} (h : OwnB w.drew.heap.size v bs w.drew w2) : Below w.heap.size w w2 := (drew_below w).trans h.below
theorem wpList_take {P : Program} {ops : Array Oper} {rest : List Oper} {o : Oper} {a : Act} {Q : Exit → Act → World → Prop} {w : World} (hgd : o.guard = none) (sl x : Operand) (t : TypeId)
    (ho : o.op = .call { callee := .builtin .append, args := #[sl, x], argTypes := #[t, t] })
    (i : TypeInfo) (ht : P.underlying t = some (.slice 5)) (hi : P.info? 5 = some i) (hz : i.zero = some (.int .u8 0)) (hsize : i.size = 1) (hby : i.bytes = 1)
    (hs : a.eval sl = .slice none 0 0) (ad : Addr) (c m : Nat) (bs : List UInt8) (hm : m = bs.length) (hx : a.eval x = .slice (some ad) m c) (hc : ByAt w (some ad) bs) (hlen : m ≤ 140737488355328)
    (h : ∀ v' w', OwnS w.heap.size v' (0 + bs.length) ([] ++ bs.map cell) w w' → wpList P ops Q rest (a.put o.dst v') w') : wpList P ops Q (o :: rest) a w := by
  subst hm
  exact wpList_bytes hgd sl x t ho w.heap.size i ht hi hz hsize hby _ 0 [] hs w (OwnS.empty w) ad c bs hx hc.cells (by omega) h
theorem ref_no {w X w2 : World} {bs : List UInt8} {m : Nat} {v : Value} (hm : bs.length = m + 4) (hok : false = (sealN (bs.take m) == bs)) (hX : Below w.heap.size w X) (h : OwnB X.heap.size v (sealN (bs.take m)) X w2) : OpenC w bs (.returned (.tuple #[.slice none 0 0, .bool false])) w2 := by
  have e : okN bs = false := by unfold okN; rw [show bs.length - 4 = m by omega, ← hok]
  have e2 : openN bs = [] := by unfold openN; rw [e]; rfl
  exact ⟨none, 0, by rw [e2, e]; rfl, by rw [e2]; exact ByAt.nil _ _, hX.trans (h.below.mono hX.size)⟩
theorem ref_yes {w X w2 w3 : World} {bs : List UInt8} {m : Nat} {v v3 : Value} (hm : bs.length = m + 4) (hok : true = (sealN (bs.take m) == bs)) (hX : Below w.heap.size w X) (h : OwnB X.heap.size v (sealN (bs.take m)) X w2) (h3 : OwnS w2.heap.size v3 (0 + (bs.take m).length) ([] ++ (bs.take m).map cell) w2 w3) : OpenC w bs (.returned (.tuple #[v3, .bool true])) w3 := by
  have e : okN bs = true := by unfold okN; rw [show bs.length - 4 = m by omega, ← hok]
  have e2 : openN bs = bs.take m := by unfold openN; rw [e, show bs.length - 4 = m by omega]; rfl
  rw [Nat.zero_add, List.nil_append] at h3
  obtain ⟨a, c, e3, h4, _⟩ := OwnB.byAt h3
  have h5 := hX.trans (h.below.mono hX.size)
  exact ⟨a, c, by rw [e2, e, e3], by rw [e2]; exact h4, h5.trans (h3.2.1.mono h5.size)⟩
set_option maxRecDepth 100000 in
set_option maxHeartbeats 1000000 in
theorem refOpen_any (w : World) (a : Option Addr) (cap : Nat) (bs : List UInt8) (h : ByAt w a bs) (hl : bs.length ≤ 1000000000) (hc : bs.length ≤ cap) :
    Calls Try.prog 13 #[.slice a bs.length cap] w (OpenC w bs) := by
  by_cases h4 : bs.length < 4
  · have ho := okN_short h4
    have HO := Lib.hid ho
    have h4' : (bs.length : Int) < 4 := by omega
    clear ho h
    go_enter Try.func13, Try.ntmps13
    go_wp2_with fail
    go_ret2
    have e : openN bs = [] := by unfold openN; rw [HO.out]; rfl
    exact ⟨none, 0, by rw [e, HO.out]; rfl, by rw [e]; exact ByAt.nil _ _, Below.refl _ _⟩
  · obtain ⟨m, hm⟩ : ∃ m, bs.length = m + 4 := ⟨bs.length - 4, by omega⟩
    have htl : (bs.take m).length = m := by simp; omega
    cases a with
    | none => have := h.1 rfl; subst this; simp at h4
    | some ad =>
      have HS : Hid (∀ X, Below w.heap.size w X → Calls Try.prog 15 #[.slice (some ad) m cap] X (PutC X.heap.size (sealN (bs.take m)) X)) := by
        have h5 := fun X (hX : Below w.heap.size w X) => refSeal_any X (some ad) cap (bs.take m) ((h.below hX).take m) (by omega)
        rw [htl] at h5
        exact h5
      have HB := Lib.hid h
      have HM := Lib.hid (And.intro hm htl)
      obtain ⟨i0, hi, hz, hs, hby⟩ := info_u Try.infoU
      have HI := Lib.hid (And.intro hi (And.intro hz (And.intro hs hby)))
      obtain ⟨ok, hok⟩ : ∃ ok, ok = (sealN (bs.take m) == bs) := ⟨_, rfl⟩
      have HK := Lib.hid hok
      have HL := Lib.hid hl
      rw [hm]
      rw [hm] at hc hl
      clear h hm htl h4 hi hz hs hby hok
      have h4' : ¬ ((m : Int) + 4 < 4) := by omega
      go_enter Try.func13, Try.ntmps13
      go_wp2_with fail
      have cb0 := (HB.out.below (drew_below w)).conv (m + 4) HM.out.1.symm cap
      go_region_with (go_at_call 15; refine (HS.out _ (drew_below w)).mono ?_; rintro e w2 ⟨v2, rfl, h2⟩; have cv := h2.text; have cb := (HB.out.below ((drew_below w).trans h2.below)).conv (m + 4) HM.out.1.symm cap; have H2 := Lib.hid h2; clear h2)
      all_goals (
        rw [← HK.out]
        clear cv cb cb0
        cases ok)
      all_goals (go_wp2_with (at_builtin; (with_reducible refine wpList_take rfl (.tmp 20) (.tmp 21) 22 rfl i0 Try.underlying22 HI.out.1 HI.out.2.1 HI.out.2.2.1 HI.out.2.2.2 rfl ad cap m (bs.take m) HM.out.2.symm rfl ((HB.out.below (below_drew H2.out)).take m) (by omega) ?_); intro v3 w3 ho; have HO := Lib.hid ho; clear ho))
      all_goals (first | (go_ret2; exact ref_no HM.out.1 HK.out (drew_below w) H2.out) | (go_ret2; exact ref_yes HM.out.1 HK.out (drew_below w) H2.out HO.out))
end Go.Proofs.Ytpceledeeplhlaa
