/-
  The document's own Seal, bytes.Equal, and Open, the program's and the document's. No condition but that the bytes lie where they are said to lie, and are not too many.
-/
import Derived.Test.YtpceledeeplhlaaSSeal
import Derived.Deep.RegionWith
import Derived.Deep.CutRange
namespace Go.Proofs.Ytpceledeeplhlaa
open Go.RowKit
open Extern.Stop (cell)

theorem OwnS.empty (w : World) : OwnS w.heap.size (.slice none 0 0) 0 [] w w := OwnB.none w
section
variable {P : Program}
/-- Four bytes more, which lie in a block that was just laid. -/
theorem wpList_four {ops : Array Oper} {rest : List Oper} {o : Oper} {a : Act} {Q : Exit → Act → World → Prop} (hgd : o.guard = none) (s x : Operand) (t : TypeId)
    (ho : o.op = .call { callee := .builtin .append, args := #[s, x], argTypes := #[t, t] })
    (B : Nat) (i : TypeInfo) (ht : P.underlying t = some (.slice 5)) (hi : P.info? 5 = some i) (hz : i.zero = some (.int .u8 0)) (hsize : i.size = 1) (hby : i.bytes = 1)
    (v : Value) (bs : List UInt8) (hs : a.eval s = v) (W0 w0 : World) (c0 c1 c2 c3 : Int) (hb : OwnB B v bs W0 w0)
    (g0 : Nat) (hg0 : g0 = w0.heap.size) (hx : a.eval x = .slice (some ⟨g0, 0, none⟩) 4 4) (hlen : bs.length + 4 ≤ 140737488355328)
    (h : ∀ v' w', OwnS B v' (bs.length + 4) (bs.map cell ++ [.int .u8 c0, .int .u8 c1, .int .u8 c2, .int .u8 c3]) W0 w' → wpList P ops Q rest (a.put o.dst v') w') : wpList P ops Q (o :: rest) a (w0.alloc (.cells #[.int .u8 c0, .int .u8 c1, .int .u8 c2, .int .u8 c3] 5)) := by
  subst hg0
  have hb' := OwnS.alloc hb (.cells #[.int .u8 c0, .int .u8 c1, .int .u8 c2, .int .u8 c3] 5)
  exact wpList_append_own _ hgd s x t ho B 5 i (.int .u8 0) 1 1 ht hi hz hsize hby rfl (by decide) v bs.length (bs.map cell) hs hb'.1 ⟨w0.heap.size, 0, none⟩ 4 4 [.int .u8 c0, .int .u8 c1, .int .u8 c2, .int .u8 c3] hx rfl
    (World.news_of_block (cs := #[.int .u8 c0, .int .u8 c1, .int .u8 c2, .int .u8 c3]) (heap_alloc_new w0 _)) (by simp [Value.oneCell']) (by unfold maxLen; omega) (by omega) hb'.2.2 fun v' w' ho' hg _ => h v' w' (hb'.grown ho' hg)
end
theorem be4_cells (n : Nat) : (be4 (n : Int)).map cell = [.int .u8 ((n : Int) / 16777216 % 256), .int .u8 ((n : Int) / 65536 % 256), .int .u8 ((n : Int) / 256 % 256), .int .u8 ((n : Int) % 256)] := by
  simp [be4, numByte_cell]
theorem four_end {w w4 : World} {v : Value} {bs : List UInt8} {n : Nat} (hn : n = moreN 0 bs) (h : OwnS w.heap.size v (bs.length + 4) (bs.map cell ++ [.int .u8 ((n : Int) / 16777216 % 256), .int .u8 ((n : Int) / 65536 % 256), .int .u8 ((n : Int) / 256 % 256), .int .u8 ((n : Int) % 256)]) w w4) : OwnB w.heap.size v (sealN bs) w w4 := by
  show OwnS _ _ (sealN bs).length ((sealN bs).map cell) _ _
  rw [sealN_length]
  unfold sealN
  rw [List.map_append, ← hn, be4_cells]
  exact h
set_option maxRecDepth 100000 in
set_option maxHeartbeats 1000000 in
theorem refSeal_any (w : World) (a : Option Addr) (cap : Nat) (bs : List UInt8) (h : ByAt w a bs) (hl : bs.length ≤ 1000000000) :
    Calls Try.prog 15 #[.slice a bs.length cap] w (PutC w.heap.size (sealN bs) w) := by
  have HS := Lib.hid (refSum_any w a cap bs h (by omega))
  obtain ⟨i0, hi, hz, hs, hby⟩ := info_u Try.infoU
  have HI := Lib.hid (And.intro hi (And.intro hz (And.intro hs hby)))
  have HB := Lib.hid h
  have HL := Lib.hid hl
  obtain ⟨n, hn⟩ : ∃ n : Nat, n = moreN 0 bs := ⟨_, rfl⟩
  have HN := Lib.hid hn
  clear h hi hz hs hby hn
  cases a with
  | none =>
    have HE := Lib.hid (HB.out.1 rfl)
    go_enter Try.func15, Try.ntmps15
    go_wp2_with (first
      | (go_at_call 9; refine HS.out.mono ?_; clear HS; rintro e w1 ⟨rfl, rfl⟩; rw [← HN.out])
      | (at_builtin; (with_reducible refine wpList_none rfl (.tmp 7) (.tmp 8) 22 rfl w.heap.size i0 Try.underlying22 HI.out.1 (.slice none 0 0) 0 [] rfl w (OwnS.empty w) cap bs HE.out rfl ?_); intro v' w3 ho; have HO := Lib.hid (seal_start (Below.refl _ _) ho); clear ho)
      | (at_builtin; (with_reducible refine wpList_four rfl (.tmp 10) (.tmp 22) 22 rfl w.heap.size i0 Try.underlying22 HI.out.1 HI.out.2.1 HI.out.2.2.1 HI.out.2.2.2 v' bs rfl w w3 ((n : Int) / 16777216 % 256) ((n : Int) / 65536 % 256) ((n : Int) / 256 % 256) ((n : Int) % 256) HO.out _ rfl rfl (by have := HL.out; omega) ?_); intro v2 w4 ho; have HO2 := Lib.hid ho; clear ho))
    go_ret
    exact ⟨_, rfl, four_end HN.out HO2.out⟩
  | some ad =>
    go_enter Try.func15, Try.ntmps15
    go_wp2_with (first
      | (go_at_call 9; refine HS.out.mono ?_; clear HS; rintro e w1 ⟨rfl, rfl⟩; rw [← HN.out])
      | (at_builtin; (with_reducible refine wpList_bytes rfl (.tmp 7) (.tmp 8) 22 rfl w.heap.size i0 Try.underlying22 HI.out.1 HI.out.2.1 HI.out.2.2.1 HI.out.2.2.2 (.slice none 0 0) 0 [] rfl w (OwnS.empty w) ad cap bs rfl HB.out.cells (by have := HL.out; omega) ?_); intro v' w3 ho; have HO := Lib.hid (seal_start (Below.refl _ _) ho); clear ho)
      | (at_builtin; (with_reducible refine wpList_four rfl (.tmp 10) (.tmp 22) 22 rfl w.heap.size i0 Try.underlying22 HI.out.1 HI.out.2.1 HI.out.2.2.1 HI.out.2.2.2 v' bs rfl w w3 ((n : Int) / 16777216 % 256) ((n : Int) / 65536 % 256) ((n : Int) / 256 % 256) ((n : Int) % 256) HO.out _ rfl rfl (by have := HL.out; omega) ?_); intro v2 w4 ho; have HO2 := Lib.hid ho; clear ho))
    go_ret
    exact ⟨_, rfl, four_end HN.out HO2.out⟩

set_option maxRecDepth 100000 in
set_option maxHeartbeats 1000000 in
/-- Two rows of bytes as texts: the same? -/
theorem equal_any (w : World) (a b : Option Addr) (na nb ca cb : Nat) (bs cs : List UInt8) (hna : na = bs.length) (hnb : nb = cs.length) (h : ByAt w a bs) (k : ByAt w b cs) :
    Calls Try.prog 17 #[.slice a na ca, .slice b nb cb] w fun e w' => e = .returned (.bool (bs == cs)) ∧ w = w' := by
  subst hna hnb
  have e1 := h.text ca
  have e2 := k.text cb
  clear h k
  go_enter Try.func17, Try.ntmps17
  go_wp2_with fail
  go_ret
  exact ⟨rfl, rfl⟩

theorem OwnB.some {B : Nat} {v : Value} {bs : List UInt8} {W0 w : World} (h : OwnB B v bs W0 w) (h0 : 0 < bs.length) : ∃ a cap, v = .slice (some a) bs.length cap ∧ ByAt w (some a) bs ∧ bs.length ≤ cap ∧ (cap : Int) ≤ 9223372036854775807 := by
  obtain ⟨a, cap, e, h1, h2, h3⟩ := h.byAt
  cases a with
  | none => have := h1.1 rfl; rw [this] at h0; simp at h0
  | some a => exact ⟨a, cap, e, h1, h2, h3⟩
/-- What is sealed as these bytes. -/
def okN (bs : List UInt8) : Bool := sealN (bs.take (bs.length - 4)) == bs
def openN (bs : List UInt8) : List UInt8 := if okN bs then bs.take (bs.length - 4) else []
theorem okN_short {bs : List UInt8} (h : bs.length < 4) : okN bs = false := by
  unfold okN
  rw [beq_eq_false_iff_ne]
  intro e
  have := congrArg List.length e
  rw [sealN_length] at this
  simp at this
  omega
def OpenC (w : World) (bs : List UInt8) (e : Ending) (w' : World) : Prop := ∃ a c, e = .returned (.tuple #[.slice a (openN bs).length c, .bool (okN bs)]) ∧ ByAt w' a (openN bs) ∧ Below w.heap.size w w'
set_option maxRecDepth 100000 in
set_option maxHeartbeats 1000000 in
theorem open_any (w : World) (a : Option Addr) (cap : Nat) (bs : List UInt8) (h : ByAt w a bs) (hl : bs.length ≤ 1000000000) (hc : bs.length ≤ cap) (hc2 : (cap : Int) ≤ 9223372036854775807) :
    Calls Try.prog 12 #[.slice a bs.length cap] w (OpenC w bs) := by
  by_cases h4 : bs.length < 4
  · have ho := okN_short h4
    have HO := Lib.hid ho
    have h4' : ((bs.length : Int) - 4) < 0 := by omega
    clear ho h
    go_enter Try.func12, Try.ntmps12
    go_wp2_with fail
    go_ret2
    have e : openN bs = [] := by unfold openN; rw [HO.out]; rfl
    exact ⟨none, 0, by rw [e, HO.out]; rfl, by rw [e]; exact ByAt.nil _ _, Below.refl _ _⟩
  · obtain ⟨m, hm⟩ : ∃ m, bs.length = m + 4 := ⟨bs.length - 4, by omega⟩
    have htl : (bs.take m).length = m := by simp; omega
    cases a with
    | none => have := h.1 rfl; subst this; simp at h4
    | some ad =>
      have HS := Lib.hid (seal_any w (some ad) cap (bs.take m) (h.take m) (by omega))
      rw [htl] at HS
      have HB := Lib.hid h
      have HM := Lib.hid (And.intro hm htl)
      rw [hm]
      rw [hm] at hc
      clear h hm htl h4
      go_enter Try.func12, Try.ntmps12
      go_wp2_with (first
        | (go_at_call 14; refine HS.out.mono ?_; clear HS; rintro e w1 ⟨v1, rfl, h1⟩; obtain ⟨a1, c1, rfl, hb1, hle1, hc1⟩ := h1.some (by rw [sealN_length]; omega); have hsl : (sealN (bs.take m)).length = m + 4 := by { rw [sealN_length, HM.out.2] }; rw [hsl] at hle1; rw [hsl]; have HE := Lib.hid (equal_any w1 (some a1) (some ad) (m + 4) (m + 4) c1 cap (sealN (bs.take m)) bs hsl.symm HM.out.1.symm hb1 (HB.out.below h1.below)); have H1 := Lib.hid (And.intro h1.below hb1); obtain ⟨ok, hok⟩ : ∃ ok, ok = (sealN (bs.take m) == bs) := ⟨_, rfl⟩; rw [← hok] at HE; have HK := Lib.hid hok; clear h1 hb1 hok hsl)
        | (go_at_call 17; refine HE.out.mono ?_; clear HE; rintro e w2 ⟨rfl, rfl⟩; cases ok))
      · go_ret2
        have e : okN bs = false := by unfold okN; rw [show bs.length - 4 = m by have := HM.out.1; omega, ← HK.out]
        have e2 : openN bs = [] := by unfold openN; rw [e]; rfl
        exact ⟨none, 0, by rw [e2, e]; rfl, by rw [e2]; exact ByAt.nil _ _, H1.out.1⟩
      · go_ret2
        have hm4 : bs.length - 4 = m := by have := HM.out.1; omega
        have e : okN bs = true := by unfold okN; rw [hm4, ← HK.out]
        have e2 : openN bs = bs.take m := by unfold openN; rw [e, hm4]; rfl
        have e3 : sealN (bs.take m) = bs := by have := HK.out; exact eq_of_beq this.symm
        refine ⟨some a1, m, by rw [e2, e, HM.out.2]; rfl, ?_, H1.out.1⟩
        rw [e2]
        have h5 := H1.out.2
        rw [e3] at h5
        exact h5.take m
end Go.Proofs.Ytpceledeeplhlaa
