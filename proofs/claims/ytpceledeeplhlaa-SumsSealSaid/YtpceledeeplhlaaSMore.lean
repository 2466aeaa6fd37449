/-
  The program's More and Sum. No condition but that the bytes lie where they are said to lie, and are not too many.
-/
import Derived.Test.YtpceledeeplhlaaSTable
namespace Go.Proofs.Ytpceledeeplhlaa
open Go.RowKit
open Extern.Stop (cell)

theorem u32_not (s : Nat) (h : s < 4294967296) : bits .xor .u32 IntKind.u32.max (s : Int) = ((4294967295 - s : Nat) : Int) := by
  rw [show IntKind.u32.max = ((4294967295 : Nat) : Int) by rfl, u32_xor_nat 4294967295 s (by decide) h]
  congr 1
  have h1 : (BitVec.ofNat 32 s).toNat = s := by simp; omega
  have h2 := BitVec.toNat_not (x := BitVec.ofNat 32 s)
  have h3 : ~~~ (BitVec.ofNat 32 s) = BitVec.allOnes 32 ^^^ BitVec.ofNat 32 s := by rw [BitVec.allOnes_xor]
  rw [h3, BitVec.toNat_xor, h1] at h2
  exact h2
theorem u8_byte (q : Nat) (x : UInt8) : bits .xor .u8 ((q : Int) % 256) (x.toNat : Int) = ((q % 256 ^^^ x.toNat : Nat) : Int) := by
  rw [show (q : Int) % 256 = ((q % 256 : Nat) : Int) by omega]
  exact u8_xor_nat _ _ (by omega) (byte_lt x)
theorem u32_tab (t q : Nat) (ht : t < 4294967296) (hq : q < 4294967296) : bits .xor .u32 (t : Int) ((q : Int) / 256) = ((t ^^^ q / 256 : Nat) : Int) := by
  rw [show (q : Int) / 256 = ((q / 256 : Nat) : Int) by omega]
  exact u32_xor_nat _ _ ht (by omega)
theorem TabC.below {w w' : World} {tb x : Nat} {e : Ending} (h : TabC w tb x e w') {B : Nat} (hB : B ≤ tb) : Below B w w' :=
  ⟨h.os, h.tape, h.output, by rw [h.size]; exact Nat.le_refl _, fun k hk => h.block k (by omega)⟩

theorem TabC.parts {w w' : World} {tb x : Nat} {e : Ending} (h : TabC w tb x e w') : e = .returned (.int .u32 (sh8 x : Int)) ∧ TabAt w' tb ∧ Below tb w w' := ⟨h.ret, h.tab, h.below (Nat.le_refl _)⟩
def MoreInv (w : World) (tb s : Nat) (bs : List UInt8) (v i : Value) (wr : World) : Prop := ∃ k : Nat, k ≤ bs.length ∧ v = .int .u32 (crcN (4294967295 - s) (bs.take k) : Int) ∧ i = .int .i64 (k : Int) ∧ Below tb w wr ∧ TabAt wr tb ∧ tb = w.heap.size
def NumC (w : World) (n : Nat) (e : Ending) (w' : World) : Prop := e = .returned (.int .u32 (n : Int)) ∧ Below w.heap.size w w'
set_option maxRecDepth 100000 in
set_option maxHeartbeats 1000000 in
theorem more_any (w : World) (s : Nat) (hs : s < 4294967296) (a : Option Addr) (cap : Nat) (bs : List UInt8) (h : ByAt w a bs) (hl : bs.length ≤ 1000000000000) :
    Calls Try.prog 10 #[.int .u32 (s : Int), .slice a bs.length cap] w (NumC w (moreN s bs)) := by
  have HT := Lib.hid (table_any w)
  have e0 := u32_not s hs
  have HB := Lib.hid h
  clear h
  go_enter Try.func10, Try.ntmps10
  go_wp2_with (go_at_call 16; refine HT.out.mono ?_; clear HT; rintro e w1 ⟨rfl, h1, h2, _⟩; have H1 := Lib.hid (And.intro h1 h2); clear h1 h2)
  clear e0
  have HW := Lib.hid (rfl : w.heap.size = w.heap.size)
  go_loopw [6, 14] (fun v i wr => MoreInv w w.heap.size s bs v i wr) (fun _ i _ => (bs.length - intOf i).toNat)
  case atStart => exact ⟨0, Nat.zero_le _, rfl, rfl, H1.out.2, H1.out.1, rfl⟩
  case round =>
    obtain ⟨k, hk, rfl, rfl, hb, ht, -⟩ := hrel
    have HK := Lib.hid (And.intro hb ht)
    obtain ⟨q, hq⟩ : ∃ q, q = crcN (4294967295 - s) (bs.take k) := ⟨_, rfl⟩
    have hql : q < 4294967296 := by rw [hq]; exact crcN_lt _ _ (by omega)
    rw [← hq]
    have HQ := Lib.hid hq
    clear hb ht hq
    by_cases hlt : k < bs.length
    · obtain ⟨x, hx⟩ : ∃ x, bs[k]? = some x := ⟨bs[k], List.getElem?_eq_getElem hlt⟩
      cases a with
      | none => have := HB.out.1 rfl; subst this; simp at hlt
      | some ad =>
        have hadl := HB.out.lt (by omega)
        have hc : wr.cell? (ad.add k) = some (.int .u8 (x.toNat : Int)) := (HB.out.kept (w' := wr) (fun ad' e => by cases e; exact HK.out.1.block _ hadl)).2 ad rfl k x hx
        have e1 := u8_byte q x
        have HR := Lib.hid (row_any wr w.heap.size (q % 256 ^^^ x.toNat) (Nat.xor_lt_two_pow (n := 8) (by omega) (byte_lt x)) HK.out.2)
        have e2 := u32_tab (sh8 (q % 256 ^^^ x.toNat)) q (sh8_lt _ (xor32 _ _ (by omega) (by have := byte_lt x; omega))) hql
        have HX := Lib.hid hx
        clear hx
        go_wp2_with (go_at_call 18; refine HR.out.mono ?_; clear HR; rintro e w2 h2; obtain ⟨rfl, h3, h4⟩ := h2.parts; have H2 := Lib.hid (And.intro h3 h4); clear h2 h3 h4)
        refine ⟨⟨k + 1, by omega, ?_, by congr 1, HK.out.1.trans H2.out.2, H2.out.1, rfl⟩, by simp [intOf]; omega⟩
        rw [crcN_snoc _ _ _ _ HX.out, ← HQ.out, sh8_table q]
    · have hke : k = bs.length := by omega
      subst hke
      have e0 := u32_not q hql
      go_wp2_with fail
      go_ret
      refine ⟨?_, HK.out.1⟩
      have e1 : moreN s bs = 4294967295 - q := by rw [HQ.out, List.take_length]; rfl
      rw [e1]; rfl

set_option maxRecDepth 100000 in
set_option maxHeartbeats 1000000 in
theorem sum_any (w : World) (a : Option Addr) (cap : Nat) (bs : List UInt8) (h : ByAt w a bs) (hl : bs.length ≤ 1000000000000) :
    Calls Try.prog 8 #[.slice a bs.length cap] w (NumC w (moreN 0 bs)) := by
  have H := Lib.hid (more_any w 0 (by decide) a cap bs h hl)
  clear h
  go_enter Try.func8, Try.ntmps8
  go_wp2_with (go_at_call 10; refine H.out.mono ?_; clear H; rintro e w1 ⟨rfl, h1⟩)
  go_ret
  exact ⟨rfl, h1⟩
end Go.Proofs.Ytpceledeeplhlaa
