/-
  A reader of layer 3: the next number, or its failing. No condition.
-/
import Derived.Test.YtljlijdgocfofaaCTake
namespace Go.Proofs.Ytljlijdgocfofaa
open Go.RowKit
open Extern.Stop (cell)

theorem number_bad (w : World) (b : Nat) (dv : Value) (s : Rd) (h : RdAt w b dv s) (hn : s.data.length < s.pos + 8) :
    Calls Try.prog 43 #[.pointer (some ⟨b, 0, none⟩)] w (FellC w b dv s s.data.length) := by
  have HT := Lib.hid (take_bad w b dv s h 8 hn)
  clear h hn
  go_enter Try.func43, Try.ntmps43
  go_wp2_with (go_at_call 60; refine HT.out.mono ?_; rintro e w1 ⟨rfl, h1, h2⟩)
  exact ⟨rfl, rfl, h1, h2⟩

/-- One more byte behind a number. -/
def numStep (m : Int) (u : UInt8) : Int := bits BinOp.or IntKind.i64 (wrap64 (m * 256)) (wrap64 (u.toNat : Int))
def numOf (l : List UInt8) : Int := l.foldl numStep 0
theorem numOf_take (l : List UInt8) (k : Nat) (u : UInt8) (h : l[k]? = some u) : numOf (l.take (k + 1)) = numStep (numOf (l.take k)) u := by
  rw [List.take_add_one, h]; simp [numOf, List.foldl_append]
/-- The number that a reader reads next. -/
def Rd.num (s : Rd) : Int := numOf ((s.data.drop s.pos).take 8)
def NumC (w : World) (b : Nat) (dv : Value) (s : Rd) (e : Ending) (w' : World) : Prop := e = .returned (.int .i64 s.num) ∧ RdAt w' b dv { s with pos := s.pos + 8 } ∧ Touched w w' (fun k => k = b)

theorem number_ok (w : World) (b : Nat) (dv : Value) (s : Rd) (h : RdAt w b dv s) (hn : s.pos + 8 ≤ s.data.length) :
    Calls Try.prog 43 #[.pointer (some ⟨b, 0, none⟩)] w (NumC w b dv s) := by
  have HT := Lib.hid (take_ok w b dv s h 8 hn (by intro e; rw [e] at hn; simp at hn))
  clear h
  go_enter Try.func43, Try.ntmps43
  go_wp2_with (go_at_call 60; refine HT.out.mono ?_; rintro e w1 ⟨g, o, cap, rfl, hg, hc, h1, h2⟩)
  have HB := Lib.hid (And.intro hc (And.intro h1 h2))
  have hlen : ((s.data.drop s.pos).take 8).length = 8 := by simp; omega
  obtain ⟨bs, hbs⟩ : ∃ bs, bs = (s.data.drop s.pos).take 8 := ⟨_, rfl⟩
  rw [← hbs] at HB hlen
  have HB2 := Lib.hid (And.intro hbs hlen)
  clear hc h1 h2 HT hn hbs hg
  go_loop [3, 5, 9] (fun n _ i => ∃ k : Nat, k ≤ 8 ∧ i = .int .i64 k ∧ n = .int .i64 (numOf (bs.take k))) (fun _ _ i => 8 - (intOf i).toNat)
  case atStart => exact ⟨0, Nat.zero_le _, rfl, rfl⟩
  case round =>
    obtain ⟨k, hk, rfl, rfl⟩ := hrel
    by_cases hlt : k < 8
    · obtain ⟨u, hu⟩ : ∃ u, bs[k]? = some u := ⟨bs[k]'(by omega), List.getElem?_eq_getElem _⟩
      have q0 : w1.cell? ⟨g, o + k, none⟩ = some (.int .u8 u.toNat) := HB.out.1 k u hu
      have HU := Lib.hid (numOf_take bs k u hu)
      have hkl : (k : Int) < 8 := by omega
      obtain ⟨m, hm⟩ : ∃ m, m = numOf (bs.take k) := ⟨_, rfl⟩
      rw [← hm] at HU ⊢
      clear hu hlen hm
      go_wp2_with fail
      exact ⟨⟨k + 1, by omega, by go_num, by rw [HU.out]; rfl⟩, by simp [intOf]; omega⟩
    · have hkl : ¬ (k : Int) < 8 := by omega
      have hk8 : k = 8 := by omega
      subst hk8
      obtain ⟨m, hm⟩ : ∃ m, m = numOf (bs.take 8) := ⟨_, rfl⟩
      have HM := Lib.hid hm
      rw [← hm]
      clear hm hlen
      go_wp2_with fail
      go_ret
      refine ⟨?_, HB.out.2.1, HB.out.2.2⟩
      rw [HM.out, List.take_of_length_le (by have := HB2.out.2; omega), HB2.out.1]; rfl
end Go.Proofs.Ytljlijdgocfofaa
