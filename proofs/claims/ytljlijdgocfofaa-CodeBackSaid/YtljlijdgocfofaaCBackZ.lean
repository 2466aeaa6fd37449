/-
  The bytes that came in, read as steps and put again. No condition.
-/
import Derived.Test.YtljlijdgocfofaaCBackA
import Derived.Laws.IdiomStrings
import Derived.Deep.RegionHeld3
namespace Go.Proofs.Ytljlijdgocfofaa
open Go.RowKit
open Extern.Stop (cell)

theorem ByAt.conv {w : World} {a : Option Addr} {n cap : Nat} {bs : List UInt8} (h : ByAt w a bs) (hn : n = bs.length) : (convert 22 9 (.slice a n cap)).run Try.prog w = .ok (.string ⟨bs.toArray⟩) w := by
  subst hn
  cases a with
  | none =>
    have hb := h.1 rfl
    subst hb
    rw [run_convert_bytes_string w _ _ _ none _ cap Try.underlying22 Try.underlying5 Try.underlying9]
    simp [Conv.bytesToString]
    rfl
  | some ad =>
    exact run_convert_bytes_back w _ _ _ ad cap bs Try.underlying22 Try.underlying5 Try.underlying9 (fun j hj => h.2 ad rfl j _ (List.getElem?_eq_getElem hj))
/-- More may be held from here on. -/
theorem wpAnyH_more {P : Program} {md : Region.Mode} {ops : Array Oper} {Q : Exit → Act → World → Prop} {S S' : World → Prop} (hS : ∀ w, S' w → S w) : ∀ {fuel : Nat} {listed : Array Bool} {a : Act} {w : World}, wpAnyH P md ops Q S' fuel listed a w → wpAnyH P md ops Q S fuel listed a w
  | 0, _, _, _, h => h
  | _ + 1, _, _, _, h => ⟨h.1, fun i hi => wpOp_mono (fun _ _ h' => ⟨hS _ h'.1, wpAnyH_more hS h'.2⟩) (h.2 i hi)⟩
section
variable {w W : World} {S : Nat → Prop} {n : Int} {s : ByteArray} {t : Tr} {ka : Option Addr} {len kcap : Nat} {sa : Option Addr} {ll : Nat} {l : List Stp} {ba : Option Addr} {bl : Nat} {bs : List UInt8}
theorem q_new (B : BackB w W S n s t ka len kcap sa ll l ba bl bs) {X : World} (hX : Below W.heap.size W X) (cap : Nat) : Calls Try.prog 17 #[.slice ba bl cap] X (NewR W bs) := by
  have h0 := newRd_any X ba cap bs (B.byt X hX) (by have := B.hb2; omega)
  rw [B.hb]
  exact h0.mono fun _ _ k => k.rs hX
def AnyC (W wr : World) (b : Nat) (dv : Value) (bs : List UInt8) (e : Ending) (w' : World) : Prop := ∃ za zm zc s', e = .returned (.slice za zm zc) ∧ RS W w' b dv s' ∧
  ((∃ (l' : List Stp) (q : Nat), zm = l'.length ∧ StepsAt w' (Fresh wr w') za l' ∧ Stand bs 0 q (num8 (l'.length : Int) ++ encL l') ∧ l'.length ≤ 60 ∧ s' = ⟨bs, q, false⟩) ∨ s'.bad = true)
theorem q_any {wr : World} {b : Nat} {dv : Value} (h : RS W wr b dv ⟨bs, 0, false⟩) : Calls Try.prog 28 #[.pointer (some ⟨b, 0, none⟩)] wr (AnyC W wr b dv bs) := by
  refine (rs_any h).mono ?_
  rintro e w' ⟨a, m, cap, rfl, _, hv⟩
  rcases hv with ⟨l', q, h1, h2, h3, h4, h5⟩ | ⟨p, _, h5⟩
  · exact ⟨a, m, cap, _, rfl, h5, Or.inl ⟨l', q, h1, h2, h3, h4, rfl⟩⟩
  · exact ⟨a, m, cap, _, rfl, h5, Or.inr rfl⟩
/-- Steps that are put as these bytes. -/
def Puts (bs : List UInt8) (za : Option Addr) (zm : Nat) (X : World) : Prop := ∃ (l' : List Stp) (T : Nat → Prop), zm = l'.length ∧ l'.length ≤ 60 ∧ (∀ k, T k → k < X.heap.size) ∧ StepsAt X T za l' ∧ [] ++ num8 (zm : Int) ++ encL l' = bs
def EndZ (W : World) (bs : List UInt8) (za : Option Addr) (zm : Nat) (e : Ending) (w' : World) : Prop := ∃ at_ er : Int, e = .returned (.tuple #[.int .i64 at_, .int .i64 er]) ∧ Below W.heap.size W w' ∧ ((er = 0 ∧ Puts bs za zm w') ∨ er = 30)
theorem q_end {wr w1 : World} {b : Nat} {dv : Value} {za : Option Addr} {zm : Nat} {s' : Rd} (h : RS W w1 b dv s')
    (hv : (∃ (l' : List Stp) (q : Nat), zm = l'.length ∧ StepsAt w1 (Fresh wr w1) za l' ∧ Stand bs 0 q (num8 (l'.length : Int) ++ encL l') ∧ l'.length ≤ 60 ∧ s' = ⟨bs, q, false⟩) ∨ s'.bad = true) :
    Calls Try.prog 33 #[.pointer (some ⟨b, 0, none⟩)] w1 (EndZ W bs za zm) := by
  refine (rs_end h).mono ?_
  rintro e w' ⟨rfl, h1, h2⟩
  rcases hv with ⟨l', q, hm, hst, hsd, h60, rfl⟩ | hb
  · by_cases hq : q < bs.length
    · exact ⟨q, 30, by simp [Rd.endV, hq], h1.bel, Or.inr rfl⟩
    · refine ⟨0, 0, by simp [Rd.endV, hq], h1.bel, Or.inl ⟨rfl, l', Fresh wr w1, hm, h60, fun k hk => by have := hk.2; have := h2.size; omega, hst.kept fun k hk => ⟨hk, h2.block k hk.2 id⟩, ?_⟩⟩
      have h5 := hsd.1
      rw [List.drop_zero, List.drop_eq_nil_of_le (by omega), List.append_nil] at h5
      rw [hm, List.nil_append]
      exact h5.symm
  · exact ⟨s'.pos, 30, by simp [Rd.endV, hb], h1.bel, Or.inr rfl⟩
/-- Put again, they are the same bytes. -/
def AgainC (bs : List UInt8) (X : World) (e : Ending) (w' : World) : Prop := ∃ v, e = .returned v ∧ (convert 22 9 v).run Try.prog w' = .ok (.string ⟨bs.toArray⟩) w' ∧ Below X.heap.size X w'
theorem q_put {X0 : World} {za : Option Addr} {zm zc : Nat} (h : Puts bs za zm X0) (hb : bs.length ≤ 20000) {X : World} (hX : Below X0.heap.size X0 X) : Calls Try.prog 15 #[.slice none 0 0, .slice za zm zc] X (AgainC bs X) := by
  obtain ⟨l', T, h1, h2, h3, h4, h5⟩ := h
  have hlen := congrArg List.length h5
  simp only [List.length_append, num8_length, List.length_nil] at hlen
  have h0 := psteps X T l' none za 0 0 zm zc [] (fun k hk => Nat.lt_of_lt_of_le (h3 k hk) hX.size) (h4.kept fun k hk => ⟨hk, hX.block k (h3 k hk)⟩) h1 rfl ⟨fun _ => rfl, fun ad e j u hj => by simp at hj⟩ (by simp only [List.length_nil]; omega) (by omega)
  rw [h5] at h0
  refine h0.mono ?_
  rintro e w' ⟨a, m, cap, rfl, k1, k2, k3⟩
  exact ⟨_, rfl, k2.conv k1, k3⟩
end
end Go.Proofs.Ytljlijdgocfofaa
