/-
  The program's own walk over a tree, for whatever body that leaves the tree as it is. No condition but that there are not too many nodes.
-/
import Derived.RangeFuncNested
import Derived.RangeFuncBound
import Derived.RangeFuncCalls
import Derived.RangeFuncLeaves
import Derived.RangeFuncWrites
import Derived.Shelf.RegionOpen
import Derived.OwnWalkIn
import Derived.TacticsInMore
import Derived.LoopNIn
import Derived.LoopIn
import Derived.OrdersIn
import Derived.Test.YtmfpilacmafglaaVSpot
namespace Go.Proofs.Ytmfpilacmafglaa
open Go.RowKit Go.Shelf
attribute [local go_sem] Oper.semAt_some
set_option linter.unusedVariables false
set_option linter.unusedSimpArgs false

theorem YieldAt.anyDepthV {m : Nat} (m' : Nat) {P : Program} {l : Nat} {args : Array Value} {W : World} {R : Ending → World → Prop} (h : YieldAt Fence.wide m P l args W R) : YieldAt Fence.wide m' P l args W R := by
  obtain ⟨fn, tmps, assign, body, hy, hr⟩ := h
  exact ⟨fn, tmps, assign, body, hy, hr.1, fun c cs _ => hr.2 c cs (room_wide _)⟩
/-- What the body of a loop over such a walk bears. -/
structure PBody (P : Program) (m l n₀ : Nat) (S : Nat → Prop) (tot : List Sp) (J : List Sp → World → Prop) (Jx : World → Prop) : Prop where
  turn : ∀ {pre : List Sp} {V V' : World}, J pre V → Below n₀ V V' → J pre V'
  turnx : ∀ {V V' : World}, Jx V → Below n₀ V V' → Jx V'
  yield : ∀ {pre rest : List Sp} {d : Nat} {key : Int × Int × ByteArray} {k : Fo} {V : World} {b off kc : Nat} {ka : Option Addr}, tot = pre ++ (d, key, k) :: rest → J pre V → n₀ ≤ V.heap.size → S b →
    V.cell? ⟨b, off, none⟩ = some (.int .i64 key.1) → V.cell? ⟨b, off + 1, none⟩ = some (.int .i64 key.2.1) → V.cell? ⟨b, off + 2, none⟩ = some (.string key.2.2) → V.cell? ⟨b, off + 3, none⟩ = some (.slice ka (foLen k) kc) → foLen k ≤ kc → FoAt V S k ka →
    YieldAt Fence.wide m P l #[.int .i64 (d : Int), .pointer (some ⟨b, off, none⟩)] V fun e V' => (V.heap.size ≤ V'.heap.size ∧ (∀ y, S y → V'.heap[y]? = V.heap[y]?)) ∧ ((e = .returned (.bool true) ∧ J (pre ++ [(d, key, k)]) V') ∨ (e = .returned (.bool false) ∧ Jx V'))
def BelowC (S : Nat → Prop) (J : List Sp → World → Prop) (Jx : World → Prop) (pre L : List Sp) (w : World) (e : Ending) (w' : World) : Prop :=
  ∃ bl, e = .returned (.bool bl) ∧ w.heap.size ≤ w'.heap.size ∧ (∀ y, S y → w'.heap[y]? = w.heap[y]?) ∧ (bl = true → J (pre ++ L) w') ∧ (bl = false → Jx w')
theorem spF_split : ∀ (j d : Nat) (f : Fo), spF d f = spF d (foTake j f) ++ spF d (foDrop j f)
  | 0, _, f => by cases f <;> simp [foTake, foDrop, spF]
  | _ + 1, _, .nil => by simp [foTake, foDrop, spF]
  | j + 1, d, .node _ _ k l r => by simp only [foTake, foDrop, spF, List.cons_append, List.append_assoc]; rw [spF_split j d r]
def BelowR (S : Nat → Prop) (J : List Sp → World → Prop) (w : World) (d : Nat) (key : Int × Int × ByteArray) (k : Fo) (pre : List Sp) (j : Nat) (wr : World) : Prop :=
  J (pre ++ (d, key, k) :: spF (d + 1) (foTake j k)) wr ∧ w.heap.size ≤ wr.heap.size ∧ ∀ y, S y → wr.heap[y]? = w.heap[y]?
set_option maxRecDepth 100000 in
set_option maxHeartbeats 4000000 in
theorem below_any {m l n₀ : Nat} {S : Nat → Prop} {tot : List Sp} {J : List Sp → World → Prop} {Jx : World → Prop} (hB : PBody Try.prog m l n₀ S tot J Jx) : ∀ (q d : Nat) (key : Int × Int × ByteArray) (k : Fo) (pre rest : List Sp) (w : World) (b off kc : Nat) (ka : Option Addr), foSize k < q → q ≤ 1000000 → d + q ≤ 2000000 → tot = pre ++ ((d, key, k) :: (spF (d + 1) k ++ rest)) → J pre w → n₀ ≤ w.heap.size → S b →
    w.cell? ⟨b, off, none⟩ = some (.int .i64 key.1) → w.cell? ⟨b, off + 1, none⟩ = some (.int .i64 key.2.1) → w.cell? ⟨b, off + 2, none⟩ = some (.string key.2.2) → w.cell? ⟨b, off + 3, none⟩ = some (.slice ka (foLen k) kc) → foLen k ≤ kc → FoAt w S k ka →
    Calls Try.prog 100 #[.pointer (some ⟨b, off, none⟩), .int .i64 (d : Int), .func (.yield l) #[] #[]] w (BelowC S J Jx pre ((d, key, k) :: spF (d + 1) k) w) := by
  intro q
  induction q with
  | zero => intro d key k pre rest w b off kc ka h; omega
  | succ q ih =>
    intro d key k pre rest w b off kc ka hq hq6 hdq htot hJ hn0 hSb c0 c1 c2 c3 hcp hk
    obtain ⟨fn, tmps, assign, body, hy, hR⟩ := YieldAt.anyDepthV 5 (hB.yield htot hJ hn0 hSb c0 c1 c2 c3 hcp hk)
    obtain ⟨n, hn⟩ : ∃ n, n = foLen k := ⟨_, rfl⟩
    have hn6 : n ≤ 1000000 := by have := foLen_le k; omega
    have hd6 : (d : Int) ≤ 2000000 := by omega
    have hd0 : (0 : Int) ≤ (d : Int) := by omega
    rw [← hn] at c3 hcp
    have H := Lib.hid (And.intro hq (And.intro hq6 (And.intro hdq (And.intro htot (And.intro hn0 (And.intro hSb (And.intro c3 (And.intro hcp (And.intro hk hn)))))))))
    have HR := Lib.hid hR
    have HIH := Lib.hid ih
    clear hq hq6 hdq htot hJ hn0 hSb c0 c1 c2 c3 hcp hk hn hR ih
    refine (callsIn_wide (n := 6)).1 ?_
    refine callsIn_of_wp Try.func100 rfl trivial ?_ rfl
    simp only [Try.ntmps100, List.size_toArray, List.length_cons, List.length_nil, Nat.reduceAdd, Nat.reduceSub, Array.replicate_succ, Array.replicate_zero, List.push_toArray, List.append_toArray, List.nil_append, List.cons_append]
    gi_wp2
    refine HR.out.mono ?_
    clear HR hy
    rintro e w1 ⟨⟨hs1, hS1⟩, (⟨rfl, hJ1⟩ | ⟨rfl, hx1⟩)⟩
    · have p3 : w1.cell? ⟨b, off + 3, none⟩ = some (.slice ka n kc) := (World.cell?_of_block (a := ⟨b, off + 3, none⟩) (hS1 b H.out.2.2.2.2.2.1)).trans H.out.2.2.2.2.2.2.1
      have HS := Lib.hid (show BelowR S J w d key k pre 0 w1 from ⟨by simpa [foTake, spF] using hJ1, hs1, hS1⟩)
      clear hJ1 hs1 hS1
      gi_wp2
      gi_loopw [7, 18] (fun _ i wr => ∃ j : Nat, j ≤ n ∧ i = .int .i64 (j : Int) ∧ Hid (BelowR S J w d key k pre j wr)) (fun _ i _ => n - (intOf i).toNat)
      case atStart => exact ⟨0, Nat.zero_le _, rfl, HS⟩
      case round =>
        obtain ⟨j, hj, rfl, hh⟩ := hrel
        have p3r : wr.cell? ⟨b, off + 3, none⟩ = some (.slice ka n kc) := (World.cell?_of_block (a := ⟨b, off + 3, none⟩) (hh.out.2.2 b H.out.2.2.2.2.2.1)).trans H.out.2.2.2.2.2.2.1
        by_cases hlt : j < n
        · have hk1 : FoAt wr S k ka := H.out.2.2.2.2.2.2.2.2.1.kept fun x hx => ⟨hx, hh.out.2.2 x hx⟩
          obtain ⟨b0, o0, kkey, l', r, hd1', b', off', a1, n1, rfl, hSb', e0, e1, e2, e3, hc1, hl1⟩ := hk1.at j (by have := H.out.2.2.2.2.2.2.2.2.2; omega)
          obtain ⟨_, _, _, _, _, f1, f2, hsz1, htk⟩ := foDrop_node j k (by have := H.out.2.2.2.2.2.2.2.2.2; omega)
          rw [hd1'] at f1; cases f1
          have htot2 : tot = (pre ++ (d, key, k) :: spF (d + 1) (foTake j k)) ++ ((d + 1, kkey, l') :: (spF (d + 1 + 1) l' ++ (spF (d + 1) r ++ rest))) := by
            rw [H.out.2.2.2.1, spF_split j (d + 1) k, hd1']
            simp [spF, List.append_assoc]
          have hcall := HIH.out (d + 1) kkey l' (pre ++ (d, key, k) :: spF (d + 1) (foTake j k)) (spF (d + 1) r ++ rest) wr b' (off' + j * 4) n1 a1 (by have := H.out.1; omega) (by have := H.out.2.1; omega) (by have := H.out.2.2.1; omega) htot2 hh.out.1 (Nat.le_trans H.out.2.2.2.2.1 hh.out.2.1) hSb' e0 e1 e2 e3 hc1 hl1
          have hcast : (((d + 1 : Nat)) : Int) = (d : Int) + 1 := by omega
          rw [hcast] at hcall
          have hnx : (pre ++ (d, key, k) :: spF (d + 1) (foTake j k)) ++ ((d + 1, kkey, l') :: spF (d + 1 + 1) l') = pre ++ (d, key, k) :: spF (d + 1) (foTake (j + 1) k) := by rw [htk, spF_snoc]; simp [List.append_assoc]
          have HC := Lib.hid (And.intro hcall hnx)
          have hji : (j : Int) < (n : Int) := by omega
          clear hk1 hd1' f2 hsz1 htk htot2 hcall hcast hnx e0 e1 e2 e3 hc1 hl1 hSb'
          have hlt5 : (j : Int) + 1 ≤ 1000001 := by omega
          have HLT := Lib.hid hlt
          clear hlt
          gi_wp2_with (refine ⟨trivial, ?_⟩; gi_at_call 100; refine (callsIn_wide.2 HC.out.1).mono ?_; rintro e w2 ⟨bl, rfl, hs2, hS2, hJ2, hx2⟩; have HE := Lib.hid (And.intro hs2 (And.intro hS2 (And.intro hJ2 hx2))); clear hs2 hS2 hJ2 hx2; cases bl)
          · go_ret
            exact ⟨false, rfl, Nat.le_trans hh.out.2.1 HE.out.1, fun y hy => (HE.out.2.1 y hy).trans (hh.out.2.2 y hy), (fun e => by cases e), fun _ => HE.out.2.2.2 (by first | rfl | trivial)⟩
          · refine ⟨⟨j + 1, by have := HLT.out; omega, by go_num, Lib.hid ⟨?_, Nat.le_trans hh.out.2.1 HE.out.1, fun y hy => (HE.out.2.1 y hy).trans (hh.out.2.2 y hy)⟩⟩, by have := HLT.out; simp [intOf]; omega⟩
            have h := HE.out.2.2.1 (by first | rfl | trivial)
            rw [HC.out.2] at h
            exact h
        · have hjn : ¬ (j : Int) < (n : Int) := by omega
          have HJN := Lib.hid (show j = n by omega)
          clear hlt
          gi_wp2
          go_ret
          refine ⟨true, rfl, hh.out.2.1, hh.out.2.2, fun _ => ?_, fun e => by cases e⟩
          have h := hh.out.1
          rw [foTake_all j k (by rw [HJN.out, H.out.2.2.2.2.2.2.2.2.2]; exact Nat.le_refl _)] at h
          exact h
    · have HE := Lib.hid (And.intro hs1 (And.intro hS1 hx1))
      clear hs1 hS1 hx1
      gi_wp2
      go_ret
      exact ⟨false, rfl, HE.out.1, HE.out.2.1, (fun e => by cases e), fun _ => HE.out.2.2⟩
end Go.Proofs.Ytmfpilacmafglaa
