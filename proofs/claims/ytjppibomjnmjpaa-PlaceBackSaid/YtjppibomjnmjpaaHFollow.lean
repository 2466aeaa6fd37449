/-
  follow: the closure that goes down a path, for whatever it does at each node. No condition but that the path is not too long.
-/
import Derived.Deep.RegionHeld
import Derived.Test.YtjppibomjnmjpaaHRAt
namespace Go.Proofs.Ytjppibomjnmjpaa
open Go.RowKit Go.Shelf
set_option linter.unusedVariables false
set_option linter.unusedSimpArgs false

/-- What KF's blocks hold is as it was. -/
def FolK (KF : Nat → Prop) (w w' : World) : Prop := w.heap.size ≤ w'.heap.size ∧ ∀ y, KF y → w'.heap[y]? = w.heap[y]?
theorem FolK.refl (KF : Nat → Prop) (w : World) : FolK KF w w := ⟨Nat.le_refl _, fun _ _ => rfl⟩
theorem FolK.trans {KF : Nat → Prop} {a b c : World} (h : FolK KF a b) (k : FolK KF b c) : FolK KF a c := ⟨Nat.le_trans h.1 k.1, fun y hy => (k.2 y hy).trans (h.2 y hy)⟩
theorem FolK.drew {KF : Nat → Prop} {a b : World} (h : FolK KF a b) : FolK KF a b.drew := h
theorem FolK.of_below {KF : Nat → Prop} {a b : World} (hKF : ∀ y, KF y → y < a.heap.size) (h : Below a.heap.size a b) : FolK KF a b := ⟨h.size, fun y hy => h.block y (hKF y hy)⟩
/-- What is done at each node, and what holds behind so many places. -/
structure Fol (P : Program) (lf : FuncId) (KF : Nat → Prop) (J : List Int → Option Addr → World → Prop) : Prop where
  enter : ∀ (args : Array Value) (w : World), (callFunc lf args).run P w = .ok (.enter lf args) w
  turn : ∀ {q : List Int} {a : Option Addr} {w w' : World}, J q a w → Below w.heap.size w w' → J q a w'
  none : ∀ {q : List Int} (r : List Int) {w : World}, J q none w → J (q ++ r) none w
  read : ∀ {q : List Int} {ad : Addr} {w : World}, J q (some ad) w → ∃ b off ka kn kc, ad = ⟨b, off, Option.none⟩ ∧ kn ≤ 1000000000 ∧ w.cell? ⟨b, off + 3, Option.none⟩ = some (.slice ka kn kc) ∧ (∀ i : Int, (i < 0 ∨ (kn : Int) ≤ i) → J (q ++ [i]) Option.none w) ∧
    ∀ j : Nat, j < kn → Calls P lf #[.pointer (some ⟨b, off, Option.none⟩)] w fun e w' => e = .returned (.tuple #[]) ∧ FolK KF w w' ∧ ∃ g go gc, w'.cell? ⟨b, off + 3, Option.none⟩ = some (.slice (some ⟨g, go, Option.none⟩) kn gc) ∧ J (q ++ [(j : Int)]) (some ⟨g, go + j * 4, Option.none⟩) w'
/-- The two variables of 'follow' lie in blocks that are kept. -/
structure FolB (w : World) (lf : FuncId) (KF : Nat → Prop) (DB FB : Nat) : Prop where
  down : w.heap[DB]? = some (.cells #[.func (.func 44) #[] #[.pointer (some ⟨DB, 0, none⟩), .pointer (some ⟨FB, 0, none⟩)]] 73 (0, 0))
  leave : w.heap[FB]? = some (.cells #[.func (.func lf) #[] #[]] 64 (0, 0))
  hd : KF DB
  hf : KF FB
  sub : ∀ y, KF y → y < w.heap.size
theorem FolB.kept {w w' : World} {lf : FuncId} {KF : Nat → Prop} {DB FB : Nat} (h : FolB w lf KF DB FB) (hk : FolK KF w w') : FolB w' lf KF DB FB :=
  ⟨(hk.2 _ h.hd).trans h.down, (hk.2 _ h.hf).trans h.leave, h.hd, h.hf, fun y hy => Nat.lt_of_lt_of_le (h.sub y hy) hk.1⟩
theorem IntsL.drop {w : World} {S : Nat → Prop} {b off cap : Nat} {l : List Int} (h : IntsL w S (some ⟨b, off, none⟩) cap l) (m : Nat) : IntsL w S (some ⟨b, off + m, none⟩) (cap - m) (l.drop m) := by
  obtain ⟨h0, h1⟩ := h
  refine ⟨by rw [List.length_drop]; omega, ?_⟩
  rcases h1 with h1 | ⟨b', off', e, hb, hc⟩
  · exact Or.inl (by rw [h1]; simp)
  · cases e
    refine Or.inr ⟨b, off + m, rfl, hb, fun k x hx => ?_⟩
    rw [List.getElem?_drop] at hx
    have := hc (m + k) x hx
    rw [Nat.add_assoc]; exact this
theorem IntsL.cap {w : World} {S : Nat → Prop} {a : Option Addr} {cap cap' : Nat} {l : List Int} (h : IntsL w S a cap l) (hc : l.length ≤ cap') : IntsL w S a cap' l := ⟨hc, h.2⟩
def FolC (KF : Nat → Prop) (J : List Int → Option Addr → World → Prop) (q : List Int) (w : World) (e : Ending) (w' : World) : Prop := ∃ a', e = .returned (.pointer a') ∧ J q a' w' ∧ FolK KF w w'
set_option maxRecDepth 100000 in
set_option maxHeartbeats 8000000 in
theorem down_follow {lf : FuncId} {KF : Nat → Prop} {J : List Int → Option Addr → World → Prop} (hF : Fol Try.prog lf KF J) (DB FB : Nat) : ∀ (M : Nat) (w : World) (q l : List Int) (a pa : Option Addr) (n pc : Nat), n < M → n = l.length → n ≤ 1000000 → FolB w lf KF DB FB → IntsL w KF pa pc l → J q a w →
    Calls Try.prog 44 #[.pointer a, .slice pa n pc, .pointer (some ⟨DB, 0, none⟩), .pointer (some ⟨FB, 0, none⟩)] w (FolC KF J (q ++ l) w) := by
  intro M
  induction M with
  | zero => intro w q l a pa n pc h; omega
  | succ M ih =>
    intro w q l a pa n pc hM hn hnb hFB hp hJ
    cases a with
    | none =>
      have HE := Lib.hid (hF.none l hJ)
      clear ih hM hFB hp hJ hn
      go_enter Try.func44, Try.ntmps44
      go_wp2_with fail
      go_ret
      exact ⟨none, rfl, HE.out, FolK.refl _ _⟩
    | some ad =>
    by_cases hn0 : n = 0
    · subst hn0
      have hl : l = [] := List.length_eq_zero_iff.1 hn.symm
      have HE : Hid (J (q ++ l) (some ad) w) := Lib.hid (by rw [hl, List.append_nil]; exact hJ)
      clear ih hM hFB hp hJ hn hl
      go_enter Try.func44, Try.ntmps44
      go_wp2_with fail
      go_ret
      exact ⟨some ad, rfl, HE.out, FolK.refl _ _⟩
    · obtain ⟨pb, po, rfl, hpb, hpc⟩ := hp.2.resolve_left (fun e => by rw [e] at hn; exact hn0 hn)
      have hnc : n ≤ pc := by have := hp.1; omega
      by_cases hn1 : n = 1
      · subst hn1
        obtain ⟨x, rfl⟩ : ∃ x, l = [x] := by
          match l, hn with
          | [x], _ => exact ⟨x, rfl⟩
        have px := hpc 0 x rfl
        rw [Nat.add_zero] at px
        obtain ⟨nb, no, ka, kn, kc, rfl, hknb, hkc, hout, hcall⟩ := hF.read hJ
        have HX6 := Lib.hid (fun (X : World) (h : Below w.heap.size w X) => (show X.cell? ⟨pb, po, none⟩ = some (.int .i64 x) ∧ X.cell? ⟨nb, no + 3, none⟩ = some (.slice ka kn kc) from ⟨(h.cell (World.block_lt_of_cell? _ _ px)).trans px, (h.cell (World.block_lt_of_cell? _ _ hkc)).trans hkc⟩))
        have hdc : w.cell? ⟨DB, 0, none⟩ = some (.func (.func 44) #[] #[.pointer (some ⟨DB, 0, none⟩), .pointer (some ⟨FB, 0, none⟩)]) := by rw [cell_of_row _ _ 0 _ _ _ hFB.down]; rfl
        have hpz : (0 : Int) < (1 : Int) := by omega
        by_cases hx0 : x < 0
        · have hd0 : decide (x < 0) = true := by simpa using hx0
          have hxt : (x < 0) = True := eq_true hx0
          have HE := Lib.hid (And.intro (hout x (Or.inl hx0)) hFB.sub)
          clear ih hM hFB hp hJ hn hpc px hkc hout hcall hx0
          go_enter Try.func44, Try.ntmps44
          go_wp2_with fail
          refine wp_region_quiet (C := fun X => Below w.heap.size w X) (by kernel_rfl) (by kernel_rfl) (below_drewN (Below.refl _ w) 1) ?_
          refine quiet_open (fun QQ hQQ => ?_)
          have HQQ := Lib.hid hQQ
          clear hQQ
          with_reducible refine wpQuiet_step ?_
          intro K hK
          rw [if_pos (by rfl)]
          refine ⟨.slice (some ⟨pb, po, none⟩) 1 pc, fun X hX => ?_, hK _ ?_⟩
          · clear hK; go_simp
          clear hK K
          simp only [Act.put, List.setIfInBounds_toArray, List.set_cons_zero, List.set_cons_succ]
          with_reducible refine wpQuiet_step ?_
          intro K hK
          rw [if_pos (by rfl)]
          refine ⟨.pointer (some ⟨pb, po, none⟩), fun X hX => ?_, hK _ ?_⟩
          · clear hK; go_simp
          clear hK K
          simp only [Act.put, List.setIfInBounds_toArray, List.set_cons_zero, List.set_cons_succ]
          with_reducible refine wpQuiet_step ?_
          intro K hK
          rw [if_pos (by rfl)]
          refine ⟨.int .i64 x, fun X hX => ?_, hK _ ?_⟩
          · clear hK; obtain ⟨s0, s1⟩ := HX6.out X hX; go_simp
          clear hK K
          simp only [Act.put, List.setIfInBounds_toArray, List.set_cons_zero, List.set_cons_succ]
          with_reducible refine wpQuiet_step ?_
          intro K hK
          rw [if_pos (by rfl)]
          refine ⟨.bool true, fun X hX => ?_, hK _ ?_⟩
          · clear hK; go_simp
          clear hK K
          simp only [Act.put, List.setIfInBounds_toArray, List.set_cons_zero, List.set_cons_succ]
          with_reducible refine wpQuiet_step ?_
          intro K hK
          rw [if_pos (by rfl)]
          refine ⟨.bool true, fun X hX => ?_, hK _ ?_⟩
          · clear hK; go_simp
          clear hK K
          simp only [Act.put, List.setIfInBounds_toArray, List.set_cons_zero, List.set_cons_succ]
          with_reducible refine wpQuiet_step ?_
          intro K hK
          rw [if_neg (by exact Bool.false_ne_true)]
          with_reducible apply hK
          clear hK K
          simp only [Act.put, List.setIfInBounds_toArray, List.set_cons_zero, List.set_cons_succ]
          with_reducible refine wpQuiet_step ?_
          intro K hK
          rw [if_neg (by exact Bool.false_ne_true)]
          with_reducible apply hK
          clear hK K
          simp only [Act.put, List.setIfInBounds_toArray, List.set_cons_zero, List.set_cons_succ]
          with_reducible refine wpQuiet_step ?_
          intro K hK
          rw [if_neg (by exact Bool.false_ne_true)]
          with_reducible apply hK
          clear hK K
          simp only [Act.put, List.setIfInBounds_toArray, List.set_cons_zero, List.set_cons_succ]
          with_reducible refine wpQuiet_step ?_
          intro K hK
          rw [if_neg (by exact Bool.false_ne_true)]
          with_reducible apply hK
          clear hK K
          simp only [Act.put, List.setIfInBounds_toArray, List.set_cons_zero, List.set_cons_succ]
          with_reducible refine wpQuiet_step ?_
          intro K hK
          rw [if_neg (by exact Bool.false_ne_true)]
          with_reducible apply hK
          clear hK K
          simp only [Act.put, List.setIfInBounds_toArray, List.set_cons_zero, List.set_cons_succ]
          with_reducible refine wpQuiet_step ?_
          intro K hK
          rw [if_neg (by exact Bool.false_ne_true)]
          with_reducible apply hK
          clear hK K
          simp only [Act.put, List.setIfInBounds_toArray, List.set_cons_zero, List.set_cons_succ]
          with_reducible refine wpQuiet_step ?_
          intro K hK
          rw [if_neg (by exact Bool.false_ne_true)]
          with_reducible apply hK
          clear hK K
          simp only [Act.put, List.setIfInBounds_toArray, List.set_cons_zero, List.set_cons_succ]
          with_reducible refine wpQuiet_step ?_
          intro K hK
          rw [if_neg (by exact Bool.false_ne_true)]
          with_reducible apply hK
          clear hK K
          simp only [Act.put, List.setIfInBounds_toArray, List.set_cons_zero, List.set_cons_succ]
          with_reducible refine wpQuiet_step ?_
          intro K hK
          rw [if_neg (by exact Bool.false_ne_true)]
          with_reducible apply hK
          clear hK K
          simp only [Act.put, List.setIfInBounds_toArray, List.set_cons_zero, List.set_cons_succ]
          with_reducible refine wpQuiet_step ?_
          intro K hK
          rw [if_pos (by rfl)]
          refine ⟨.bool true, fun X hX => ?_, hK _ ?_⟩
          · clear hK; go_simp
          clear hK K
          simp only [Act.put, List.setIfInBounds_toArray, List.set_cons_zero, List.set_cons_succ]
          with_reducible refine wpQuiet_step ?_
          intro K hK
          rw [if_pos (by rfl)]
          refine ⟨.bool true, fun X hX => ?_, hK _ ?_⟩
          · clear hK; go_simp
          clear hK K
          simp only [Act.put, List.setIfInBounds_toArray, List.set_cons_zero, List.set_cons_succ]
          refine wpQuiet_nil (HQQ.out _ ?_)
          clear HQQ
          intro V hV
          have HV := Lib.hid hV
          clear hV
          go_wp2_with fail
          go_ret
          exact ⟨none, rfl, hF.turn HE.out.1 HV.out, FolK.of_below HE.out.2 HV.out⟩
        · have hd0 : decide (x < 0) = false := by simpa using hx0
          by_cases hxm : (kn : Int) ≤ x
          · have HE := Lib.hid (And.intro (hout x (Or.inr hxm)) hFB.sub)
            clear ih hM hFB hp hJ hn hpc px hkc hout hcall
            go_enter Try.func44, Try.ntmps44
            go_wp2_with fail
            refine wp_region_quiet (C := fun X => Below w.heap.size w X) (by kernel_rfl) (by kernel_rfl) (below_drewN (Below.refl _ w) 1) ?_
            refine quiet_open (fun QQ hQQ => ?_)
            have HQQ := Lib.hid hQQ
            clear hQQ
            with_reducible refine wpQuiet_step ?_
            intro K hK
            rw [if_pos (by rfl)]
            refine ⟨.slice (some ⟨pb, po, none⟩) 1 pc, fun X hX => ?_, hK _ ?_⟩
            · clear hK; go_simp
            clear hK K
            simp only [Act.put, List.setIfInBounds_toArray, List.set_cons_zero, List.set_cons_succ]
            with_reducible refine wpQuiet_step ?_
            intro K hK
            rw [if_pos (by rfl)]
            refine ⟨.pointer (some ⟨pb, po, none⟩), fun X hX => ?_, hK _ ?_⟩
            · clear hK; go_simp
            clear hK K
            simp only [Act.put, List.setIfInBounds_toArray, List.set_cons_zero, List.set_cons_succ]
            with_reducible refine wpQuiet_step ?_
            intro K hK
            rw [if_pos (by rfl)]
            refine ⟨.int .i64 x, fun X hX => ?_, hK _ ?_⟩
            · clear hK; obtain ⟨s0, s1⟩ := HX6.out X hX; go_simp
            clear hK K
            simp only [Act.put, List.setIfInBounds_toArray, List.set_cons_zero, List.set_cons_succ]
            with_reducible refine wpQuiet_step ?_
            intro K hK
            rw [if_pos (by rfl)]
            refine ⟨.bool false, fun X hX => ?_, hK _ ?_⟩
            · clear hK; go_simp
            clear hK K
            simp only [Act.put, List.setIfInBounds_toArray, List.set_cons_zero, List.set_cons_succ]
            with_reducible refine wpQuiet_step ?_
            intro K hK
            rw [if_pos (by rfl)]
            refine ⟨.bool false, fun X hX => ?_, hK _ ?_⟩
            · clear hK; go_simp
            clear hK K
            simp only [Act.put, List.setIfInBounds_toArray, List.set_cons_zero, List.set_cons_succ]
            with_reducible refine wpQuiet_step ?_
            intro K hK
            rw [if_pos (by rfl)]
            refine ⟨.slice (some ⟨pb, po, none⟩) 1 pc, fun X hX => ?_, hK _ ?_⟩
            · clear hK; go_simp
            clear hK K
            simp only [Act.put, List.setIfInBounds_toArray, List.set_cons_zero, List.set_cons_succ]
            with_reducible refine wpQuiet_step ?_
            intro K hK
            rw [if_pos (by rfl)]
            refine ⟨.pointer (some ⟨pb, po, none⟩), fun X hX => ?_, hK _ ?_⟩
            · clear hK; go_simp
            clear hK K
            simp only [Act.put, List.setIfInBounds_toArray, List.set_cons_zero, List.set_cons_succ]
            with_reducible refine wpQuiet_step ?_
            intro K hK
            rw [if_pos (by rfl)]
            refine ⟨.int .i64 x, fun X hX => ?_, hK _ ?_⟩
            · clear hK; obtain ⟨s0, s1⟩ := HX6.out X hX; go_simp
            clear hK K
            simp only [Act.put, List.setIfInBounds_toArray, List.set_cons_zero, List.set_cons_succ]
            with_reducible refine wpQuiet_step ?_
            intro K hK
            rw [if_pos (by rfl)]
            refine ⟨.pointer (some ⟨nb, no, none⟩), fun X hX => ?_, hK _ ?_⟩
            · clear hK; go_simp
            clear hK K
            simp only [Act.put, List.setIfInBounds_toArray, List.set_cons_zero, List.set_cons_succ]
            with_reducible refine wpQuiet_step ?_
            intro K hK
            rw [if_pos (by rfl)]
            refine ⟨.pointer (some ⟨nb, no, none⟩), fun X hX => ?_, hK _ ?_⟩
            · clear hK; go_simp
            clear hK K
            simp only [Act.put, List.setIfInBounds_toArray, List.set_cons_zero, List.set_cons_succ]
            with_reducible refine wpQuiet_step ?_
            intro K hK
            rw [if_pos (by rfl)]
            refine ⟨.pointer (some ⟨nb, no + 3, none⟩), fun X hX => ?_, hK _ ?_⟩
            · clear hK; go_simp
            clear hK K
            simp only [Act.put, List.setIfInBounds_toArray, List.set_cons_zero, List.set_cons_succ]
            with_reducible refine wpQuiet_step ?_
            intro K hK
            rw [if_pos (by rfl)]
            refine ⟨.slice ka kn kc, fun X hX => ?_, hK _ ?_⟩
            · clear hK; obtain ⟨s0, s1⟩ := HX6.out X hX; go_simp
            clear hK K
            simp only [Act.put, List.setIfInBounds_toArray, List.set_cons_zero, List.set_cons_succ]
            with_reducible refine wpQuiet_step ?_
            intro K hK
            rw [if_pos (by rfl)]
            refine ⟨.int .i64 (kn : Int), fun X hX => ?_, hK _ ?_⟩
            · clear hK; go_simp
            clear hK K
            simp only [Act.put, List.setIfInBounds_toArray, List.set_cons_zero, List.set_cons_succ]
            with_reducible refine wpQuiet_step ?_
            intro K hK
            rw [if_pos (by rfl)]
            refine ⟨.bool true, fun X hX => ?_, hK _ ?_⟩
            · clear hK; go_simp
            clear hK K
            simp only [Act.put, List.setIfInBounds_toArray, List.set_cons_zero, List.set_cons_succ]
            with_reducible refine wpQuiet_step ?_
            intro K hK
            rw [if_pos (by rfl)]
            refine ⟨.bool true, fun X hX => ?_, hK _ ?_⟩
            · clear hK; go_simp
            clear hK K
            simp only [Act.put, List.setIfInBounds_toArray, List.set_cons_zero, List.set_cons_succ]
            with_reducible refine wpQuiet_step ?_
            intro K hK
            rw [if_pos (by rfl)]
            refine ⟨.bool true, fun X hX => ?_, hK _ ?_⟩
            · clear hK; go_simp
            clear hK K
            simp only [Act.put, List.setIfInBounds_toArray, List.set_cons_zero, List.set_cons_succ]
            refine wpQuiet_nil (HQQ.out _ ?_)
            clear HQQ
            intro V hV
            have HV := Lib.hid hV
            clear hV
            go_wp2_with fail
            go_ret
            exact ⟨none, rfl, hF.turn HE.out.1 HV.out, FolK.of_below HE.out.2 HV.out⟩
          · obtain ⟨j, rfl⟩ : ∃ j : Nat, x = (j : Int) := ⟨x.toNat, by omega⟩
            have HE := Lib.hid (And.intro hF (And.intro hJ (And.intro hFB (And.intro hpb (show j < kn by omega)))))
            have HPX := Lib.hid px
            clear ih hM hFB hp hJ hn hpc px hkc hout hcall hd0
            have hxg : ¬ (kn : Int) ≤ (j : Int) := hxm
            have hj0 : ¬ (j : Int) < 0 := by omega
            go_enter Try.func44, Try.ntmps44
            go_wp2_with fail
            refine wp_region_quiet (C := fun X => Below w.heap.size w X) (by kernel_rfl) (by kernel_rfl) (below_drewN (Below.refl _ w) 1) ?_
            refine quiet_open (fun QQ hQQ => ?_)
            have HQQ := Lib.hid hQQ
            clear hQQ
            with_reducible refine wpQuiet_step ?_
            intro K hK
            rw [if_pos (by rfl)]
            refine ⟨.slice (some ⟨pb, po, none⟩) 1 pc, fun X hX => ?_, hK _ ?_⟩
            · clear hK; go_simp
            clear hK K
            simp only [Act.put, List.setIfInBounds_toArray, List.set_cons_zero, List.set_cons_succ]
            with_reducible refine wpQuiet_step ?_
            intro K hK
            rw [if_pos (by rfl)]
            refine ⟨.pointer (some ⟨pb, po, none⟩), fun X hX => ?_, hK _ ?_⟩
            · clear hK; go_simp
            clear hK K
            simp only [Act.put, List.setIfInBounds_toArray, List.set_cons_zero, List.set_cons_succ]
            with_reducible refine wpQuiet_step ?_
            intro K hK
            rw [if_pos (by rfl)]
            refine ⟨.int .i64 (j : Int), fun X hX => ?_, hK _ ?_⟩
            · clear hK; obtain ⟨s0, s1⟩ := HX6.out X hX; go_simp
            clear hK K
            simp only [Act.put, List.setIfInBounds_toArray, List.set_cons_zero, List.set_cons_succ]
            with_reducible refine wpQuiet_step ?_
            intro K hK
            rw [if_pos (by rfl)]
            refine ⟨.bool false, fun X hX => ?_, hK _ ?_⟩
            · clear hK; go_simp
            clear hK K
            simp only [Act.put, List.setIfInBounds_toArray, List.set_cons_zero, List.set_cons_succ]
            with_reducible refine wpQuiet_step ?_
            intro K hK
            rw [if_pos (by rfl)]
            refine ⟨.bool false, fun X hX => ?_, hK _ ?_⟩
            · clear hK; go_simp
            clear hK K
            simp only [Act.put, List.setIfInBounds_toArray, List.set_cons_zero, List.set_cons_succ]
            with_reducible refine wpQuiet_step ?_
            intro K hK
            rw [if_pos (by rfl)]
            refine ⟨.slice (some ⟨pb, po, none⟩) 1 pc, fun X hX => ?_, hK _ ?_⟩
            · clear hK; go_simp
            clear hK K
            simp only [Act.put, List.setIfInBounds_toArray, List.set_cons_zero, List.set_cons_succ]
            with_reducible refine wpQuiet_step ?_
            intro K hK
            rw [if_pos (by rfl)]
            refine ⟨.pointer (some ⟨pb, po, none⟩), fun X hX => ?_, hK _ ?_⟩
            · clear hK; go_simp
            clear hK K
            simp only [Act.put, List.setIfInBounds_toArray, List.set_cons_zero, List.set_cons_succ]
            with_reducible refine wpQuiet_step ?_
            intro K hK
            rw [if_pos (by rfl)]
            refine ⟨.int .i64 (j : Int), fun X hX => ?_, hK _ ?_⟩
            · clear hK; obtain ⟨s0, s1⟩ := HX6.out X hX; go_simp
            clear hK K
            simp only [Act.put, List.setIfInBounds_toArray, List.set_cons_zero, List.set_cons_succ]
            with_reducible refine wpQuiet_step ?_
            intro K hK
            rw [if_pos (by rfl)]
            refine ⟨.pointer (some ⟨nb, no, none⟩), fun X hX => ?_, hK _ ?_⟩
            · clear hK; go_simp
            clear hK K
            simp only [Act.put, List.setIfInBounds_toArray, List.set_cons_zero, List.set_cons_succ]
            with_reducible refine wpQuiet_step ?_
            intro K hK
            rw [if_pos (by rfl)]
            refine ⟨.pointer (some ⟨nb, no, none⟩), fun X hX => ?_, hK _ ?_⟩
            · clear hK; go_simp
            clear hK K
            simp only [Act.put, List.setIfInBounds_toArray, List.set_cons_zero, List.set_cons_succ]
            with_reducible refine wpQuiet_step ?_
            intro K hK
            rw [if_pos (by rfl)]
            refine ⟨.pointer (some ⟨nb, no + 3, none⟩), fun X hX => ?_, hK _ ?_⟩
            · clear hK; go_simp
            clear hK K
            simp only [Act.put, List.setIfInBounds_toArray, List.set_cons_zero, List.set_cons_succ]
            with_reducible refine wpQuiet_step ?_
            intro K hK
            rw [if_pos (by rfl)]
            refine ⟨.slice ka kn kc, fun X hX => ?_, hK _ ?_⟩
            · clear hK; obtain ⟨s0, s1⟩ := HX6.out X hX; go_simp
            clear hK K
            simp only [Act.put, List.setIfInBounds_toArray, List.set_cons_zero, List.set_cons_succ]
            with_reducible refine wpQuiet_step ?_
            intro K hK
            rw [if_pos (by rfl)]
            refine ⟨.int .i64 (kn : Int), fun X hX => ?_, hK _ ?_⟩
            · clear hK; go_simp
            clear hK K
            simp only [Act.put, List.setIfInBounds_toArray, List.set_cons_zero, List.set_cons_succ]
            with_reducible refine wpQuiet_step ?_
            intro K hK
            rw [if_pos (by rfl)]
            refine ⟨.bool false, fun X hX => ?_, hK _ ?_⟩
            · clear hK; go_simp; omega
            clear hK K
            simp only [Act.put, List.setIfInBounds_toArray, List.set_cons_zero, List.set_cons_succ]
            with_reducible refine wpQuiet_step ?_
            intro K hK
            rw [if_pos (by rfl)]
            refine ⟨.bool false, fun X hX => ?_, hK _ ?_⟩
            · clear hK; go_simp
            clear hK K
            simp only [Act.put, List.setIfInBounds_toArray, List.set_cons_zero, List.set_cons_succ]
            with_reducible refine wpQuiet_step ?_
            intro K hK
            rw [if_pos (by rfl)]
            refine ⟨.bool false, fun X hX => ?_, hK _ ?_⟩
            · clear hK; go_simp
            clear hK K
            simp only [Act.put, List.setIfInBounds_toArray, List.set_cons_zero, List.set_cons_succ]
            refine wpQuiet_nil (HQQ.out _ ?_)
            clear HQQ
            intro V hV
            obtain ⟨hFF, hJ, hFB, hpb, hjk⟩ := HE.out
            have hJV := hFF.turn hJ hV
            have hKV := FolK.of_below hFB.sub hV
            have hFBV := hFB.kept hKV
            obtain ⟨nb', no', ka', kn', kc', e1, _, hkc', _, hcall⟩ := hFF.read hJV
            cases e1
            have hk2 := (HX6.out V hV).2
            rw [hk2] at hkc'
            cases hkc'
            have hc := hcall j hjk
            have fb0 : V.cell? ⟨FB, 0, none⟩ = some (.func (.func lf) #[] #[]) := by rw [cell_of_row _ _ 0 _ _ _ hFBV.leave]; rfl
            have HCL := Lib.hid hc
            have pxV := (HX6.out V hV).1
            have HV := Lib.hid (And.intro hKV (And.intro pxV hpb))
            have hent := hF.enter
            clear hcall hc hk2 hJV hKV hFBV hJ hFB hFF pxV hV HX6
            go_wp2_with fail
            refine HCL.out.mono ?_
            rintro e w3 ⟨rfl, hk3, g, go, gc, c3, hj3⟩
            have px3 : w3.cell? ⟨pb, po, none⟩ = some (.int .i64 (j : Int)) := (World.cell?_of_block (hk3.2 pb HV.out.2.2)).trans HV.out.2.1
            have HX9 := Lib.hid (fun (X : World) (h : Below w3.heap.size w3 X) => (show X.cell? ⟨pb, po, none⟩ = some (.int .i64 (j : Int)) ∧ X.cell? ⟨nb, no + 3, none⟩ = some (.slice (some ⟨g, go, none⟩) kn gc) from ⟨(h.cell (World.block_lt_of_cell? _ _ px3)).trans px3, (h.cell (World.block_lt_of_cell? _ _ c3)).trans c3⟩))
            have H3 := Lib.hid (And.intro (HV.out.1.trans hk3) (And.intro hj3 (fun y hy => Nat.lt_of_lt_of_le (HE.out.2.2.1.sub y hy) (HV.out.1.trans hk3).1)))
            have hjl : (j : Int) < (kn : Int) := by omega
            have hj00 : (0 : Int) ≤ (j : Int) := by omega
            clear hk3 c3 hj3 px3 HCL fb0 hent
            go_wp2_with fail
            refine wp_region_quiet (C := fun X => Below w3.heap.size w3 X) (by kernel_rfl) (by kernel_rfl) (below_drewN (Below.refl _ w3) 1) ?_
            refine quiet_open (fun QQ hQQ => ?_)
            have HQQ := Lib.hid hQQ
            clear hQQ
            with_reducible refine wpQuiet_step ?_
            intro K hK
            rw [if_pos (by rfl)]
            refine ⟨.pointer (some ⟨nb, no, none⟩), fun X hX => ?_, hK _ ?_⟩
            · clear hK; go_simp
            clear hK K
            simp only [Act.put, List.setIfInBounds_toArray, List.set_cons_zero, List.set_cons_succ]
            with_reducible refine wpQuiet_step ?_
            intro K hK
            rw [if_pos (by rfl)]
            refine ⟨.pointer (some ⟨nb, no, none⟩), fun X hX => ?_, hK _ ?_⟩
            · clear hK; go_simp
            clear hK K
            simp only [Act.put, List.setIfInBounds_toArray, List.set_cons_zero, List.set_cons_succ]
            with_reducible refine wpQuiet_step ?_
            intro K hK
            rw [if_pos (by rfl)]
            refine ⟨.pointer (some ⟨nb, no + 3, none⟩), fun X hX => ?_, hK _ ?_⟩
            · clear hK; go_simp
            clear hK K
            simp only [Act.put, List.setIfInBounds_toArray, List.set_cons_zero, List.set_cons_succ]
            with_reducible refine wpQuiet_step ?_
            intro K hK
            rw [if_pos (by rfl)]
            refine ⟨.slice (some ⟨g, go, none⟩) kn gc, fun X hX => ?_, hK _ ?_⟩
            · clear hK; obtain ⟨s0, s1⟩ := HX9.out X hX; go_simp
            clear hK K
            simp only [Act.put, List.setIfInBounds_toArray, List.set_cons_zero, List.set_cons_succ]
            with_reducible refine wpQuiet_step ?_
            intro K hK
            rw [if_pos (by rfl)]
            refine ⟨.slice (some ⟨pb, po, none⟩) 1 pc, fun X hX => ?_, hK _ ?_⟩
            · clear hK; go_simp
            clear hK K
            simp only [Act.put, List.setIfInBounds_toArray, List.set_cons_zero, List.set_cons_succ]
            with_reducible refine wpQuiet_step ?_
            intro K hK
            rw [if_pos (by rfl)]
            refine ⟨.pointer (some ⟨pb, po, none⟩), fun X hX => ?_, hK _ ?_⟩
            · clear hK; go_simp
            clear hK K
            simp only [Act.put, List.setIfInBounds_toArray, List.set_cons_zero, List.set_cons_succ]
            with_reducible refine wpQuiet_step ?_
            intro K hK
            rw [if_pos (by rfl)]
            refine ⟨.int .i64 (j : Int), fun X hX => ?_, hK _ ?_⟩
            · clear hK; obtain ⟨s0, s1⟩ := HX9.out X hX; go_simp
            clear hK K
            simp only [Act.put, List.setIfInBounds_toArray, List.set_cons_zero, List.set_cons_succ]
            with_reducible refine wpQuiet_step ?_
            intro K hK
            rw [if_pos (by rfl)]
            refine ⟨.pointer (some ⟨g, go + j * 4, none⟩), fun X hX => ?_, hK _ ?_⟩
            · clear hK; go_simp
            clear hK K
            simp only [Act.put, List.setIfInBounds_toArray, List.set_cons_zero, List.set_cons_succ]
            with_reducible refine wpQuiet_step ?_
            intro K hK
            rw [if_pos (by rfl)]
            refine ⟨.pointer (some ⟨g, go + j * 4, none⟩), fun X hX => ?_, hK _ ?_⟩
            · clear hK; go_simp
            clear hK K
            simp only [Act.put, List.setIfInBounds_toArray, List.set_cons_zero, List.set_cons_succ]
            refine wpQuiet_nil (HQQ.out _ ?_)
            clear HQQ
            intro V hV
            have HV2 := Lib.hid hV
            clear hV
            go_wp2_with fail
            go_ret
            exact ⟨some ⟨g, go + j * 4, none⟩, rfl, hF.turn H3.out.2.1 HV2.out, H3.out.1.trans (FolK.of_below H3.out.2.2 HV2.out)⟩
      · obtain ⟨h, hh⟩ : ∃ h, h = n / 2 := ⟨_, rfl⟩
        have hh1 : 1 ≤ h := by omega
        have hh2 : h < n := by omega
        obtain ⟨la, hla⟩ : ∃ la, la = l.take h := ⟨_, rfl⟩
        obtain ⟨lb, hlb⟩ : ∃ lb, lb = l.drop h := ⟨_, rfl⟩
        have hlab : la ++ lb = l := by rw [hla, hlb]; exact List.take_append_drop h l
        have hll : la.length = h := by rw [hla, List.length_take]; omega
        have hlr : lb.length = n - h := by rw [hlb, List.length_drop]; omega
        have hpl : IntsL w KF (some ⟨pb, po, none⟩) pc l := ⟨hp.1, Or.inr ⟨pb, po, rfl, hpb, hpc⟩⟩
        have hpa : IntsL w KF (some ⟨pb, po, none⟩) h la := by rw [hla]; exact (IntsL.take hpl h).cap (by rw [List.length_take]; omega)
        have hpr : IntsL w KF (some ⟨pb, po + h, none⟩) (pc - h) lb := by rw [hlb]; exact hpl.drop h
        have hkept : ∀ {X : World} {pa : Option Addr} {c : Nat} {m : List Int}, FolK KF w X → IntsL w KF pa c m → IntsL X KF pa c m := fun hX hi => hi.kept fun y hy => ⟨hy, hX.2 y hy⟩
        have HIN : Hid (∀ X, FolK KF w X → J q (some ad) X → Calls Try.prog 44 #[.pointer (some ad), .slice (some ⟨pb, po, none⟩) h h, .pointer (some ⟨DB, 0, none⟩), .pointer (some ⟨FB, 0, none⟩)] X (FolC KF J (q ++ la) X)) := Lib.hid fun X hX hJX =>
          ih X q la (some ad) (some ⟨pb, po, none⟩) h h (by omega) hll.symm (by omega) (hFB.kept hX) (hkept hX hpa) hJX
        have HOUT : Hid (∀ X a1, FolK KF w X → J (q ++ la) a1 X → Calls Try.prog 44 #[.pointer a1, .slice (some ⟨pb, po + h, none⟩) (n - h) (pc - h), .pointer (some ⟨DB, 0, none⟩), .pointer (some ⟨FB, 0, none⟩)] X (FolC KF J (q ++ l) X)) := Lib.hid fun X a1 hX hJX => by
          have := ih X (q ++ la) lb a1 (some ⟨pb, po + h, none⟩) (n - h) (pc - h) (by omega) hlr.symm (by omega) (hFB.kept hX) (hkept hX hpr) hJX
          rw [List.append_assoc, hlab] at this
          exact this
        have hJd : J q (some ad) w.drew := hF.turn hJ (below_drewN (Below.refl _ w) 1)
        have HJ := Lib.hid hJd
        have dc : w.cell? ⟨DB, 0, none⟩ = some (.func (.func 44) #[] #[.pointer (some ⟨DB, 0, none⟩), .pointer (some ⟨FB, 0, none⟩)]) := by rw [cell_of_row _ _ 0 _ _ _ hFB.down]; rfl
        have HKF := Lib.hid (fun (X : World) (hX : FolK KF w X) => (show X.cell? ⟨DB, 0, none⟩ = some (.func (.func 44) #[] #[.pointer (some ⟨DB, 0, none⟩), .pointer (some ⟨FB, 0, none⟩)]) ∧ True from ⟨(World.cell?_of_block (hX.2 DB hFB.hd)).trans dc, trivial⟩))
        have hq : (n : Int).tdiv 2 = (h : Int) := by rw [hh]; exact (Int.ofNat_tdiv n 2).symm
        have hnz : ((n : Int) == 0) = false := by simp; omega
        have hn1i : (1 : Int) < (n : Int) := by omega
        have hh0 : (0 : Int) ≤ (h : Int) := by omega
        have hhn : (h : Int) ≤ (n : Int) := by omega
        have hhp : (h : Int) ≤ (pc : Int) := by omega
        have hpcne : ¬ pc = h := by omega
        have hhw : IntKind.i64.wrap (h : Int) = (h : Int) := IntWalk.i64_in _ (by omega)
        clear ih hM hFB hp hJ hn hpc hla hlb hlab hll hlr hpl hpa hpr hkept hJd dc hh hpb
        go_enter Try.func44, Try.ntmps44
        go_wp2_with fail
        refine wp_region_held_drew (S := FolK KF w) (by kernel_rfl) (FolK.drew (FolK.refl KF w)) (fun hHeld => ?_)
        refine wpAnyH_take (i := 0) (oi := _) (v := .func (.func 44) #[] #[.pointer (some ⟨DB, 0, none⟩), .pointer (some ⟨FB, 0, none⟩)]) rfl (by kernel_rfl) (by kernel_rfl) (by kernel_rfl) (fun _ _ _ h => h) (Or.inl ⟨by rfl, ?_⟩) (by assumption) ?_
        · clear hHeld; intro X hSw; obtain ⟨s0, s1⟩ := HKF.out X hSw; clear hSw; go_simp
        simp only [Act.put, List.getElem_toArray, List.getElem_cons_zero, List.getElem_cons_succ, List.setIfInBounds_toArray, List.set_cons_zero, List.set_cons_succ]
        refine wpAnyH_take (i := 1) (oi := _) (v := .func (.func 44) #[] #[.pointer (some ⟨DB, 0, none⟩), .pointer (some ⟨FB, 0, none⟩)]) rfl (by kernel_rfl) (by kernel_rfl) (by kernel_rfl) (fun _ _ _ h => h) (Or.inl ⟨by rfl, ?_⟩) (by assumption) ?_
        · clear hHeld; intro X hSw; obtain ⟨s0, s1⟩ := HKF.out X hSw; clear hSw; go_simp
        simp only [Act.put, List.getElem_toArray, List.getElem_cons_zero, List.getElem_cons_succ, List.setIfInBounds_toArray, List.set_cons_zero, List.set_cons_succ]
        refine wpAnyH_take (i := 2) (oi := _) (v := .pointer (some ad)) rfl (by kernel_rfl) (by kernel_rfl) (by kernel_rfl) (fun _ _ _ h => h) (Or.inl ⟨by rfl, ?_⟩) (by assumption) ?_
        · clear hHeld; intro X hSw; clear hSw; go_simp
        simp only [Act.put, List.getElem_toArray, List.getElem_cons_zero, List.getElem_cons_succ, List.setIfInBounds_toArray, List.set_cons_zero, List.set_cons_succ]
        refine wpAnyH_take (i := 3) (oi := _) (v := .slice (some ⟨pb, po, none⟩) n pc) rfl (by kernel_rfl) (by kernel_rfl) (by kernel_rfl) (fun _ _ _ h => h) (Or.inl ⟨by rfl, ?_⟩) (by assumption) ?_
        · clear hHeld; intro X hSw; clear hSw; go_simp
        simp only [Act.put, List.getElem_toArray, List.getElem_cons_zero, List.getElem_cons_succ, List.setIfInBounds_toArray, List.set_cons_zero, List.set_cons_succ]
        refine wpAnyH_take (i := 4) (oi := _) (v := .int .i64 (h : Int)) rfl (by kernel_rfl) (by kernel_rfl) (by kernel_rfl) (fun _ _ _ h => h) (Or.inl ⟨by rfl, ?_⟩) (by assumption) ?_
        · clear hHeld; intro X hSw; clear hSw; go_simp
        simp only [Act.put, List.getElem_toArray, List.getElem_cons_zero, List.getElem_cons_succ, List.setIfInBounds_toArray, List.set_cons_zero, List.set_cons_succ]
        refine wpAnyH_take (i := 5) (oi := _) (v := .int .i64 (h : Int)) rfl (by kernel_rfl) (by kernel_rfl) (by kernel_rfl) (fun _ _ _ h => h) (Or.inl ⟨by rfl, ?_⟩) (by assumption) ?_
        · clear hHeld; intro X hSw; clear hSw; go_simp
        simp only [Act.put, List.getElem_toArray, List.getElem_cons_zero, List.getElem_cons_succ, List.setIfInBounds_toArray, List.set_cons_zero, List.set_cons_succ]
        refine wpAnyH_take (i := 6) (oi := _) (v := .slice (some ⟨pb, po, none⟩) h h) rfl (by kernel_rfl) (by kernel_rfl) (by kernel_rfl) (fun _ _ _ h => h) (Or.inl ⟨by rfl, ?_⟩) (by assumption) ?_
        · clear hHeld; intro X hSw; clear hSw; go_simp
        simp only [Act.put, List.getElem_toArray, List.getElem_cons_zero, List.getElem_cons_succ, List.setIfInBounds_toArray, List.set_cons_zero, List.set_cons_succ]
        refine wpAnyH_take (i := 8) (oi := _) (v := .slice (some ⟨pb, po, none⟩) n pc) rfl (by kernel_rfl) (by kernel_rfl) (by kernel_rfl) (fun _ _ _ h => h) (Or.inl ⟨by rfl, ?_⟩) (by assumption) ?_
        · clear hHeld; intro X hSw; clear hSw; go_simp
        simp only [Act.put, List.getElem_toArray, List.getElem_cons_zero, List.getElem_cons_succ, List.setIfInBounds_toArray, List.set_cons_zero, List.set_cons_succ]
        refine wpAnyH_take (i := 9) (oi := _) (v := .int .i64 (h : Int)) rfl (by kernel_rfl) (by kernel_rfl) (by kernel_rfl) (fun _ _ _ h => h) (Or.inl ⟨by rfl, ?_⟩) (by assumption) ?_
        · clear hHeld; intro X hSw; clear hSw; go_simp
        simp only [Act.put, List.getElem_toArray, List.getElem_cons_zero, List.getElem_cons_succ, List.setIfInBounds_toArray, List.set_cons_zero, List.set_cons_succ]
        refine wpAnyH_take (i := 10) (oi := _) (v := .slice (some ⟨pb, po + h, none⟩) (n - h) (pc - h)) rfl (by kernel_rfl) (by kernel_rfl) (by kernel_rfl) (fun _ _ _ h => h) (Or.inl ⟨by rfl, ?_⟩) (by assumption) ?_
        · clear hHeld; intro X hSw; clear hSw; go_simp
        simp only [Act.put, List.getElem_toArray, List.getElem_cons_zero, List.getElem_cons_succ, List.setIfInBounds_toArray, List.set_cons_zero, List.set_cons_succ]
        refine wpAnyH_ready (rs := [7]) (by kernel_rfl) (by simp) ?_
        refine AllReadyH.cons (o := _) rfl (fun K hK => ?_) AllReadyH.nil
        rw [if_pos (by rfl)]
        simp only [List.getElem_toArray, List.getElem_cons_zero, List.getElem_cons_succ]
        have HK := Lib.hid hK
        have HS := Lib.hid hHeld
        clear hK hHeld
        go_wp2_with (go_at_call 44; refine (HIN.out _ HS.out HJ.out).mono ?_; rintro e y7 ⟨a1, rfl, hj1, hk1⟩; have H1 := Lib.hid (And.intro hj1 (HS.out.trans hk1)); clear hj1 hk1)
        refine HK.out _ _ H1.out.2 (fun hHeld => ?_)
        clear HK HS
        refine wpAnyH_ready (rs := [11]) (by kernel_rfl) (by simp) ?_
        refine AllReadyH.cons (o := _) rfl (fun K hK => ?_) AllReadyH.nil
        rw [if_pos (by rfl)]
        simp only [List.getElem_toArray, List.getElem_cons_zero, List.getElem_cons_succ]
        have HK := Lib.hid hK
        have HS := Lib.hid hHeld
        clear hK hHeld
        go_wp2_with (go_at_call 44; refine (HOUT.out _ a1 HS.out H1.out.1).mono ?_; rintro e y11 ⟨a2, rfl, hj2, hk2⟩; have H2 := Lib.hid (And.intro hj2 (HS.out.trans hk2)); clear hj2 hk2)
        refine HK.out _ _ H2.out.2 (fun hHeld => ?_)
        clear HK HS
        refine wpAnyH_take (i := 12) (oi := _) (v := .pointer a2) rfl (by kernel_rfl) (by kernel_rfl) (by kernel_rfl) (fun _ _ _ h => h) (Or.inl ⟨by rfl, ?_⟩) (by assumption) ?_
        · clear hHeld; intro X hSw; clear hSw; go_simp
        simp only [Act.put, List.getElem_toArray, List.getElem_cons_zero, List.getElem_cons_succ, List.setIfInBounds_toArray, List.set_cons_zero, List.set_cons_succ]
        refine wpAnyH_done (by kernel_rfl) ?_ _
        clear hHeld
        go_wp2_with fail
        go_ret
        exact ⟨a2, rfl, H2.out.1, H2.out.2⟩
end Go.Proofs.Ytjppibomjnmjpaa
