/-
  Trees that are not the same are not written the same, as texts or as bytes, and the same ones are. No condition but that their numbers are a machine's.
-/
import Derived.Test.YteccnekdmehloaaDoorEShow
import Derived.Test.YteccnekdmehloaaDoorCFwdN
namespace Go.Proofs.YteccnekdmehloaaDoor
open Go.RowKit Go.Shelf
set_option linter.unusedVariables false
set_option linter.unusedSimpArgs false

theorem span_eq {α : Type} (p : α → Prop) : ∀ (A B C D : List α), (∀ x ∈ A, p x) → (∀ x ∈ B, p x) → (∀ x, C.head? = some x → ¬ p x) → (∀ x, D.head? = some x → ¬ p x) → A ++ C = B ++ D → A = B ∧ C = D
  | [], [], C, D, _, _, _, _, h => ⟨rfl, h⟩
  | [], b :: B, C, D, _, hB, hC, _, h => by
    exfalso
    simp only [List.nil_append] at h
    exact hC b (by rw [h]; rfl) (hB b (List.mem_cons_self ..))
  | a :: A, [], C, D, hA, _, _, hD, h => by
    exfalso
    simp only [List.nil_append] at h
    exact hD a (by rw [← h]; rfl) (hA a (List.mem_cons_self ..))
  | a :: A, b :: B, C, D, hA, hB, hC, hD, h => by
    simp only [List.cons_append, List.cons.injEq] at h
    obtain ⟨rfl, h⟩ := h
    obtain ⟨e1, e2⟩ := span_eq p A B C D (fun x hx => hA x (List.mem_cons_of_mem _ hx)) (fun x hx => hB x (List.mem_cons_of_mem _ hx)) hC hD h
    exact ⟨by rw [e1], e2⟩
def decVal (l : List UInt8) : Nat := l.foldl (fun a u => a * 10 + (u.toNat - 48)) 0
theorem dec_val (n : Nat) : decVal (Lib.decDigits n) = n ∧ ∀ u ∈ Lib.decDigits n, 48 ≤ u.toNat ∧ u.toNat ≤ 57 := by
  induction n using Nat.strongRecOn with
  | ind n ih =>
    have hd : ∀ k, k < 10 → (UInt8.ofNat (48 + k)).toNat = 48 + k := fun k hk => by rw [UInt8.toNat_ofNat']; omega
    rw [Lib.decDigits]
    split
    · rename_i h
      refine ⟨by simp only [decVal, List.foldl_cons, List.foldl_nil]; rw [hd n h]; omega, fun u hu => ?_⟩
      simp only [List.mem_cons, List.not_mem_nil, or_false] at hu
      rw [hu, hd n h]; omega
    · obtain ⟨i1, i2⟩ := ih (n / 10) (by omega)
      have hm := hd (n % 10) (by omega)
      refine ⟨?_, fun u hu => ?_⟩
      · unfold decVal at i1 ⊢
        rw [List.foldl_append, i1]
        simp only [List.foldl_cons, List.foldl_nil]
        rw [hm]; omega
      · rcases List.mem_append.1 hu with hu | hu
        · exact i2 u hu
        · simp only [List.mem_cons, List.not_mem_nil, or_false] at hu
          rw [hu, hm]; omega
/-- A sign or a digit. -/
def numB (u : UInt8) : Prop := u.toNat = 45 ∨ (48 ≤ u.toNat ∧ u.toNat ≤ 57)
theorem itoa_numB (n : Int) : ∀ u ∈ Lib.itoa n, numB u := fun u hu => by
  unfold Lib.itoa at hu
  split at hu
  · rcases List.mem_cons.1 hu with rfl | hu
    · exact Or.inl rfl
    · exact Or.inr ((dec_val _).2 u hu)
  · exact Or.inr ((dec_val _).2 u hu)
theorem itoa_inj {a b : Int} (h : Lib.itoa a = Lib.itoa b) : a = b := by
  have key : ∀ m k : Nat, 45 :: Lib.decDigits m ≠ Lib.decDigits k := fun m k e => by
    have := (dec_val k).2 45 (by rw [← e]; exact List.mem_cons_self ..)
    have h45 : (45 : UInt8).toNat = 45 := rfl
    omega
  unfold Lib.itoa at h
  split at h <;> split at h
  · have := congrArg decVal (List.cons.inj h).2
    rw [(dec_val _).1, (dec_val _).1] at this
    omega
  · exact absurd h (key _ _)
  · exact absurd h.symm (key _ _)
  · have := congrArg decVal h
    rw [(dec_val _).1, (dec_val _).1] at this
    omega
theorem esc_inj : ∀ (a b r r' : List UInt8), a.flatMap escB ++ 34 :: r = b.flatMap escB ++ 34 :: r' → a = b ∧ r = r'
  | [], [], r, r', h => by simp at h; exact ⟨rfl, h⟩
  | [], v :: b, r, r', h => by
    exfalso
    simp only [List.flatMap_nil, List.nil_append, List.flatMap_cons, List.append_assoc, escB] at h
    split at h
    · simp at h
    · rename_i hv
      simp only [List.cons_append, List.nil_append, List.cons.injEq] at h
      exact hv (Or.inl h.1.symm)
  | u :: a, [], r, r', h => by
    exfalso
    simp only [List.flatMap_nil, List.nil_append, List.flatMap_cons, List.append_assoc, escB] at h
    split at h
    · simp at h
    · rename_i hv
      simp only [List.cons_append, List.nil_append, List.cons.injEq] at h
      exact hv (Or.inl h.1)
  | u :: a, v :: b, r, r', h => by
    simp only [List.flatMap_cons, List.append_assoc, escB] at h
    split at h <;> split at h
    · simp only [List.cons_append, List.nil_append, List.cons.injEq, true_and] at h
      obtain ⟨e1, e2⟩ := esc_inj a b r r' h.2
      exact ⟨by rw [h.1, e1], e2⟩
    · rename_i hv
      simp only [List.cons_append, List.nil_append, List.cons.injEq] at h
      exact absurd (Or.inr h.1.symm) hv
    · rename_i hu hv
      simp only [List.cons_append, List.nil_append, List.cons.injEq] at h
      exact absurd (Or.inr h.1) hu
    · simp only [List.cons_append, List.nil_append, List.cons.injEq] at h
      obtain ⟨e1, e2⟩ := esc_inj a b r r' h.2
      exact ⟨by rw [h.1, e1], e2⟩
theorem textL_inj (s s' : ByteArray) (R R' : List UInt8) (hR : R.head? ≠ some 34) (hR' : R'.head? ≠ some 34) (h : textL s ++ R = textL s' ++ R') : s = s' ∧ R = R' := by
  unfold textL at h
  split at h <;> split at h
  · rename_i h1 h2
    exact ⟨by rw [h1, h2], by simpa using h⟩
  · exfalso
    simp only [List.nil_append, quoL, List.cons_append] at h
    exact hR (by rw [h]; rfl)
  · exfalso
    simp only [List.nil_append, quoL, List.cons_append] at h
    exact hR' (by rw [← h]; rfl)
  · simp only [quoL, List.cons_append, List.append_assoc, List.nil_append, List.cons.injEq, true_and] at h
    obtain ⟨e1, e2⟩ := esc_inj _ _ _ _ h
    exact ⟨Go.WideShapes.bytes_inj e1, e2⟩
theorem closeL_mem : ∀ (n : Nat), ∀ u ∈ closeL n, u = 41 := fun n => by
  unfold closeL
  induction n with
  | zero => intro u hu; simp [Lib.repeatL] at hu
  | succ n ih =>
    intro u hu
    simp only [Lib.repeatL, List.mem_append, List.mem_cons, List.not_mem_nil, or_false] at hu
    rcases hu with hu | hu
    · exact hu
    · exact ih u hu
/-- What may stand behind a node. -/
def Behind (R : List UInt8) : Prop := ∀ u, R.head? = some u → u = 40 ∨ u = 41 ∨ u = 44
theorem Behind.no34 {R : List UInt8} (h : Behind R) : R.head? ≠ some 34 := fun e => by
  have := h 34 e
  revert this; decide
theorem head_append {α : Type} {A B : List α} {u : α} (h : (A ++ B).head? = some u) : A.head? = some u ∨ (A = [] ∧ B.head? = some u) := by
  cases A with
  | nil => exact Or.inr ⟨rfl, by simpa using h⟩
  | cons a A => exact Or.inl (by simpa using h)
theorem closeL_head (n : Nat) (R : List UInt8) (hR : Behind R) : Behind (closeL n ++ R) := fun u hu => by
  rcases head_append hu with h | ⟨_, h⟩
  · exact Or.inr (Or.inl (closeL_mem n u (List.mem_of_head? h)))
  · exact hR u h
theorem betwL_head (a d : Nat) (ha : 1 ≤ a) (R : List UInt8) : Behind (betwL a d ++ R) := fun u hu => by
  unfold betwL at hu
  rw [if_neg (show ¬ a = 0 by omega)] at hu
  split at hu
  · simp at hu; exact Or.inl hu.symm
  · rw [List.append_assoc] at hu
    exact closeL_head _ _ (fun v hv => by simp at hv; exact Or.inr (Or.inr hv.symm)) u hu
theorem behind_show : ∀ (l : List Sp) (a m : Nat), 1 ≤ a → Behind (showL a l ++ closeL m)
  | [], a, m, _ => by
    have := closeL_head m [] (fun u hu => by simp at hu)
    simpa [showL] using this
  | x :: l, a, m, ha => by
    simp only [showL, pieceL, List.append_assoc]
    exact betwL_head a x.1 ha _
/-- One node's own part. -/
theorem node_inj (k k' : Int × Int × ByteArray) (R R' : List UInt8) (hR : Behind R) (hR' : Behind R') (h : headL k ++ (textL k.2.2 ++ R) = headL k' ++ (textL k'.2.2 ++ R')) : k = k' ∧ R = R' := by
  have n58 : ¬ numB 58 := by unfold numB; decide
  simp only [headL, List.append_assoc] at h
  obtain ⟨e1, h1⟩ := span_eq numB _ _ _ _ (itoa_numB k.1) (itoa_numB k'.1) (fun u hu => by simp at hu; rw [← hu]; exact n58) (fun u hu => by simp at hu; rw [← hu]; exact n58) h
  simp only [List.cons_append, List.nil_append, List.cons.injEq, true_and] at h1
  have stop : ∀ (s : ByteArray) (Q : List UInt8), Behind Q → ∀ u, (textL s ++ Q).head? = some u → ¬ numB u := fun s Q hQ u hu => by
    have hcase : u = 34 ∨ u = 40 ∨ u = 41 ∨ u = 44 := by
      rcases head_append hu with h | ⟨_, h⟩
      · unfold textL at h
        split at h
        · simp at h
        · simp only [quoL, List.head?_cons, Option.some.injEq] at h
          exact Or.inl h.symm
      · exact Or.inr (hQ u h)
    rcases hcase with rfl | rfl | rfl | rfl <;> (unfold numB; decide)
  obtain ⟨e2, h2⟩ := span_eq numB _ _ _ _ (itoa_numB k.2.1) (itoa_numB k'.2.1) (stop _ _ hR) (stop _ _ hR') h1
  obtain ⟨e3, h3⟩ := textL_inj _ _ _ _ hR.no34 hR'.no34 h2
  obtain ⟨a, b, c⟩ := k
  obtain ⟨a', b', c'⟩ := k'
  simp only at e1 e2 e3
  rw [itoa_inj e1, itoa_inj e2, e3]
  exact ⟨rfl, h3⟩
/-- Depths and nodes, in the walk. -/
def Kd (l : List Sp) : List (Nat × Int × Int × ByteArray) := l.map fun x => (x.1, x.2.1)
def StepsOk : Nat → List Sp → Prop
  | _, [] => True
  | a, x :: l => 1 ≤ x.1 ∧ x.1 ≤ a + 1 ∧ StepsOk x.1 l
theorem show_inj : ∀ (l l' : List Sp) (a m m' : Nat), 1 ≤ a → StepsOk a l → StepsOk a l' → showL a l ++ closeL m = showL a l' ++ closeL m' → Kd l = Kd l'
  | [], [], _, _, _, _, _, _, _ => rfl
  | [], y :: l', a, m, m', ha, _, _, h => by
    exfalso
    have : (58 : UInt8) ∈ closeL m := by
      have h2 : closeL m = showL a (y :: l') ++ closeL m' := by simpa [showL] using h
      rw [h2]; simp [showL, pieceL, headL]
    have := closeL_mem m _ this
    revert this; decide
  | x :: l, [], a, m, m', ha, _, _, h => by
    exfalso
    have : (58 : UInt8) ∈ closeL m' := by
      have h2 : closeL m' = showL a (x :: l) ++ closeL m := by simpa [showL] using h.symm
      rw [h2]; simp [showL, pieceL, headL]
    have := closeL_mem m' _ this
    revert this; decide
  | x :: l, y :: l', a, m, m', ha, hx, hy, h => by
    simp only [showL, pieceL, List.append_assoc] at h
    have hb : x.1 = y.1 ∧ headL x.2.1 ++ (textL x.2.1.2.2 ++ (showL x.1 l ++ closeL m)) = headL y.2.1 ++ (textL y.2.1.2.2 ++ (showL y.1 l' ++ closeL m')) := by
      have hx1 := hx.2.1
      have hy1 := hy.2.1
      unfold betwL at h
      have ha0 : ¬ a = 0 := by omega
      simp only [ha0, if_false] at h
      have no : ∀ (n : Nat) (Q Q' : List UInt8), [40] ++ Q = closeL n ++ [44] ++ Q' → False := fun n Q Q' e => by
        have h9 := congrArg List.head? e
        rw [List.append_assoc] at h9
        have h8 := closeL_head n ([44] ++ Q') (fun v hv => by simp at hv; exact Or.inr (Or.inr hv.symm))
        cases n with
        | zero =>
          have : closeL 0 = [] := rfl
          rw [this] at h9; simp at h9
        | succ n =>
          have : ∃ r, closeL (n + 1) = 41 :: r := ⟨Lib.repeatL [41] n, rfl⟩
          obtain ⟨r, hr⟩ := this
          rw [hr] at h9; simp at h9
      split at h <;> split at h
      · simp only [List.cons_append, List.nil_append, List.cons.injEq, true_and] at h
        exact ⟨by omega, h⟩
      · exact (no _ _ _ h).elim
      · exact (no _ _ _ h.symm).elim
      · simp only [List.append_assoc, List.cons_append, List.nil_append] at h
        obtain ⟨e1, e2⟩ := span_eq (fun u : UInt8 => u = 41) _ _ _ _ (closeL_mem _) (closeL_mem _) (fun u hu => by simp at hu; rw [← hu]; decide) (fun u hu => by simp at hu; rw [← hu]; decide) h
        have := congrArg List.length e1
        rw [closeL_length, closeL_length] at this
        simp only [List.cons.injEq, true_and] at e2
        exact ⟨by omega, e2⟩
    obtain ⟨e1, e2⟩ := hb
    obtain ⟨e3, e4⟩ := node_inj _ _ _ _ (behind_show l x.1 m hx.1) (behind_show l' y.1 m' hy.1) e2
    rw [← e1] at e4
    have := show_inj l l' x.1 m m' hx.1 hx.2.2 (by rw [e1]; exact hy.2.2) e4
    simp only [Kd, List.map_cons] at this ⊢
    rw [this, e1, e3]
theorem steps_sp : ∀ (f : Fo) (d a : Nat) (L : List Sp), 1 ≤ d → d ≤ a + 1 → StepsOk a L → (∀ b, d ≤ b → StepsOk b L) → StepsOk a (spF d f ++ L)
  | .nil, d, a, L, _, _, h, _ => by simpa [spF] using h
  | .node _ _ k l r, d, a, L, h1, h2, h3, h4 => by
    simp only [spF, List.cons_append, List.append_assoc]
    refine ⟨h1, h2, ?_⟩
    refine steps_sp l (d + 1) d _ (by omega) (by omega) ?_ (fun b hb => ?_)
    · exact steps_sp r d d L h1 (by omega) (h4 d (Nat.le_refl _)) h4
    · exact steps_sp r d b L h1 (by omega) (h4 b (by omega)) h4
theorem sameF_len : ∀ (f g : Fo), sameF f g = true → foLen f = foLen g
  | .nil, .nil, _ => rfl
  | .nil, .node _ _ _ _ _, h => by simp [sameF] at h
  | .node _ _ _ _ _, .nil, h => by simp [sameF] at h
  | .node _ _ a l r, .node _ _ a' l' r', h => by
    simp only [sameF, Bool.and_eq_true] at h
    simp only [foLen, sameF_len r r' h.2]
theorem sameK_iff (a b : Int × Int × ByteArray) : sameK a b = true ↔ a = b := by
  obtain ⟨a1, a2, a3⟩ := a
  obtain ⟨b1, b2, b3⟩ := b
  unfold sameK
  rw [decide_eq_true_iff]
  constructor
  · rintro ⟨h1, h2, h3⟩
    simp only at h1 h2 h3
    rw [ByteArray.toList_eq, ByteArray.toList_eq] at h3
    rw [h1, h2, Go.WideShapes.bytes_inj h3]
  · intro h
    cases h
    exact ⟨rfl, rfl, rfl⟩
theorem kd_same : ∀ (f g : Fo) (d : Nat), Kd (spF d f) = Kd (spF d g) → sameF f g = true
  | .nil, .nil, _, _ => rfl
  | .nil, .node _ _ _ _ _, _, h => by simp [Kd, spF] at h
  | .node _ _ _ _ _, .nil, _, h => by simp [Kd, spF] at h
  | .node _ _ k l r, .node _ _ k' l' r', d, h => by
    simp only [Kd, spF, List.map_cons, List.map_append, List.cons.injEq, Prod.mk.injEq, true_and] at h
    have hin : ∀ (f : Fo) (x : Nat × Int × Int × ByteArray), x ∈ Kd (spF (d + 1) f) → d + 1 ≤ x.1 := fun f x hx => by
      simp only [Kd, List.mem_map] at hx
      obtain ⟨y, hy, rfl⟩ := hx
      exact (spF_depth (d + 1) f y hy).1
    have hh : ∀ (f : Fo) (x : Nat × Int × Int × ByteArray), (Kd (spF d f)).head? = some x → ¬ d + 1 ≤ x.1 := fun f x hx => by
      cases f with
      | nil => simp [Kd, spF] at hx
      | node _ _ _ _ _ => simp [Kd, spF] at hx; rw [← hx]; simp
    obtain ⟨e1, e2⟩ := span_eq (fun x : Nat × Int × Int × ByteArray => d + 1 ≤ x.1) _ _ _ _ (hin l) (hin l') (hh r) (hh r') h.2
    have s1 := kd_same l l' (d + 1) e1
    have s2 := kd_same r r' d e2
    have hk : sameK k k' = true := (sameK_iff k k').2 h.1
    simp only [sameF, hk, s1, s2, sameF_len l l' s1, decide_true, Bool.and_true]
theorem same_kd : ∀ (f g : Fo) (d : Nat), sameF f g = true → Kd (spF d f) = Kd (spF d g)
  | .nil, .nil, _, _ => rfl
  | .nil, .node _ _ _ _ _, _, h => by simp [sameF] at h
  | .node _ _ _ _ _, .nil, _, h => by simp [sameF] at h
  | .node _ _ k l r, .node _ _ k' l' r', d, h => by
    simp only [sameF, Bool.and_eq_true] at h
    have h1 := same_kd l l' (d + 1) h.1.2.2
    have h2 := same_kd r r' d h.2
    have hk := (sameK_iff k k').1 h.1.1
    simp only [Kd] at h1 h2
    simp only [Kd, spF, List.map_cons, List.map_append, h1, h2, hk]
theorem showL_kd : ∀ (l l' : List Sp) (a : Nat), Kd l = Kd l' → showL a l = showL a l' ∧ lastD a l = lastD a l'
  | [], [], _, _ => ⟨rfl, rfl⟩
  | [], _ :: _, _, h => by simp [Kd] at h
  | _ :: _, [], _, h => by simp [Kd] at h
  | x :: l, y :: l', a, h => by
    simp only [Kd, List.map_cons, List.cons.injEq, Prod.mk.injEq] at h
    obtain ⟨⟨e1, e2⟩, h3⟩ := h
    obtain ⟨i1, i2⟩ := showL_kd l l' x.1 h3
    rw [e1] at i1 i2
    constructor
    · simp only [showL, pieceL, e1, e2, i1]
    · simp only [lastD, e1, i2]
theorem sameT_root (t u : Tr) : sameT t u = sameF (rootF t) (rootF u) := by simp [sameT, rootF, sameF]
/-- Two trees are the same just if they are shown the same. -/
theorem show_same (t u : Tr) : sameT t u = decide (showT t = showT u) := by
  rw [sameT_root]
  by_cases h : sameF (rootF t) (rootF u) = true
  · have hk := same_kd _ _ 1 h
    obtain ⟨e1, e2⟩ := showL_kd _ _ 0 hk
    rw [h, decide_eq_true]
    unfold showT
    rw [e1, e2]
  · have hn : ¬ showT t = showT u := fun e => h (by
      refine kd_same _ _ 1 ?_
      have e0 : ∀ t : Tr, spF 1 (rootF t) = (1, (t.id, t.kind, t.text), t.kids) :: spF 2 t.kids := fun t => by simp [rootF, spF]
      have s0 : ∀ t : Tr, StepsOk 1 (spF 2 t.kids) := fun t => by
        have := steps_sp t.kids 2 1 [] (by omega) (by omega) True.intro (fun _ _ => True.intro)
        simpa using this
      unfold showT at e
      obtain ⟨m, hm⟩ : ∃ m, m = lastD 0 (spF 1 (rootF t)) - 1 := ⟨_, rfl⟩
      obtain ⟨m', hm'⟩ : ∃ m, m = lastD 0 (spF 1 (rootF u)) - 1 := ⟨_, rfl⟩
      rw [← hm, ← hm', e0, e0] at e
      simp only [showL, pieceL, List.append_assoc] at e
      have b0 : ∀ d, betwL 0 d = [] := fun d => rfl
      rw [b0, List.nil_append, List.nil_append] at e
      obtain ⟨e3, e4⟩ := node_inj _ _ _ _ (behind_show _ 1 m (Nat.le_refl _)) (behind_show _ 1 m' (Nat.le_refl _)) e
      have e5 := show_inj _ _ 1 m m' (Nat.le_refl _) (s0 t) (s0 u) e4
      rw [e0, e0]
      simp only [Kd, List.map_cons] at e5 ⊢
      rw [e5, e3])
    rw [decide_eq_false hn]
    simpa using h
-- BYTES
theorem num8_inj {a b : Int} (ha : inI64 a) (hb : inI64 b) (h : num8 a = num8 b) : a = b := by
  rw [← numOf_num8 a ha.1 ha.2, h, numOf_num8 b hb.1 hb.2]
theorem encK_inj {k k' : Int × Int × ByteArray} {n n' : Nat} {R R' : List UInt8} (hk : inI64 k.1 ∧ inI64 k.2.1 ∧ k.2.2.size ≤ 9223372036854775807 ∧ n ≤ 9223372036854775807) (hk' : inI64 k'.1 ∧ inI64 k'.2.1 ∧ k'.2.2.size ≤ 9223372036854775807 ∧ n' ≤ 9223372036854775807) (h : encK k n ++ R = encK k' n' ++ R') : k = k' ∧ n = n' ∧ R = R' := by
  obtain ⟨i1, i2, i3, i4⟩ := hk
  obtain ⟨j1, j2, j3, j4⟩ := hk'
  obtain ⟨a, b, c⟩ := k
  obtain ⟨a', b', c'⟩ := k'
  simp only at i1 i2 i3 j1 j2 j3
  simp only [encK, List.append_assoc] at h
  obtain ⟨h1, h⟩ := List.append_inj h (by rw [num8_length, num8_length])
  obtain ⟨h2, h⟩ := List.append_inj h (by rw [num8_length, num8_length])
  obtain ⟨h3, h⟩ := List.append_inj h (by rw [num8_length, num8_length])
  have e3 := num8_inj ⟨by omega, by omega⟩ ⟨by omega, by omega⟩ h3
  have hl : ∀ s : ByteArray, s.data.toList.length = s.size := fun s => Array.length_toList
  obtain ⟨h4, h⟩ := List.append_inj h (by rw [hl, hl]; omega)
  obtain ⟨h5, h⟩ := List.append_inj h (by rw [num8_length, num8_length])
  have e5 := num8_inj ⟨by omega, by omega⟩ ⟨by omega, by omega⟩ h5
  exact ⟨by rw [num8_inj i1 j1 h1, num8_inj i2 j2 h2, Go.WideShapes.bytes_inj h4], by omega, h⟩
theorem encF_inj : ∀ (f g : Fo) (R R' : List UInt8), foIn f → foIn g → foLen f = foLen g → encF f ++ R = encF g ++ R' → sameF f g = true ∧ R = R'
  | .nil, .nil, R, R', _, _, _, h => ⟨rfl, by simpa [encF] using h⟩
  | .nil, .node _ _ _ _ _, _, _, _, _, h, _ => by simp [foLen] at h
  | .node _ _ _ _ _, .nil, _, _, _, _, h, _ => by simp [foLen] at h
  | .node _ _ k l r, .node _ _ k' l' r', R, R', hf, hg, hl, h => by
    simp only [encF, List.append_assoc] at h
    obtain ⟨e1, e2, h⟩ := encK_inj hf.1 hg.1 h
    obtain ⟨s1, h⟩ := encF_inj l l' _ _ hf.2.1 hg.2.1 e2 h
    obtain ⟨s2, h⟩ := encF_inj r r' R R' hf.2.2 hg.2.2 (by simpa [foLen] using hl) h
    refine ⟨?_, h⟩
    simp only [sameF, (sameK_iff k k').2 e1, s1, s2, e2, decide_true, Bool.and_true]
theorem same_enc : ∀ (f g : Fo), sameF f g = true → encF f = encF g
  | .nil, .nil, _ => rfl
  | .nil, .node _ _ _ _ _, h => by simp [sameF] at h
  | .node _ _ _ _ _, .nil, h => by simp [sameF] at h
  | .node _ _ k l r, .node _ _ k' l' r', h => by
    simp only [sameF, Bool.and_eq_true] at h
    simp only [encF, same_enc l l' h.1.2.2, same_enc r r' h.2, (sameK_iff k k').1 h.1.1, sameF_len l l' h.1.2.2]
/-- Two trees are the same just if their bytes are. -/
theorem bytes_same (t u : Tr) (ht : t.in64) (hu : u.in64) : sameT t u = decide (encT t = encT u) := by
  by_cases h : sameT t u = true
  · rw [h, decide_eq_true]
    have h' := h
    simp only [sameT, Bool.and_eq_true] at h'
    have hk := (sameK_iff _ _).1 h'.1
    unfold encT
    rw [hk, same_enc _ _ h'.2.2, sameF_len _ _ h'.2.2]
  · have hn : ¬ encT t = encT u := fun e => h (by
      unfold encT at e
      obtain ⟨e1, e2, e3⟩ := encK_inj ht.1 hu.1 e
      obtain ⟨s, _⟩ := encF_inj t.kids u.kids [] [] ht.2 hu.2 e2 (by rw [e3])
      simp only [sameT, (sameK_iff _ _).2 e1, e2, s, decide_true, Bool.and_true])
    rw [decide_eq_false hn]
    simpa using h
end Go.Proofs.YteccnekdmehloaaDoor
