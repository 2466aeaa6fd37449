/-
  What TreeBack is about, plainly: what is written is read as it was, what is read is written as it stood, and where reading fails. No condition.
-/
import Derived.Test.YteccnekdmehloaaDoorTInj
import Derived.Test.YteccnekdmehloaaDoorTRead
import Derived.Test.YteccnekdmehloaaDoorTOpenB
import Derived.Lib.ItoaLen
namespace Go.Proofs.YteccnekdmehloaaDoor
open Go.RowKit Go.Shelf
set_option linter.unusedVariables false
set_option linter.unusedSimpArgs false

theorem pNum_top {d : List UInt8} {p e : Nat} (h : pNum d p = .error e) : e ≤ d.length := by
  unfold pNum at h
  split at h
  · cases h
  · cases h; exact Nat.le_refl _
theorem pCount_top {d : List UInt8} {s m : Int} {p e : Nat} (hp : p ≤ d.length) (h : pCount d s m p = .error e) : e ≤ d.length := by
  unfold pCount at h
  split at h
  · rename_i h1; cases h; exact pNum_top h1
  · split at h
    · cases h; exact hp
    · cases h
theorem pText_top {d : List UInt8} {p e : Nat} (hp : p ≤ d.length) (h : pText d p = .error e) : e ≤ d.length := by
  unfold pText at h
  split at h
  · rename_i h1; cases h; exact pCount_top hp h1
  · cases h
theorem pList_ends {α : Type} {one : Nat → Nat → Got (α × Nat)} {L : Nat} (h1 : ∀ m p e, p ≤ L → one m p = .error e → e ≤ L) (h2 : ∀ m p x q, p ≤ L → one m p = .ok (x, q) → q ≤ L) :
    ∀ n m p, p ≤ L → (∀ e, pList one n m p = .error e → e ≤ L) ∧ ∀ x q, pList one n m p = .ok (x, q) → q ≤ L
  | 0, m, p, hp => ⟨fun e h => by simp [pList] at h, fun x q h => by simp only [pList, Except.ok.injEq, Prod.mk.injEq] at h; rw [← h.2]; exact hp⟩
  | n + 1, m, p, hp => by
    obtain ⟨i1, i2⟩ := pList_ends h1 h2 n m p hp
    constructor
    · intro e h
      simp only [pList] at h
      split at h
      · rename_i h3; cases h; exact i1 _ h3
      · rename_i h3
        have hq := i2 _ _ h3
        split at h
        · rename_i h4; cases h; exact h1 _ _ _ hq h4
        · cases h
    · intro x q h
      simp only [pList] at h
      split at h
      · cases h
      · rename_i h3
        have hq := i2 _ _ h3
        split at h
        · cases h
        · rename_i h4; cases h; exact h2 _ _ _ _ hq h4
theorem pNode_top (d : List UInt8) : ∀ (f depth m p e : Nat), p ≤ d.length → pNode d f depth m p = .error e → e ≤ d.length
  | 0, _, _, p, e, hp, h => by simp only [pNode, Except.error.injEq] at h; rw [← h]; exact hp
  | f + 1, depth, m, p, e, hp, h => by
    simp only [pNode] at h
    split at h
    · cases h; exact hp
    · split at h
      · rename_i h1; cases h; exact pNum_top h1
      · rename_i h1
        have s1 := (pNum_inv h1).2.2
        split at h
        · rename_i h2; cases h; exact pNum_top h2
        · rename_i h2
          have s2 := (pNum_inv h2).2.2
          split at h
          · rename_i h3; cases h; exact pText_top s2 h3
          · rename_i h3
            have s3 := (pText_inv h3).2.2
            split at h
            · rename_i h4; cases h; exact pCount_top s3 h4
            · rename_i h4
              have s4 := pCount_ok h4
              split at h
              · rename_i h5
                cases h
                refine (pList_ends (L := d.length) (fun m p e hp h => pNode_top d f (depth + 1) m p e hp h) (fun m p x q hp h => ?_) _ _ _ (by have := s4.1; have := s4.2.1; omega)).1 _ h5
                exact (pNode_inv d f (depth + 1) m p x.1 x.2 q h).2.2
              · cases h
theorem pTree_top {d : List UInt8} {p e : Nat} (hp : p ≤ d.length) (h : pTree d p = .error e) : e ≤ d.length := by
  unfold pTree at h
  split at h
  · rename_i h1; cases h; exact pNode_top d 40 1 0 p _ hp h1
  · cases h
theorem readT_bad {bs : List UInt8} {u : Tr} {at_ er : Int} (h : readT bs = (u, at_, er)) (he : er ≠ 0) : u = zeroTC ∧ 0 ≤ at_ ∧ at_ ≤ (bs.length : Int) := by
  unfold readT at h
  split at h
  · cases h; exact ⟨rfl, by omega, by omega⟩
  · split at h
    · rename_i h1
      cases h
      have := pTree_top (Nat.zero_le _) h1
      exact ⟨rfl, by omega, by omega⟩
    · rename_i h1
      split at h
      · cases h; exact ⟨rfl, by omega, by omega⟩
      · cases h; exact absurd rfl he
theorem readT_good {bs : List UInt8} {u : Tr} {at_ : Int} (h : readT bs = (u, at_, 0)) : encT u = bs ∧ bs.length ≤ 65536 := by
  unfold readT at h
  split at h
  · simp at h
  · rename_i hl
    split at h
    · simp at h
    · rename_i h1
      split at h
      · simp at h
      · rename_i hq
        cases h
        have s := pTree_inv h1
        have h2 := s.1
        have h3 := s.2.2
        rw [List.drop_zero] at h2
        rw [List.drop_eq_nil_of_le (by omega), List.append_nil] at h2
        exact ⟨h2.symm, by omega⟩
theorem readT_enc (t : Tr) (hin : t.in64) (hg : t.good) (hl : (encT t).length ≤ 65536) : readT (encT t) = (nT t, 0, 0) := by
  unfold readT
  rw [if_neg (by omega), (pTree_fwd (rest := []) hin (by simp)).1 hg]
  simp
theorem sameF_n : ∀ f : Fo, sameF (nF f) f = true ∧ foLen (nF f) = foLen f
  | .nil => ⟨rfl, rfl⟩
  | .node _ _ k l r => by
    obtain ⟨h1, h2⟩ := sameF_n l
    obtain ⟨h3, h4⟩ := sameF_n r
    have hk : sameK k k = true := (sameK_iff k k).2 rfl
    exact ⟨by simp only [nF, sameF, h1, h2, h3, hk, decide_true, Bool.and_true], by simp only [nF, foLen, h4]⟩
theorem sameT_n (t : Tr) : sameT (nT t) t = true := by
  obtain ⟨h1, h2⟩ := sameF_n t.kids
  have hk := (sameK_iff (t.id, t.kind, t.text) (t.id, t.kind, t.text)).2 rfl
  simp only [sameT, nT, h1, h2, hk, decide_true, Bool.and_true]
theorem foSize_n : ∀ f : Fo, foSize (nF f) = foSize f
  | .nil => rfl
  | .node _ _ _ l r => by simp only [nF, foSize, foSize_n l, foSize_n r]
theorem max_ge (M : Int) : ∀ (l : List Sp) (m : Int), l.foldl (fun m x => max m (x.1 : Int)) m ≤ M → m ≤ M ∧ ∀ x ∈ l, (x.1 : Int) ≤ M
  | [], m, h => ⟨h, fun x hx => by cases hx⟩
  | x :: l, m, h => by
    obtain ⟨h1, h2⟩ := max_ge M l (max m (x.1 : Int)) (by simpa using h)
    refine ⟨by omega, fun y hy => ?_⟩
    rcases List.mem_cons.1 hy with rfl | hy
    · omega
    · exact h2 y hy
theorem spC_map : ∀ (d : Nat) (f : Fo), spFC (d : Int) f = (spF d f).map fun x => (x.2.1.2.2, (x.1 : Int))
  | _, .nil => rfl
  | d, .node _ _ k l r => by
    have h1 := spC_map (d + 1) l
    have h2 := spC_map d r
    simp only [spFC, spF, List.map_cons, List.map_append]
    rw [← h1, ← h2]
    simp
theorem good_of (t : Tr) (hd : maxI (spF 1 (rootF t)) ≤ 32) (hs : foSize t.kids + 1 ≤ 200) : t.good := by
  refine ⟨fun x hx => ?_, hs⟩
  have e : spTC 1 t = spFC ((1 : Nat) : Int) (rootF t) := by simp [spTC, rootF, spFC]
  rw [e, spC_map] at hx
  obtain ⟨y, hy, rfl⟩ := List.mem_map.1 hx
  have := (max_ge 32 _ 0 hd).2 y hy
  simp only; omega
theorem foIn_bk : ∀ (f : Fo), foN f → foFit f → foBk f ≤ 1048576 → foIn f
  | .nil, _, _, _ => True.intro
  | .node _ _ k l r, h, g, b => by
    simp only [foBk] at b
    exact ⟨⟨h.1.1, h.1.2, by omega, g.1⟩, foIn_bk l h.2.1 g.2.1 (by omega), foIn_bk r h.2.2 g.2.2 (by omega)⟩
theorem in64_of (t : Tr) (h : trN t) (g : foLen t.kids ≤ 9223372036854775807 ∧ foFit t.kids) (b : trBk t ≤ 1048576) : t.in64 := by
  unfold trBk at b
  exact ⟨⟨h.1.1, h.1.2, by omega, g.1⟩, foIn_bk _ h.2 g.2 (by omega)⟩
theorem spF_n64 : ∀ (d : Nat) (f : Fo), foN f → ∀ x ∈ spF d f, I64 x.2.1.1 ∧ I64 x.2.1.2.1
  | _, .nil, _, x, hx => by cases hx
  | d, .node _ _ k l r, h, x, hx => by
    simp only [spF, List.mem_cons, List.mem_append] at hx
    rcases hx with rfl | hx | hx
    · exact ⟨h.1.1, h.1.2⟩
    · exact spF_n64 (d + 1) l h.2.1 x hx
    · exact spF_n64 d r h.2.2 x hx
theorem root_n64 (t : Tr) (h : trN t) : ∀ x ∈ spF 1 (rootF t), I64 x.2.1.1 ∧ I64 x.2.1.2.1 := spF_n64 1 (rootF t) ⟨h.1, h.2, True.intro⟩
theorem esc_bound2 (s : ByteArray) : (textL s).length ≤ 2 * s.size + 2 := by
  unfold textL
  split
  · simp
  · have h := esc_length s.data.toList
    have h2 : s.data.toList.length = s.size := Array.length_toList
    simp only [quoL, List.length_cons, List.length_append, List.length_nil]; omega
theorem showL_len (D K : Nat) : ∀ (l : List Sp) (a : Nat), a ≤ D → (∀ x ∈ l, x.1 ≤ D ∧ I64 x.2.1.1 ∧ I64 x.2.1.2.1 ∧ x.2.1.2.2.size ≤ K) → (showL a l).length ≤ l.length * (D + 50 + 2 * K)
  | [], _, _, _ => by simp [showL]
  | x :: l, a, ha, h => by
    obtain ⟨h1, h2, h3, h4⟩ := h x (List.mem_cons_self ..)
    have ih := showL_len D K l x.1 h1 (fun y hy => h y (List.mem_cons_of_mem _ hy))
    have i1 := Lib.itoa_length_le x.2.1.1 h2.1 h2.2
    have i2 := Lib.itoa_length_le x.2.1.2.1 h3.1 h3.2
    have i3 := esc_bound2 x.2.1.2.2
    have i4 : (betwL a x.1).length ≤ D + 1 := by
      unfold betwL
      split
      · simp
      · split
        · simp
        · simp only [List.length_append, closeL_length, List.length_cons, List.length_nil]; omega
    rw [List.length_cons, Nat.succ_mul]
    simp only [showL, pieceL, headL, List.length_append, List.length_cons, List.length_nil]
    omega
theorem spF_size2 : ∀ (d : Nat) (f : Fo) (x : Sp), x ∈ spF d f → x.2.1.2.2.size ≤ foBk f
  | _, .nil, x, hx => by cases hx
  | d, .node _ _ k l r, x, hx => by
    simp only [spF, List.mem_cons, List.mem_append] at hx
    simp only [foBk]
    rcases hx with rfl | hx | hx
    · simp only; omega
    · have := spF_size2 (d + 1) l x hx; omega
    · have := spF_size2 d r x hx; omega
theorem showT_len (t : Tr) (h : trN t) (hs : foSize t.kids + 1 ≤ 200) (hb : trBk t ≤ 1048576) : (showT t).length ≤ 10000000000000 := by
  have hr : foBk (rootF t) = trBk t := by simp [rootF, foBk, trBk]
  have hD : ∀ x ∈ spF 1 (rootF t), x.1 ≤ 201 := fun x hx => by
    have := (spF_depth 1 (rootF t) x hx).2
    rw [rootF_size] at this; omega
  have h1 := showL_len 201 1048576 (spF 1 (rootF t)) 0 (by omega) (fun x hx => ⟨hD x hx, (root_n64 t h x hx).1, (root_n64 t h x hx).2, by have := spF_size2 1 (rootF t) x hx; omega⟩)
  have h2 : (spF 1 (rootF t)).length ≤ 200 := by rw [spF_length, rootF_size]; omega
  have h3 : lastD 0 (spF 1 (rootF t)) ≤ 201 := by
    rcases lastD_mem (spF 1 (rootF t)) 0 with e | ⟨x, hx, e⟩
    · omega
    · rw [e]; exact hD x hx
  have h4 : (spF 1 (rootF t)).length * (201 + 50 + 2 * 1048576) ≤ 200 * (201 + 50 + 2 * 1048576) := Nat.mul_le_mul_right _ h2
  unfold showT
  rw [List.length_append, closeL_length]
  omega
end Go.Proofs.YteccnekdmehloaaDoor
