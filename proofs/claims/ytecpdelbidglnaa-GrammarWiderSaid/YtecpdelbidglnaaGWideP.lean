/-
  Wider slots: plainly. No condition.
-/
import Derived.Test.YtecpdelbidglnaaGCutP
namespace Go.Proofs.Ytecpdelbidglnaa

/-- A kind more among kinds that rise, unless it is there or there is no such kind (d). -/
def insO (o : Int) : Bool → List Int → List Int
  | true, l => l
  | false, [] => [o]
  | false, k :: r => if o ≤ k then (if k = o then k :: r else o :: k :: r) else k :: insO o false r
theorem insO_true (o : Int) (l : List Int) : insO o true l = l := by cases l <;> rfl
theorem rise_low {n : Int} : ∀ (l : List Int) (a b : Int), b ≤ a → rise n a l = true → rise n b l = true
  | [], _, _, _, _ => rfl
  | x :: r, a, b, hab, h => by
    simp only [rise, Bool.and_eq_true, decide_eq_true_eq] at h ⊢
    exact ⟨⟨by omega, h.1.2⟩, h.2⟩
theorem rise_ins {n o : Int} : ∀ (l : List Int) (a : Int), rise n a l = true → a < o → o < n → rise n a (insO o false l) = true
  | [], a, _, h1, h2 => by simp [insO, rise, h1, h2]
  | k :: r, a, h, h1, h2 => by
    simp only [rise, Bool.and_eq_true, decide_eq_true_eq] at h
    unfold insO
    split
    · split
      · simp only [rise, Bool.and_eq_true, decide_eq_true_eq]; exact h
      · rename_i h3 h4
        simp only [rise, Bool.and_eq_true, decide_eq_true_eq]
        exact ⟨⟨h1, h2⟩, ⟨by omega, h.1.2⟩, h.2⟩
    · rename_i h3
      simp only [rise, Bool.and_eq_true, decide_eq_true_eq]
      exact ⟨h.1, rise_ins r k h.2 (by omega) h2⟩
theorem has_ins {o : Int} : ∀ (d : Bool) (l : List Int) (x : Int), hasInt l x = true → hasInt (insO o d l) x = true
  | true, l, x, h => by rw [insO_true]; exact h
  | false, [], x, h => by simp [hasInt] at h
  | false, k :: r, x, h => by
    unfold insO
    split
    · split
      · exact h
      · simp only [hasInt, List.any_cons] at h ⊢; rw [h]; simp
    · simp only [hasInt, List.any_cons, Bool.or_eq_true] at h ⊢
      rcases h with h | h
      · exact Or.inl h
      · exact Or.inr (has_ins false r x h)
theorem len_ins {o : Int} : ∀ (d : Bool) (l : List Int), l.length ≤ (insO o d l).length ∧ (insO o d l).length ≤ l.length + 1
  | true, l => by rw [insO_true]; omega
  | false, [] => by simp [insO]
  | false, k :: r => by
    have := len_ins (o := o) false r
    unfold insO
    split
    · split <;> simp
    · simp; omega

/-- The slot, wider; the kind and the grammar with it. -/
def wideS (s : Sl) (o : Int) (d : Bool) (m : Int) : Sl := ⟨insO o d s.kinds, s.least, m⟩
def wideK (x : Kd) (j : Nat) (s : Sl) : Kd := ⟨x.name, x.text, x.slots.set j s⟩
def wideG (g : Gr) (i : Nat) (x : Kd) : Gr := ⟨g.kinds.set i x, g.root⟩
theorem wideS_ok {n o m : Int} {s : Sl} {d : Bool} (h : slotOk n s = true) (hd : d = false → 0 ≤ o ∧ o < n) (h1 : s.most ≤ m) (h2 : m ≤ 1000) : slotOk n (wideS s o d m) = true := by
  simp only [slotOk, slotRest, Bool.and_eq_true, decide_eq_true_eq] at h ⊢
  refine ⟨?_, ⟨⟨?_, h.2.1.1.2⟩, ?_⟩, h2⟩
  · cases d
    · exact rise_ins _ _ h.1 (by have := hd rfl; omega) (hd rfl).2
    · show rise n (-1) (insO o true s.kinds) = true
      rw [insO_true]; exact h.1
  · have := (len_ins (o := o) d s.kinds).1
    have := h.2.1.1.1
    show 0 < (insO o d s.kinds).length
    omega
  · show s.least ≤ m
    have := h.2.1.2
    omega
theorem all_set {α : Type} {f : α → Bool} : ∀ {l : List α} {i : Nat} {x : α}, l.all f = true → f x = true → (l.set i x).all f = true
  | [], _, _, _, _ => rfl
  | y :: l, 0, x, h, hx => by simp only [List.all_cons, Bool.and_eq_true, List.set_cons_zero] at h ⊢; exact ⟨hx, h.2⟩
  | y :: l, i + 1, x, h, hx => by simp only [List.all_cons, Bool.and_eq_true, List.set_cons_succ] at h ⊢; exact ⟨h.1, all_set h.2 hx⟩
theorem fresh_set {s : List UInt8} : ∀ {l : List Kd} {i : Nat} {x y : Kd}, l[i]? = some x → y.name = x.name → fresh (l.set i y) s = fresh l s
  | [], _, _, _, h, _ => by simp at h
  | z :: l, 0, x, y, h, hy => by simp at h; subst h; simp [fresh, hy]
  | z :: l, i + 1, x, y, h, hy => by
    have := fresh_set (s := s) (l := l) (i := i) (by simpa using h) hy
    simp only [fresh, List.set_cons_succ, List.all_cons] at this ⊢
    rw [this]
theorem apart_set : ∀ {l : List Kd} {i : Nat} {x y : Kd}, l[i]? = some x → y.name = x.name → apart (l.set i y) = apart l
  | [], _, _, _, h, _ => by simp at h
  | z :: l, 0, x, y, h, hy => by simp at h; subst h; simp [apart, hy]
  | z :: l, i + 1, x, y, h, hy => by
    rw [List.set_cons_succ, apart, apart, apart_set (l := l) (i := i) (by simpa using h) hy, fresh_set (l := l) (i := i) (by simpa using h) hy]
theorem wideG_ok {g : Gr} {i j : Nat} {x : Kd} {s' : Sl} (h : grOk g = true) (hx : g.kinds[i]? = some x) (hs : slotOk (g.kinds.length : Int) s' = true) : grOk (wideG g i (wideK x j s')) = true := by
  simp only [grOk, Bool.and_eq_true] at h ⊢
  have hk : kindOk (g.kinds.length : Int) x = true := List.all_eq_true.1 h.1.2 x (List.mem_of_getElem? hx)
  simp only [kindOk, kindRest, Bool.and_eq_true, decide_eq_true_eq] at hk
  refine ⟨⟨?_, ?_⟩, ?_⟩
  · have := h.1.1
    simp only [grRest, wideG, List.length_set] at this ⊢
    exact this
  · show (g.kinds.set i (wideK x j s')).all (kindOk ((g.kinds.set i (wideK x j s')).length : Int)) = true
    rw [List.length_set]
    refine all_set h.1.2 ?_
    show (kindRest (wideK x j s') && (x.slots.set j s').all (slotOk _)) = true
    rw [all_set hk.2 hs, Bool.and_true, kindRest]
    show (decide (1 ≤ x.name.size) && decide (x.name.size ≤ 40) && decide ((x.slots.set j s').length ≤ 8)) = true
    rw [List.length_set, decide_eq_true hk.1.1.1, decide_eq_true hk.1.1.2, decide_eq_true hk.1.2]; rfl
  · show apart (g.kinds.set i (wideK x j s')) = true
    rw [apart_set (y := wideK x j s') hx rfl]; exact h.2
theorem wide_fits {x : Kd} {j : Nat} {s : Sl} {o m : Int} {d : Bool} {kids : List Int} (hs : x.slots[j]? = some s) (hm : s.most ≤ m) (h : fitsV (some x) kids = true) : fitsV (some (wideK x j (wideS s o d m))) kids = true := by
  simp only [fitsV, Bool.and_eq_true, decide_eq_true_eq] at h ⊢
  refine ⟨h.1, ?_⟩
  have := ends_ind (kids := kids) (kids' := kids) (l := x.slots) (l' := x.slots.set j (wideS s o d m)) (by simp) (fun i t t' b e h1 h2 h3 => by
    rw [List.getElem?_set] at h2
    split at h2
    · rename_i e2
      subst e2
      split at h2
      · cases h2
        rw [hs] at h1; cases h1
        exact ⟨h3.le, h3.ends, h3.least, by have := h3.most; show _ ≤ m; omega, fun i y hi hj hy => has_ins d _ y (h3.all i y hi hj hy)⟩
      · cases h2
    · rw [h1] at h2; cases h2; exact h3) x.slots.length kids.length (by rw [List.take_of_length_le (Nat.le_refl _)]; exact h.2)
  rwa [List.take_of_length_le (by simp)] at this
theorem wide_kind {g : Gr} {i : Nat} {x x' : Kd} (hx : g.kinds[i]? = some x) (h : grOk (wideG g i x') = true) : kindOf (wideG g i x') (i : Int) = some x' := by
  refine kindOf_in h ?_
  show (g.kinds.set i x')[i]? = some x'
  have hi := (List.getElem?_eq_some_iff.1 hx).1
  rw [List.getElem?_set, if_pos rfl, if_pos hi]
theorem wide_few {g : Gr} {i j : Nat} {x : Kd} {s : Sl} {o m : Int} {d : Bool} (hf : g.few) (hx : g.kinds[i]? = some x) (h40 : s.kinds.length ≤ 40) : (wideG g i (wideK x j (wideS s o d m))).few := by
  refine ⟨by show (g.kinds.set i _).length ≤ 1000000; rw [List.length_set]; exact hf.1, fun k hk => ?_⟩
  rcases List.mem_or_eq_of_mem_set hk with hk | rfl
  · exact hf.2 k hk
  · have hfx := hf.2 x (List.mem_of_getElem? hx)
    refine ⟨hfx.1, by show (x.slots.set j _).length ≤ 1000000; rw [List.length_set]; exact hfx.2.1, fun t ht => ?_⟩
    rcases List.mem_or_eq_of_mem_set ht with ht | rfl
    · exact hfx.2.2 t ht
    · have := (len_ins (o := o) d s.kinds).2
      show (insO o d s.kinds).length ≤ 1000000
      omega
end Go.Proofs.Ytecpdelbidglnaa
