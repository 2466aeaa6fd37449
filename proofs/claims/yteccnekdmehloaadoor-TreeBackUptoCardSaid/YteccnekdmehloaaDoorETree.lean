/-
  A range over the nodes of a tree, where the body only reads the tree: one law. No condition but that there are not too many nodes.
-/
import Derived.Test.YteccnekdmehloaaDoorEClone
namespace Go.Proofs.YteccnekdmehloaaDoor
open Go.RowKit
set_option linter.unusedVariables false

/-- A node of a walk: how deep, what it bears, what is below it. -/
abbrev Sp := Nat × (Int × Int × ByteArray) × Fo
def spF : Nat → Fo → List Sp
  | _, .nil => []
  | d, .node _ _ k l r => (d, k, l) :: (spF (d + 1) l ++ spF d r)
def spA (A : List Seg) : List Sp := A.flatMap fun s => spF s.d s.f
theorem spF_length : ∀ (d : Nat) (f : Fo), (spF d f).length = foSize f
  | _, .nil => rfl
  | d, .node _ _ k l r => by simp [spF, foSize, spF_length (d + 1) l, spF_length d r]
theorem spA_nil_mid (A B : List Seg) (d c : Nat) (a : Option Addr) : spA (A ++ ⟨d, a, c, .nil⟩ :: B) = spA (A ++ B) := by simp [spA, spF]
def TreeI (B : Nat) (S : Nat → Prop) (tot : List Sp) (R : List Sp → (Nat → Prop) → World → Prop) (T : Nat → Prop) (A : List Seg) (V : World) : Prop :=
  ∃ pre, tot = pre ++ spA A ∧ (∀ s ∈ A, FoAt V S s.f s.a) ∧ (∀ x, T x → B ≤ x) ∧ B ≤ V.heap.size ∧ R pre T V
def LeftT (B : Nat) (T S : Nat → Prop) (R : List Sp → (Nat → Prop) → World → Prop) (Rx : Code → (Nat → Prop) → World → Prop) (pre : List Sp) (W : World) (e : Exit) (_ : Act) (V : World) : Prop :=
  KeepsFrom B W V ∧ Kept T W V ∧ (∀ x, S x → V.heap[x]? = W.heap[x]?) ∧ ((e = .normal ∧ R pre T V) ∨ (e = .ret ∧ Rx .ret T V) ∨ ∃ id, e = .exit id ∧ Rx (.exit id) T V)

theorem range_tree {n : Nat} {g : Operand} {ps : Array Tmp} {assign body : Code} {Q : Exit → Act → World → Prop} {a : Act} {w : World} (h1 : 1 ≤ n) {NB : Nat} (hg : a.eval g = .func (.func 50) #[] #[.pointer (some ⟨NB, 0, none⟩)])
    (s : Seg) (hd : s.d = 1) (hne : s.f ≠ .nil) (hcap : foLen s.f ≤ s.cap) (hsz : foSize s.f ≤ 500000) (hNB : w.cell? ⟨NB, 0, none⟩ = some s.v) (hps : ps.size = 2) (S : Nat → Prop) (hS : ∀ x, S x → x < w.heap.size) (hf : FoAt w S s.f s.a)
    (R : List Sp → (Nat → Prop) → World → Prop) (Rx : Code → (Nat → Prop) → World → Prop)
    (hR : ∀ {pre : List Sp} {T T' : Nat → Prop} {V V' : World}, R pre T V → (∀ x, T x → w.heap.size ≤ x) → Touched V V' (fun x => T x ∨ (w.heap.size ≤ x ∧ NonCells V x)) → Wider T T' V V' → R pre T' V')
    (hRx : ∀ {c : Code} {T T' : Nat → Prop} {V V' : World}, Rx c T V → (∀ x, T x → w.heap.size ≤ x) → Touched V V' (fun x => T x ∨ (w.heap.size ≤ x ∧ NonCells V x)) → Wider T T' V V' → Rx c T' V')
    (h0 : R [] (fun _ => False) w)
    (hround : ∀ (l : Nat), l = w.heap.size + 1 → ∀ (T : Nat → Prop) (pre rest : List Sp) (d : Nat) (key : Int × Int × ByteArray) (k : Fo) (V : World) (b off kc : Nat) (ka : Option Addr), (∀ x, T x → x < V.heap.size ∧ w.heap.size + 2 ≤ x) → w.heap.size + 2 ≤ V.heap.size → spF 1 s.f = pre ++ (d, key, k) :: rest → S b →
      V.cell? ⟨b, off, none⟩ = some (.int .i64 key.1) → V.cell? ⟨b, off + 1, none⟩ = some (.int .i64 key.2.1) → V.cell? ⟨b, off + 2, none⟩ = some (.string key.2.2) → V.cell? ⟨b, off + 3, none⟩ = some (.slice ka (foLen k) kc) → foLen k ≤ kc → FoAt V S k ka → R pre T V →
      ∀ (K : Act → World → Prop), (∀ a₁, (∀ V', (∃ o', V' = V.putObj l o' ∧ ∃ o, V.heap[l]? = some o ∧ o.isCells = false) → body.wpIn (Fence.wide.inRound l) (n - 1 - 1) Tryd.prog (LeftT w.heap.size T S R Rx (pre ++ [(d, key, k)]) V') a₁ V') → K a₁ V) →
        assign.wpIn (Fence.wide.inRound l) (n - 1 - 1) Tryd.prog (Exit.then K (fun _ _ _ => False)) { tmps := (ps.zip #[.int .i64 (d : Int), .pointer (some ⟨b, off, none⟩)]).foldl (fun t (p, v) => t.setIfInBounds p v) a.tmps, defers := [] } V)
    (hdone : ∀ (D : Nat) (T : Nat → Prop) (V : World), w.heap.size ≤ D → R (spF 1 s.f) T V → V.heap[D]? = some (.deferred (some [])) → Q .normal { a with defers := { target := .collected D, args := #[] } :: a.defers } V)
    (hstop : ∀ (D : Nat) (c : Code) (T : Nat → Prop) (V : World), w.heap.size ≤ D → Rx c T V → V.heap[D]? = some (.deferred (some [])) → c.wpIn Fence.wide n Tryd.prog Q { a with defers := { target := .collected D, args := #[] } :: a.defers } V) :
    (Code.rangeFunc g ps assign body).wpIn Fence.wide n Tryd.prog Q a w := by
  have keepS : ∀ {T : Nat → Prop} {V V' : World}, (∀ x, T x → w.heap.size ≤ x) → w.heap.size ≤ V.heap.size → Touched V V' (fun x => T x ∨ (w.heap.size ≤ x ∧ NonCells V x)) → ∀ x, S x → V'.heap[x]? = V.heap[x]? := fun hT hV ht x hx => by
    have hxl := hS x hx
    exact ht.block x (by omega) (fun h => by
      rcases h with h | h
      · have := hT x h; omega
      · omega)
  refine range_each h1 hg s hd hne hcap hsz hNB hps (TreeI w.heap.size S (spF 1 s.f) R) (fun c T V => Rx c T V ∧ (∀ x, T x → w.heap.size ≤ x) ∧ w.heap.size ≤ V.heap.size) ?_ ?_ ?_ ?_ ?_ ?_ ?_
  · rintro T T' A V V' ⟨pre, e, h2, h3, h4, h5⟩ ht hw
    refine ⟨pre, e, fun x hx => (h2 x hx).kept fun y hy => ⟨hy, keepS h3 h4 ht y hy⟩, fun x hx => (hw x hx).elim (h3 x) (fun h => by omega), Nat.le_trans h4 ht.size, hR h5 h3 ht hw⟩
  · rintro c T T' V V' ⟨h5, h3, h4⟩ ht hw
    exact ⟨hRx h5 h3 ht hw, fun x hx => (hw x hx).elim (h3 x) (fun h => by omega), Nat.le_trans h4 ht.size⟩
  · rintro T A B d c ad V ⟨pre, e, h2, h3⟩
    rw [spA_nil_mid] at e
    exact ⟨pre, e, fun x hx => h2 x (by rcases List.mem_append.1 hx with hx | hx; exact List.mem_append_left _ hx; exact List.mem_append_right _ (List.mem_cons_of_mem _ hx)), h3⟩
  · exact ⟨[], by simp [spA, hd], fun x hx => by rw [List.mem_singleton] at hx; subst hx; exact hf, fun _ h => h.elim, Nat.le_refl _, h0⟩
  · rintro l hl T d c bo oo ad key k r A V hT hV ⟨pre, e, h2, h3, h4, h5⟩
    obtain ⟨b, off, ka, kc, e1, hb, c0, c1, c2, c3, c4, hk, hr⟩ := h2 _ (List.mem_cons_self ..)
    simp only at e1 c3 c4 hk hr
    have e2 : spF 1 s.f = pre ++ (d, key, k) :: (spF (d + 1) k ++ (spF d r ++ spA A)) := by rw [e]; simp [spA, spF]
    refine ⟨b, off, e1, fun K hK => hround l hl T pre _ d key k V b off kc ka hT hV e2 hb c0 c1 c2 c3 c4 hk h5 K fun a₁ hbody => hK a₁ fun V' hV' => wpIn_mono (hbody V' hV') ?_⟩
    rintro e5 a5 V2 ⟨k1, k2, k3, hx⟩
    obtain ⟨o', ev, o, ho, hoc⟩ := hV'
    have hs2 := k1.size
    have hsv : V'.heap.size = V.heap.size := by rw [ev]; simp [World.putObj]
    have hSk : ∀ x, S x → V2.heap[x]? = V.heap[x]? := fun x hx => by
      have := hS x hx
      rw [k3 x hx, ev, World.putObj_heap_other (by omega)]
    refine ⟨k1, k2, ?_⟩
    rcases hx with ⟨rfl, hr'⟩ | ⟨rfl, hx⟩ | ⟨id, rfl, hx⟩
    · refine .inl ⟨rfl, ka, kc, (World.cell?_of_block (hSk b hb)).trans c3, c4, pre ++ [(d, key, k)], ?_, ?_, fun x hx => by have := (hT x hx).2; omega, by omega, hr'⟩
      · rw [e2]; simp [spA]
      · intro x hx
        rcases List.mem_cons.1 hx with rfl | hx
        · exact hk.kept fun y hy => ⟨hy, hSk y hy⟩
        · rcases List.mem_cons.1 hx with rfl | hx
          · exact hr.kept fun y hy => ⟨hy, hSk y hy⟩
          · exact (h2 x (List.mem_cons_of_mem _ hx)).kept fun y hy => ⟨hy, hSk y hy⟩
    · exact .inr (.inl ⟨rfl, hx, fun x hx => by have := (hT x hx).2; omega, by omega⟩)
    · exact .inr (.inr ⟨id, rfl, hx, fun x hx => by have := (hT x hx).2; omega, by omega⟩)
  · rintro D T V hD ⟨pre, e, h2, h3, h4, h5⟩ hV
    rw [show spA [] = [] from rfl, List.append_nil] at e
    rw [← e] at h5
    exact hdone D T V hD h5 hV
  · rintro D c T V hD ⟨h5, _⟩ hV
    exact hstop D c T V hD h5 hV
end Go.Proofs.YteccnekdmehloaaDoor
