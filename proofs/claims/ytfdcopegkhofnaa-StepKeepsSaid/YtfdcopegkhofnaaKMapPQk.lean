/-
  What 'Great' of layer 3 answers: where it answers false the tree has at most 250 nodes. No condition but that no row of kids is longer than a slice may be.
  A map from ids to nodes, plainly: what it holds, how many. No condition.
  GreatSteps of a row of one step: where it answers false, the step's tree has at most 250 nodes. No condition but that no row of kids is longer than a slice may be.
-/
import Derived.Test.YtfdcopegkhofnaaVWalkQk
import Derived.Test.YtfdcopegkhofnaaVAtQk
namespace Go.Proofs.Ytfdcopegkhofnaa
open Go.RowKit
set_option linter.unusedVariables false

def GreatC3 (w : World) (t : Tr) (e : Ending) (w' : World) : Prop := ∃ b, e = .returned (.bool b) ∧ (b = false → foSize t.kids + 1 ≤ 250) ∧ Below w.heap.size w w'
theorem spots_ge {S : Nat → Prop} {w : World} {B n : Nat} {a : Option Addr} {cap : Nat} {T : List Sp} (h : SpotsN S w B (.slice a n cap) n T) {k : Nat} {x : Sp} (hx : T[k]? = some x) : ∃ g, a = some ⟨g, 0, none⟩ ∧ g < w.heap.size ∧ w.cell? ⟨g, k * 5, none⟩ = some (.int .i64 x.2.1.1) ∧ w.cell? ⟨g, k * 5 + 1, none⟩ = some (.int .i64 x.2.1.2.1) ∧ w.cell? ⟨g, k * 5 + 2, none⟩ = some (.string x.2.1.2.2) ∧ (∃ ka c, w.cell? ⟨g, k * 5 + 3, none⟩ = some (.slice ka (foLen x.2.2) c) ∧ foLen x.2.2 ≤ c ∧ FoAt w S x.2.2 ka) ∧ w.cell? ⟨g, k * 5 + 4, none⟩ = some (.int .i64 (x.1 : Int)) := by
  obtain ⟨hT, xs, ho, hxs⟩ := h
  have hk := (List.getElem?_eq_some_iff.1 hx).1
  have hgg : ∃ g, a = some ⟨g, 0, none⟩ := by
    rcases ho.2 with ⟨hv, h0⟩ | ⟨g, cap2, cur, hv, _⟩
    · omega
    · cases hv; exact ⟨g, rfl⟩
  obtain ⟨g, rfl⟩ := hgg
  obtain ⟨p0, p1, p2, ⟨ka, c, p3, q1, q2⟩, p4⟩ := hxs k x hx
  exact ⟨g, rfl, (owns_bounds ho rfl).2, owns_cell ho rfl _ _ p0, owns_cell ho rfl _ _ p1, owns_cell ho rfl _ _ p2, ⟨ka, c, owns_cell ho rfl _ _ p3, q1, q2⟩, owns_cell ho rfl _ _ p4⟩
set_option maxRecDepth 100000 in
set_option maxHeartbeats 1000000 in
theorem great3_any (w : World) (S : Nat → Prop) (v : Value) (t : Tr) (hlen : foLen t.kids ≤ 9223372036854775807) (hfit : foFit t.kids) (hS : ∀ k, S k → k < w.heap.size) (hv : TrAt w S v t) :
    Calls Try.prog 13 #[v] w (GreatC3 w t) := by
  obtain ⟨ka, cap, rfl, hcp, hk⟩ := hv
  have hb : Below w.heap.size w (w.alloc (.cells #[.int .i64 t.id, .int .i64 t.kind, .string t.text, .slice ka (foLen t.kids) cap] 24)) := (Below.refl _ _).alloc (Nat.le_refl _) _
  have hc := walkM_any 251 (by omega) (w.alloc (.cells #[.int .i64 t.id, .int .i64 t.kind, .string t.text, .slice ka (foLen t.kids) cap] 24)) S _ t hlen hfit (fun k hk => Nat.lt_of_lt_of_le (hS k hk) hb.size) ⟨ka, cap, rfl, hcp, hk.below hb hS⟩
  have HC := Lib.hid (And.intro hc hb)
  clear hc hb hk hfit hS hcp
  obtain ⟨len, hl⟩ : ∃ len, len = foLen t.kids := ⟨_, rfl⟩
  rw [← hl] at HC
  rw [← hl]
  clear hl
  go_enter Try.func13, Try.ntmps13
  go_wp2_with fail
  refine HC.out.1.mono ?_
  rintro e w2 ⟨a, cap', rfl, hsp, hb2⟩
  have HB := Lib.hid (show Below w.heap.size w w2 from HC.out.2.trans (hb2.mono HC.out.2.size))
  obtain ⟨n, hn⟩ : ∃ n, n = ((spF 1 (rootF t)).take 251).length := ⟨_, rfl⟩
  rw [← hn] at hsp ⊢
  have HO := Lib.hid (And.intro hsp hn)
  have hn2 : n ≤ 251 := by rw [hn, List.length_take]; omega
  clear hb2 hn hsp
  go_wp2_with fail
  go_loop [4, 5, 10] (fun s _ i => ∃ k : Nat, k ≤ n ∧ i = .int .i64 k ∧ ∃ q : Nat, s = .int .i64 q ∧ q ≤ 20000) (fun _ _ i => n - (intOf i).toNat)
  case atStart => exact ⟨0, Nat.zero_le _, rfl, 0, rfl, by omega⟩
  case round =>
    obtain ⟨k, hk, rfl, q, rfl, hq⟩ := hrel
    by_cases hlt : k < n
    · obtain ⟨p, hp⟩ : ∃ p, ((spF 1 (rootF t)).take 251)[k]? = some p := ⟨_, List.getElem?_eq_getElem (by rw [← HO.out.2]; exact hlt)⟩
      obtain ⟨g, rfl, _, _, _, c2, _, _⟩ := spots_ge HO.out.1 hp
      obtain ⟨tx, htx⟩ : ∃ tx, tx = p.2.1.2.2 := ⟨_, rfl⟩
      rw [← htx] at c2
      have hkl : (k : Int) < (n : Int) := by omega
      clear hp htx
      by_cases hbig : 20000 < q + tx.size
      · have hbig2 : (20000 : Int) - (q : Int) < (tx.size : Int) := by omega
        go_wp2_with fail
        go_ret
        exact ⟨true, rfl, (fun e => by cases e), HB.out⟩
      · have hbig2 : ¬ (20000 : Int) - (q : Int) < (tx.size : Int) := by omega
        go_wp2_with fail
        exact ⟨⟨k + 1, by omega, by go_num, q + tx.size, by go_num, by omega⟩, by simp [intOf]; omega⟩
    · have hkl : ¬ (k : Int) < (n : Int) := by omega
      clear hk
      by_cases h250 : 250 < n
      · have h251 : (250 : Int) < (n : Int) := by omega
        go_wp2_with fail
        go_ret
        exact ⟨true, rfl, (fun e => by cases e), HB.out⟩
      · have h251 : ¬ (250 : Int) < (n : Int) := by omega
        have HN := Lib.hid h250
        clear h250
        go_wp2_with fail
        go_ret
        refine ⟨false, rfl, fun _ => ?_, HB.out⟩
        have h2 := HN.out
        rw [HO.out.2, List.length_take, spF_length, rootF_size] at h2
        omega
end Go.Proofs.Ytfdcopegkhofnaa
namespace Go.Proofs.Ytfdcopegkhofnaa
open Go.RowKit Go.Shelf
open Go.Maps
set_option linter.unusedVariables false
set_option linter.unusedSimpArgs false

def isNode : List Value → Bool
  | [.int .i64 _, .int .i64 _, .string _, .slice _ _ _] => true
  | _ => false
theorem isNode_inv {l : List Value} (h : isNode l = true) : ∃ a k s p n c, l = [.int .i64 a, .int .i64 k, .string s, .slice p n c] := by
  unfold isNode at h
  split at h
  · exact ⟨_, _, _, _, _, _, rfl⟩
  · cases h
def nodeE : Value → Bool
  | .agg cs => isNode cs.toList
  | _ => false
/-- A node, as an element that reads as itself. -/
def heldE (v : Value) : Option (DataW Value × List MemPlace) := if nodeE v = true then some (.held v, []) else none
theorem heldE_inv {v : Value} {z : DataW Value × List MemPlace} (h : heldE v = some z) : z = (.held v, []) ∧ ∃ a k s p n c, v = .agg #[.int .i64 a, .int .i64 k, .string s, .slice p n c] := by
  unfold heldE at h
  split at h
  · rename_i hn
    cases h
    refine ⟨rfl, ?_⟩
    unfold nodeE at hn
    split at hn
    · obtain ⟨a, k, s, p, n, c, e⟩ := isNode_inv hn
      exact ⟨a, k, s, p, n, c, by rw [← Array.toList_inj.1 (show _ = (#[.int .i64 a, .int .i64 k, .string s, .slice p n c] : Array Value).toList from e)]⟩
    · cases hn
  · cases h
def mapN (L : List (Int × Value)) : DataW Value := L.foldl (fun D p => D.put (.int .i64 p.1) (.held p.2)) (.map [])
theorem mapN_snoc (L : List (Int × Value)) (p : Int × Value) : mapN (L ++ [p]) = (mapN L).put (.int .i64 p.1) (.held p.2) := by simp [mapN, List.foldl_append]
theorem tidy_put (p : Int × Value) {D : DataW Value} (h : Tidy D) : Tidy (D.put (.int .i64 p.1) (.held p.2)) := h.put (show WideAt.IsKeyLit (Lit.int .i64 p.1) by trivial) _
theorem mapN_tidy (L : List (Int × Value)) : Tidy (mapN L) := by
  have key : ∀ (L : List (Int × Value)) (D : DataW Value), Tidy D → Tidy (L.foldl (fun D p => D.put (.int .i64 p.1) (.held p.2)) D) := by
    intro L
    induction L with
    | nil => intro D h; exact h
    | cons p L ih => intro D h; exact ih _ (tidy_put p h)
  exact key L _ tidy_empty
/-- The last value of an id in a row. -/
def lastV (i : Int) : List (Int × Value) → Option Value
  | [] => none
  | p :: r => match lastV i r with
    | some v => some v
    | none => if p.1 = i then some p.2 else none
theorem lastV_snoc (i : Int) : ∀ (L : List (Int × Value)) (p : Int × Value), lastV i (L ++ [p]) = if p.1 = i then some p.2 else lastV i L
  | [], p => by simp only [List.nil_append, lastV]
  | q :: L, p => by
    rw [List.cons_append, lastV, lastV_snoc i L p]
    by_cases h : p.1 = i
    · rw [if_pos h, if_pos h]
    · rw [if_neg h, if_neg h, lastV]
theorem lastV_none (i : Int) : ∀ (L : List (Int × Value)), lastV i L = none ↔ ∀ p ∈ L, p.1 ≠ i
  | [] => by simp [lastV]
  | q :: L => by
    have h := lastV_none i L
    rw [lastV]
    cases hl : lastV i L with
    | some v =>
      simp only
      constructor
      · intro h1; cases h1
      · intro h1
        have := h.2 fun p hp => h1 p (List.mem_cons_of_mem _ hp)
        rw [hl] at this; cases this
    | none =>
      have h2 := h.1 hl
      by_cases hq : q.1 = i
      · simp only [if_pos hq]
        constructor
        · intro h1; cases h1
        · intro h1; exact absurd hq (h1 q (List.mem_cons_self ..))
      · simp only [if_neg hq]
        constructor
        · intro _ p hp
          rcases List.mem_cons.1 hp with rfl | hp
          · exact hq
          · exact h2 p hp
        · intro _; trivial
theorem lastV_mem (i : Int) : ∀ (L : List (Int × Value)) (v : Value), lastV i L = some v → (i, v) ∈ L
  | [], v, h => by cases h
  | q :: L, v, h => by
    rw [lastV] at h
    cases hl : lastV i L with
    | some u =>
      rw [hl] at h
      cases h
      exact List.mem_cons_of_mem _ (lastV_mem i L _ hl)
    | none =>
      rw [hl] at h
      simp only at h
      by_cases hq : q.1 = i
      · rw [if_pos hq] at h
        cases h
        subst hq
        exact List.mem_cons_self ..
      · rw [if_neg hq] at h; cases h
theorem key_ne {a b : Int} (h : a ≠ b) : (Lit.int .i64 a) ≠ (Lit.int .i64 b) := fun e => by cases e; exact h rfl
theorem mapN_at (i : Int) (z : DataW Value) (L : List (Int × Value)) : (mapN L).atKey (.int .i64 i) z = match lastV i L with | some v => .held v | none => z := by
  have key : ∀ (n : Nat) (L : List (Int × Value)), L.length = n → (mapN L).atKey (.int .i64 i) z = match lastV i L with | some v => .held v | none => z := by
    intro n
    induction n with
    | zero =>
      intro L h
      rw [List.length_eq_zero_iff.1 h]
      rfl
    | succ n ih =>
      intro L h
      have hne : L ≠ [] := fun e => by rw [e] at h; cases h
      obtain ⟨L', p, rfl⟩ : ∃ L' p, L = L' ++ [p] := ⟨L.dropLast, L.getLast hne, (List.dropLast_concat_getLast hne).symm⟩
      rw [mapN_snoc, lastV_snoc]
      by_cases hp : p.1 = i
      · rw [if_pos hp, hp, atKey_put_same (mapN_tidy L').isMap (show WideAt.IsKeyLit (Lit.int .i64 i) by trivial)]
      · rw [if_neg hp, atKey_put_other (key_ne (fun e => hp e.symm)), ih L' (by simp at h; exact h)]
  exact key _ L rfl
theorem mapN_has (i : Int) (L : List (Int × Value)) : Maps.has (mapN L) (.int .i64 i) = (lastV i L).isSome := by
  have key : ∀ (n : Nat) (L : List (Int × Value)), L.length = n → Maps.has (mapN L) (.int .i64 i) = (lastV i L).isSome := by
    intro n
    induction n with
    | zero =>
      intro L h
      rw [List.length_eq_zero_iff.1 h]
      rfl
    | succ n ih =>
      intro L h
      have hne : L ≠ [] := fun e => by rw [e] at h; cases h
      obtain ⟨L', p, rfl⟩ : ∃ L' p, L = L' ++ [p] := ⟨L.dropLast, L.getLast hne, (List.dropLast_concat_getLast hne).symm⟩
      rw [mapN_snoc, lastV_snoc]
      by_cases hp : p.1 = i
      · rw [if_pos hp, hp, has_put_same (mapN_tidy L').isMap (show WideAt.IsKeyLit (Lit.int .i64 i) by trivial)]; rfl
      · rw [if_neg hp, has_put_other (key_ne (fun e => hp e.symm)), ih L' (by simp at h; exact h)]
  exact key _ L rfl
theorem mapN_size (L : List (Int × Value)) : Maps.size (mapN L) ≤ L.length ∧ (Maps.size (mapN L) = L.length ↔ (L.map Prod.fst).Nodup) := by
  have key : ∀ (n : Nat) (L : List (Int × Value)), L.length = n → Maps.size (mapN L) ≤ L.length ∧ (Maps.size (mapN L) = L.length ↔ (L.map Prod.fst).Nodup) := by
    intro n
    induction n with
    | zero =>
      intro L h
      rw [List.length_eq_zero_iff.1 h]
      exact ⟨Nat.le_refl _, by simp [mapN, Maps.size]⟩
    | succ n ih =>
      intro L h
      have hne : L ≠ [] := fun e => by rw [e] at h; cases h
      obtain ⟨L', p, rfl⟩ : ∃ L' p, L = L' ++ [p] := ⟨L.dropLast, L.getLast hne, (List.dropLast_concat_getLast hne).symm⟩
      obtain ⟨h1, h2⟩ := ih L' (by simp at h; exact h)
      rw [mapN_snoc, size_put (mapN_tidy L'), mapN_has, List.map_append, List.nodup_append]
      have hl := lastV_none p.1 L'
      have hk : (lastV p.1 L').isSome = true ↔ p.1 ∈ L'.map Prod.fst := by
        rw [List.mem_map]
        constructor
        · intro h3
          obtain ⟨v, hv⟩ := Option.isSome_iff_exists.1 h3
          exact ⟨_, lastV_mem _ _ _ hv, rfl⟩
        · rintro ⟨q, hq, e⟩
          cases hv : lastV p.1 L' with
          | some v => rfl
          | none => exact absurd e (hl.1 hv q hq)
      simp only [List.length_append, List.length_cons, List.length_nil, List.map_cons, List.map_nil]
      by_cases hs : (lastV p.1 L').isSome = true
      · rw [if_pos hs]
        refine ⟨by omega, ⟨fun h3 => by omega, ?_⟩⟩
        rintro ⟨_, _, h5⟩
        exact absurd rfl (h5 _ (hk.1 hs) _ (List.mem_singleton.2 rfl))
      · rw [if_neg hs]
        refine ⟨by omega, ⟨fun h3 => ⟨h2.1 (by omega), by simp, fun a ha b hb => ?_⟩, ?_⟩⟩
        · rw [List.mem_singleton] at hb
          subst hb
          intro e
          subst e
          exact hs (hk.2 ha)
        · rintro ⟨h5, _, _⟩
          have := h2.2 h5
          omega
  exact key _ L rfl
/-- A map from ids to nodes. -/
def OwnsN (w : World) (b n : Nat) (L : List (Int × Value)) : Prop := w.ownsMap Try.prog 3 heldE b n (mapN L)
theorem OwnsN.at {w w' : World} {b n : Nat} {L : List (Int × Value)} (h : OwnsN w b n L) (e : w'.heap[b]? = w.heap[b]?) : OwnsN w' b n L := by
  obtain ⟨es, clock, hb, h⟩ := h
  exact ⟨es, clock, e.trans hb, h⟩
/-- The values of the nodes of a walk. -/
def ValsOf (w : World) (S : Nat → Prop) (T : List Sp) (L : List (Int × Value)) : Prop := L.length = T.length ∧ ∀ (k : Nat) (x : Sp) (p : Int × Value), T[k]? = some x → L[k]? = some p → p.1 = x.2.1.1 ∧ TrAt w S p.2 (trOf x)
theorem ValsOf.kept {w w' : World} {S S' : Nat → Prop} {T : List Sp} {L : List (Int × Value)} (h : ValsOf w S T L) (hS : ∀ y, S y → S' y ∧ w'.heap[y]? = w.heap[y]?) : ValsOf w' S' T L :=
  ⟨h.1, fun k x p hx hp => ⟨(h.2 k x p hx hp).1, (h.2 k x p hx hp).2.kept hS⟩⟩
theorem ValsOf.snoc {w : World} {S : Nat → Prop} {T : List Sp} {L : List (Int × Value)} {x : Sp} {p : Int × Value} (h : ValsOf w S T L) (h1 : p.1 = x.2.1.1) (h2 : TrAt w S p.2 (trOf x)) : ValsOf w S (T ++ [x]) (L ++ [p]) := by
  refine ⟨by rw [List.length_append, List.length_append, h.1]; rfl, fun k y q hy hq => ?_⟩
  by_cases hk : k < T.length
  · rw [List.getElem?_append_left hk] at hy
    rw [List.getElem?_append_left (by rw [h.1]; exact hk)] at hq
    exact h.2 k y q hy hq
  · rw [List.getElem?_append_right (by omega)] at hy
    rw [List.getElem?_append_right (by rw [h.1]; omega), h.1] at hq
    cases hj : k - T.length with
    | zero => rw [hj] at hy hq; simp at hy hq; subst hy; subst hq; exact ⟨h1, h2⟩
    | succ j => rw [hj] at hy; simp at hy
theorem ValsOf.ids {w : World} {S : Nat → Prop} {T : List Sp} {L : List (Int × Value)} (h : ValsOf w S T L) : L.map Prod.fst = T.map fun x => x.2.1.1 := by
  apply List.ext_getElem?
  intro k
  rw [List.getElem?_map, List.getElem?_map]
  rcases Nat.lt_or_ge k T.length with hk | hk
  · have hk2 : k < L.length := by rw [h.1]; exact hk
    rw [List.getElem?_eq_getElem hk, List.getElem?_eq_getElem hk2]
    have := (h.2 k _ _ (List.getElem?_eq_getElem hk) (List.getElem?_eq_getElem hk2)).1
    simp [this]
  · rw [List.getElem?_eq_none hk, List.getElem?_eq_none (by rw [h.1]; exact hk)]; rfl
theorem ValsOf.mem {w : World} {S : Nat → Prop} {T : List Sp} {L : List (Int × Value)} (h : ValsOf w S T L) {p : Int × Value} (hp : p ∈ L) : ∃ x ∈ T, p.1 = x.2.1.1 ∧ TrAt w S p.2 (trOf x) := by
  obtain ⟨k, hk⟩ := List.mem_iff_getElem?.1 hp
  obtain ⟨hl, _⟩ := List.getElem?_eq_some_iff.1 hk
  have hx := List.getElem?_eq_getElem (l := T) (i := k) (by rw [← h.1]; exact hl)
  exact ⟨_, List.mem_of_getElem? hx, h.2 k _ p hx hk⟩
end Go.Proofs.Ytfdcopegkhofnaa
namespace Go.Proofs.Ytfdcopegkhofnaa
open Go.RowKit
set_option linter.unusedVariables false
set_option linter.unusedSimpArgs false

def GreatS1 (w : World) (x : Tr) (e : Ending) (w' : World) : Prop := ∃ b, e = .returned (.bool b) ∧ (b = false → foSize x.kids + 1 ≤ 250) ∧ Below w.heap.size w w'
set_option maxRecDepth 100000 in
set_option maxHeartbeats 4000000 in
theorem greatS1_any (w : World) (Sx : Nat → Prop) (x : Tr) (op id par at_ : Int) (tx : ByteArray) (sa : Option Addr) (sn sc b : Nat) (hx : TrAt w Sx (.agg #[.int .i64 x.id, .int .i64 x.kind, .string x.text, .slice sa sn sc]) x) (hSx : ∀ y, Sx y → y < w.heap.size) (hlen : foLen x.kids ≤ 9223372036854775807) (hfit : foFit x.kids) (htx : (tx.size : Int) ≤ 9223372036854775807) (hb : w.heap[b]? = some (.cells #[.int .i8 op, .int .i64 id, .int .i64 par, .int .i64 at_, .string tx, .int .i64 x.id, .int .i64 x.kind, .string x.text, .slice sa sn sc] 47 (0, 0))) :
    Calls Try.prog 14 #[.slice (some ⟨b, 0, none⟩) 1 1] w (GreatS1 w x) := by
  have htr : ∀ X, Below w.heap.size w X → TrAt X Sx (.agg #[.int .i64 x.id, .int .i64 x.kind, .string x.text, .slice sa sn sc]) x := fun X hX => hx.kept fun y hy => ⟨hy, hX.block y (hSx y hy)⟩
  have hgr : ∀ X, Below w.heap.size w X → Calls Try.prog 13 #[.agg #[.int .i64 x.id, .int .i64 x.kind, .string x.text, .slice sa sn sc]] X (GreatC3 X x) := fun X hX => great3_any X Sx _ x hlen hfit (fun y hy => Nat.lt_of_lt_of_le (hSx y hy) hX.size) (htr X hX)
  have hwk : ∀ X, Below w.heap.size w X → Calls Try.prog 28 #[.agg #[.int .i64 x.id, .int .i64 x.kind, .string x.text, .slice sa sn sc], .int .i64 251] X (WalkM X Sx x 251) := fun X hX => walkM_any 251 (by omega) X Sx _ x hlen hfit (fun y hy => Nat.lt_of_lt_of_le (hSx y hy) hX.size) (htr X hX)
  have hce : ∀ X, Below w.heap.size w X → X.cell? ⟨b, 4, none⟩ = some (.string tx) ∧ X.cell? ⟨b, 5, none⟩ = some (.int .i64 x.id) ∧ X.cell? ⟨b, 6, none⟩ = some (.int .i64 x.kind) ∧ X.cell? ⟨b, 7, none⟩ = some (.string x.text) ∧ X.cell? ⟨b, 8, none⟩ = some (.slice sa sn sc) := fun X hX => by
    have e1 := (hX.block _ (lt_of_heap hb)).trans hb
    exact ⟨by rw [cell_of_row _ _ 4 _ _ _ e1]; rfl, by rw [cell_of_row _ _ 5 _ _ _ e1]; rfl, by rw [cell_of_row _ _ 6 _ _ _ e1]; rfl, by rw [cell_of_row _ _ 7 _ _ _ e1]; rfl, by rw [cell_of_row _ _ 8 _ _ _ e1]; rfl⟩
  have HG := Lib.hid (And.intro hgr hwk)
  have HCE := Lib.hid hce
  have HB0 := Lib.hid (Below.refl w.heap.size w)
  clear htr hgr hwk hce hx hSx hlen hfit hb
  go_enter Try.func14, Try.ntmps14
  go_wp2_with fail
  go_loopw [3, 4, 11] (fun n1 n2 i wr => ∃ k : Nat, k ≤ 1 ∧ i = .int .i64 (k : Int) ∧ (k = 0 → n1 = .int .i64 0 ∧ n2 = .int .i64 0) ∧ Hid (Below w.heap.size w wr ∧ (k = 1 → foSize x.kids + 1 ≤ 250))) (fun _ _ i _ => 1 - (intOf i).toNat)
  case atStart => exact ⟨0, Nat.zero_le _, rfl, fun _ => ⟨rfl, rfl⟩, Lib.hid ⟨HB0.out, fun h => by cases h⟩⟩
  case round =>
    obtain ⟨k, hk, rfl, hz, hh⟩ := hrel
    by_cases hk0 : k = 0
    · subst hk0
      obtain ⟨rfl, rfl⟩ := hz rfl
      have HBR := Lib.hid hh.out.1
      obtain ⟨c4, c5, c6, c7, c8⟩ := HCE.out wr HBR.out
      have HGR := Lib.hid (HG.out.1 wr HBR.out)
      clear hh hz hk
      go_wp2_with fail
      refine HGR.out.mono ?_
      rintro e w1 ⟨bg, rfl, hbg, hb1⟩
      have HB1 := Lib.hid (HBR.out.trans (hb1.mono HBR.out.size))
      have HBG := Lib.hid hbg
      clear c4 c5 c6 c7 c8 hb1 hbg HGR
      obtain ⟨c4, c5, c6, c7, c8⟩ := HCE.out w1 HB1.out
      cases bg
      · have hsz := HBG.out rfl
        have HSZ := Lib.hid hsz
        have HWK := Lib.hid (HG.out.2 w1 HB1.out)
        by_cases hbig : 20000 < tx.size
        · have hbig2 : (20000 : Int) - 0 < (tx.size : Int) := by omega
          clear hsz hbig
          go_wp2_with fail
          go_ret
          exact ⟨true, rfl, (fun e => by cases e), HB1.out⟩
        · have hbig2 : ¬ (20000 : Int) - 0 < (tx.size : Int) := by omega
          clear hsz hbig
          go_wp2_with fail
          refine HWK.out.mono ?_
          rintro e w3 ⟨la, lc, rfl, _, hb3⟩
          have HB3 := Lib.hid (HB1.out.trans (hb3.mono HB1.out.size))
          obtain ⟨n, hn⟩ : ∃ n, n = ((spF 1 (rootF x)).take 251).length := ⟨_, rfl⟩
          rw [← hn]
          have hn2 : n ≤ 251 := by rw [hn, List.length_take]; omega
          clear hn hb3 c4 c5 c6 c7 c8
          go_wp2_with fail
          refine ⟨⟨1, by omega, by go_num, (fun h => by cases h), Lib.hid ⟨HB3.out, fun _ => HSZ.out⟩⟩, by simp [intOf]⟩
      · go_wp2_with fail
        go_ret
        exact ⟨true, rfl, (fun e => by cases e), HB1.out⟩
    · have hk1 : k = 1 := by omega
      subst hk1
      have HF := hh
      clear hh hz hk hk0
      go_wp2_with fail
      go_ret
      exact ⟨false, rfl, fun _ => HF.out.2 (by trivial), HF.out.1⟩
end Go.Proofs.Ytfdcopegkhofnaa
