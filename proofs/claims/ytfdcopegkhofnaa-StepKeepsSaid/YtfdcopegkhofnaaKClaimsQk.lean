/-
  What a step that goes keeps, plainly: which ids stay, which nodes are as they were. No condition.
  A map from ids to nodes at the operations: what is looked up, and a range over it. No condition.
  What a step that goes keeps, told of the maps from ids to nodes. No condition.
-/
import Derived.Test.YtfdcopegkhofnaaKDoQk
import Derived.Test.YtfdcopegkhofnaaKMapPQk
import Derived.Maps.RangeWalk
namespace Go.Proofs.Ytfdcopegkhofnaa
open Go.RowKit Go.Shelf
set_option linter.unusedVariables false
set_option linter.unusedSimpArgs false

theorem bad_nodup {g : Gr} : ∀ (L : List Sp) (ids : List Int) (i : Nat), badAt g ids i L = none → (L.map fun x => x.2.1.1).Nodup ∧ ∀ x ∈ L, x.2.1.1 ∉ ids
  | [], ids, i, _ => ⟨List.nodup_nil, fun x h => by cases h⟩
  | x :: r, ids, i, h => by
    rw [badAt] at h
    split at h
    · cases h
    · rename_i ha
      obtain ⟨h1, h2⟩ := bad_nodup r _ _ h
      have hx : x.2.1.1 ∉ ids := fun hm => by
        apply ha
        have hany : ids.any (· == x.2.1.1) = true := List.any_eq_true.2 ⟨_, hm, by simp⟩
        unfold atB
        rw [show (trOf x).id = x.2.1.1 from rfl, hany]
        simp
      refine ⟨?_, fun y hy => ?_⟩
      · rw [List.map_cons, List.nodup_cons]
        refine ⟨fun hm => ?_, h1⟩
        obtain ⟨y, hy, e⟩ := List.mem_map.1 hm
        exact h2 y hy (by rw [e]; simp)
      · rcases List.mem_cons.1 hy with rfl | hy
        · exact hx
        · exact fun hm => h2 y hy (List.mem_append_left _ hm)
theorem tree_dist {g : Gr} {t : Tr} (h : (treeR g t).2 = 0) : DistT t ∧ foSize t.kids + 1 ≤ 200 := by
  unfold treeR at h
  split at h
  · exact absurd h (by decide)
  · unfold subR at h
    split at h
    · split at h
      · exact absurd h (by decide)
      · rename_i hs
        unfold faultR at h
        split at h
        · exact absurd (show (70 : Int) = 0 from h) (by decide)
        · rename_i hb
          exact ⟨(bad_nodup _ _ _ hb).1, by omega⟩
    · exact absurd h (by decide)
theorem same_of_id : ∀ {T : List Sp}, (T.map fun x => x.2.1.1).Nodup → ∀ {a b : Sp}, a ∈ T → b ∈ T → a.2.1.1 = b.2.1.1 → a = b
  | [], _, _, _, h, _, _ => by cases h
  | x :: r, hn, a, b, ha, hb, e => by
    rw [List.map_cons, List.nodup_cons] at hn
    have hr : ∀ z ∈ r, z.2.1.1 ≠ x.2.1.1 := fun z hz he => hn.1 (List.mem_map.2 ⟨z, hz, he⟩)
    rcases List.mem_cons.1 ha with h1 | h1
    · rcases List.mem_cons.1 hb with h2 | h2
      · rw [h1, h2]
      · exact absurd (by rw [← e, h1]) (hr b h2)
    · rcases List.mem_cons.1 hb with h2 | h2
      · exact absurd (by rw [e, h2]) (hr a h1)
      · exact same_of_id hn.2 h1 h2 e
/-- Does a node of that id stand there? -/
def hasId (i : Int) (t : Tr) : Prop := ∃ x ∈ spF 1 (rootF t), x.2.1.1 = i
theorem hasId_iff (i : Int) (t : Tr) : hasId i t ↔ 0 < cntT i t := by
  rw [← cntQ_id, ← cntQ_mem]
  simp only [hasId, isId, decide_eq_true_eq]
/-- The nodes that a deletion takes. -/
def goneT (op id : Int) (t : Tr) : List Sp := if op = 2 then spF 1 (rootF (((pathT id t).bind (atT t)).getD zeroK)) else []
theorem keep_there {op id : Int} {tx : ByteArray} {x t y : Tr} (h : Fx op id tx x t y) (ht : DistT t) (hy : DistT y) {a : Sp} (ha : a ∈ spF 1 (rootF t)) :
    (hasId a.2.1.1 y ↔ ¬ ∃ c ∈ goneT op id t, c.2.1.1 = a.2.1.1) ∧ ∀ b ∈ spF 1 (rootF y), b.2.1.1 = a.2.1.1 → b.2.1.2.1 = a.2.1.2.1 ∧ (b.2.1.2.2 = a.2.1.2.2 ∨ op = 4 ∧ a.2.1.1 = id) := by
  obtain ⟨i, hi⟩ : ∃ i, i = a.2.1.1 := ⟨_, rfl⟩
  have hat : 0 < cntT i t := (hasId_iff i t).1 ⟨a, ha, hi.symm⟩
  have ht1 := (dist_cnt t).1 ht i
  have hy1 := (dist_cnt y).1 hy i
  -- a node of a's id, kind (and text) is in y
  have key : ∀ p : Key → Bool, p a.2.1 = true → (∀ k, p k = true → k.1 = i) → 0 < cntQ p y → ∀ b ∈ spF 1 (rootF y), b.2.1.1 = i → p b.2.1 = true := fun p hp hpi hc b hb hbi => by
    obtain ⟨c, hcm, hcp⟩ := (cntQ_mem p y).2 hc
    have e : c = b := same_of_id hy hcm hb ((hpi _ hcp).trans hbi.symm)
    rw [← e]; exact hcp
  obtain ⟨pk, hpk⟩ : ∃ pk : Key → Bool, pk = fun k => decide (k.1 = i ∧ k.2.1 = a.2.1.2.1) := ⟨_, rfl⟩
  obtain ⟨pt, hpt⟩ : ∃ pt : Key → Bool, pt = fun k => decide (k.1 = i ∧ k.2.1 = a.2.1.2.1 ∧ k.2.2 = a.2.1.2.2) := ⟨_, rfl⟩
  have hka : pk a.2.1 = true := by rw [hpk]; simp [hi]
  have hta : pt a.2.1 = true := by rw [hpt]; simp [hi]
  have hki : ∀ k, pk k = true → k.1 = i := fun k h => by rw [hpk] at h; simp only [decide_eq_true_eq] at h; exact h.1
  have hti : ∀ k, pt k = true → k.1 = i := fun k h => by rw [hpt] at h; simp only [decide_eq_true_eq] at h; exact h.1
  have hkt : 0 < cntQ pk t := (cntQ_mem pk t).1 ⟨a, ha, hka⟩
  have htt : 0 < cntQ pt t := (cntQ_mem pt t).1 ⟨a, ha, hta⟩
  have fin : (0 < cntQ pk y) → (0 < cntQ pt y ∨ op = 4 ∧ i = id) → ∀ b ∈ spF 1 (rootF y), b.2.1.1 = a.2.1.1 → b.2.1.2.1 = a.2.1.2.1 ∧ (b.2.1.2.2 = a.2.1.2.2 ∨ op = 4 ∧ a.2.1.1 = id) := fun h1 h2 b hb hbi => by
    have e1 := key pk hka hki h1 b hb (hbi.trans hi.symm)
    rw [hpk] at e1
    simp only [decide_eq_true_eq] at e1
    refine ⟨e1.2, ?_⟩
    rcases h2 with h2 | h2
    · have e2 := key pt hta hti h2 b hb (hbi.trans hi.symm)
      rw [hpt] at e2
      simp only [decide_eq_true_eq] at e2
      exact Or.inl e2.2.2
    · exact Or.inr ⟨h2.1, by rw [← hi]; exact h2.2⟩
  rw [← hi] at fin ⊢
  rw [hasId_iff]
  cases h with
  | ins ho h =>
    have h1 := h (isId i)
    rw [cntQ_id, cntQ_id] at h1
    refine ⟨⟨fun _ hc => ?_, fun _ => by omega⟩, fin (by rw [h pk]; omega) (Or.inl (by rw [h pt]; omega))⟩
    obtain ⟨c, hc, _⟩ := hc
    rw [goneT, if_neg (by omega)] at hc; cases hc
  | mov ho h =>
    have h1 := h (isId i)
    rw [cntQ_id, cntQ_id] at h1
    refine ⟨⟨fun _ hc => ?_, fun _ => by omega⟩, fin (by rw [h pk]; omega) (Or.inl (by rw [h pt]; omega))⟩
    obtain ⟨c, hc, _⟩ := hc
    rw [goneT, if_neg (by omega)] at hc; cases hc
  | del ho q v hq hv h =>
    have h1 := h (isId i)
    rw [cntQ_id, cntQ_id, cntQ_id] at h1
    have hg : goneT op id t = spF 1 (rootF v) := by rw [goneT, if_pos ho, hq, Option.bind_some, hv]; rfl
    have hgi : (∃ c ∈ goneT op id t, c.2.1.1 = i) ↔ 0 < cntT i v := by rw [hg]; exact hasId_iff i v
    rw [hgi]
    refine ⟨⟨fun _ => by omega, fun _ => by omega⟩, fun b hb hbi => ?_⟩
    have hyb : 0 < cntT i y := (hasId_iff i y).1 ⟨b, hb, hbi⟩
    have hle : ∀ p : Key → Bool, (∀ k, p k = true → k.1 = i) → cntQ p v = 0 := fun p hp => by
      rcases Nat.eq_zero_or_pos (cntQ p v) with h0 | h0
      · exact h0
      · obtain ⟨c, hcm, hcp⟩ := (cntQ_mem p v).2 h0
        have := (hasId_iff i v).1 ⟨c, hcm, hp _ hcp⟩
        omega
    exact fin (by have := h pk; have := hle pk hki; omega) (Or.inl (by have := h pt; have := hle pt hti; omega)) b hb hbi
  | wri ho q u hq hu h =>
    have h1 := h (isId i)
    have e1 : oneP (isId i) (u.id, u.kind, tx) = oneP (isId i) u.key := rfl
    rw [cntQ_id, cntQ_id, e1] at h1
    have huid : u.id = id := by obtain ⟨u', h1, h2⟩ := pathT_at id t q hq; rw [hu] at h1; cases h1; exact h2
    have e2 : oneP pk (u.id, u.kind, tx) = oneP pk u.key := by rw [hpk]; rfl
    have h2 := h pk
    rw [e2] at h2
    refine ⟨⟨fun _ hc => ?_, fun _ => by omega⟩, fin (by omega) ?_⟩
    · obtain ⟨c, hc, _⟩ := hc
      rw [goneT, if_neg (by omega)] at hc; cases hc
    · by_cases hii : i = id
      · exact Or.inr ⟨ho, hii⟩
      · have e3 : oneP pt (u.id, u.kind, tx) = 0 := by rw [oneP, if_neg]; intro hp; have := hti _ hp; exact hii (this.symm.trans huid)
        have e4 : oneP pt u.key = 0 := by rw [oneP, if_neg]; intro hp; have := hti _ hp; exact hii (this.symm.trans huid)
        have h3 := h pt
        exact Or.inl (by omega)
theorem keep_from {op id : Int} {tx : ByteArray} {x t y : Tr} (h : Fx op id tx x t y) {b : Sp} (hb : b ∈ spF 1 (rootF y)) : hasId b.2.1.1 t ∨ op = 1 ∧ hasId b.2.1.1 x := by
  have hc : 0 < cntT b.2.1.1 y := (hasId_iff _ y).1 ⟨b, hb, rfl⟩
  rw [hasId_iff, hasId_iff]
  cases h with
  | ins ho h =>
    have h1 := h (isId b.2.1.1)
    rw [cntQ_id, cntQ_id, cntQ_id] at h1
    by_cases h0 : 0 < cntT b.2.1.1 t
    · exact Or.inl h0
    · exact Or.inr ⟨ho, by omega⟩
  | del ho q v hq hv h =>
    have h1 := h (isId b.2.1.1)
    rw [cntQ_id, cntQ_id, cntQ_id] at h1
    exact Or.inl (by omega)
  | mov ho h =>
    have h1 := h (isId b.2.1.1)
    rw [cntQ_id, cntQ_id] at h1
    exact Or.inl (by omega)
  | wri ho q u hq hu h =>
    have h1 := h (isId b.2.1.1)
    have e1 : oneP (isId b.2.1.1) (u.id, u.kind, tx) = oneP (isId b.2.1.1) u.key := rfl
    rw [cntQ_id, cntQ_id, e1] at h1
    exact Or.inl (by omega)
theorem keep_more {op id : Int} {tx : ByteArray} {x t y : Tr} (h : Fx op id tx x t y) (hy : DistT y) (ho : op = 1) : DistT x ∧ (spF 1 (rootF y)).length = (spF 1 (rootF t)).length + (spF 1 (rootF x)).length := by
  cases h with
  | ins _ h =>
    refine ⟨(dist_cnt x).2 fun a => ?_, ?_⟩
    · have h1 := h (isId a)
      rw [cntQ_id, cntQ_id, cntQ_id] at h1
      have := (dist_cnt y).1 hy a
      omega
    · have h1 := h (fun _ => true)
      rw [cntQ_all, cntQ_all, cntQ_all] at h1
      rw [spF_length, spF_length, spF_length, rootF_size, rootF_size, rootF_size]; exact h1
  | del h1 => omega
  | mov h1 => omega
  | wri h1 => omega
end Go.Proofs.Ytfdcopegkhofnaa
namespace Go.Proofs.Ytfdcopegkhofnaa
open Go.RowKit Go.Shelf
open Go.Maps
set_option linter.unusedVariables false
set_option linter.unusedSimpArgs false

def zeroNV : Value := .agg #[.int .i64 0, .int .i64 0, .string ⟨#[]⟩, .slice none 0 0]
theorem zeroN_run (w : World) : (zeroValue 24).run Try.prog w = .ok zeroNV w := by kernel_rfl
theorem heldE_zero : heldE zeroNV = some (.held zeroNV, []) := rfl
theorem look_some {w : World} {b n : Nat} {L : List (Int × Value)} {i : Int} {v : Value} (h : OwnsN w b n L) (hi : (Lit.int .i64 i).wf = true) (hv : lastV i L = some v) : (Instr.lookup 87 (.map (some b)) (.int .i64 i) true).run Try.prog w = .ok (.tuple #[v, .bool true]) w := by
  obtain ⟨u, ps, hrun, hu⟩ := World.ownsMap.look_ok h law7 Try.underlying87 (zeroN_run w) heldE_zero (keyOf_int_mk (P := Try.prog) Try.underlying3 hi)
  rw [mapN_at, hv] at hu
  obtain ⟨e, _⟩ := heldE_inv hu
  have : v = u := by
    have := congrArg Prod.fst e
    simp only at this
    injection this
  rw [hrun, mapN_has, hv, this]; rfl
theorem look_none {w : World} {b n : Nat} {L : List (Int × Value)} {i : Int} (h : OwnsN w b n L) (hi : (Lit.int .i64 i).wf = true) (hv : lastV i L = none) : (Instr.lookup 87 (.map (some b)) (.int .i64 i) true).run Try.prog w = .ok (.tuple #[zeroNV, .bool false]) w := by
  obtain ⟨u, ps, hrun, hu⟩ := World.ownsMap.look_ok h law7 Try.underlying87 (zeroN_run w) heldE_zero (keyOf_int_mk (P := Try.prog) Try.underlying3 hi)
  rw [mapN_at, hv] at hu
  obtain ⟨e, _⟩ := heldE_inv hu
  have : zeroNV = u := by
    have := congrArg Prod.fst e
    simp only at this
    injection this
  rw [hrun, mapN_has, hv, this]; rfl
theorem look_one {w : World} {b n : Nat} {L : List (Int × Value)} {i : Int} {v : Value} (h : OwnsN w b n L) (hi : (Lit.int .i64 i).wf = true) (hv : lastV i L = some v) : (Instr.lookup 87 (.map (some b)) (.int .i64 i) false).run Try.prog w = .ok v w := by
  obtain ⟨u, ps, hrun, hu⟩ := World.ownsMap.lookup h law7 Try.underlying87 (zeroN_run w) heldE_zero (keyOf_int_mk (P := Try.prog) Try.underlying3 hi)
  rw [mapN_at, hv] at hu
  obtain ⟨e, _⟩ := heldE_inv hu
  have : v = u := by
    have := congrArg Prod.fst e
    simp only at this
    injection this
  rw [hrun, this]
theorem held_inj {a b : Value} (h : (DataW.held a : DataW Value) = .held b) : a = b := by injection h
section
variable (w : World) {ops : Array Oper} {rest : List Oper} {o : Oper} {a : Act} {Q : Exit → Act → World → Prop}
/-- A range's step. -/
theorem wpList_next_nodes (hg : o.guard = none) (it : Operand) (hop : o.op = Op.next it false) (b r n : Nat) (L : List (Int × Value)) (left : Lit → Bool) (cnt : Nat) (hit : a.eval it = .pointer (some ⟨r, 0, none⟩)) (h : w.ranges Try.prog 3 heldE b r n (mapN L) left cnt)
    (hDone : cnt = 0 → wpList Try.prog ops Q rest (a.put o.dst (.tuple #[.bool false])) w)
    (hMore : ∀ (i ya yk : Int) (ys : ByteArray) (yp : Option Addr) (yn yc : Nat) (w' : World) (left' : Lit → Bool) (cnt' : Nat), (Lit.int .i64 i).wf = true → lastV i L = some (.agg #[.int .i64 ya, .int .i64 yk, .string ys, .slice yp yn yc]) → w'.ranges Try.prog 3 heldE b r n (mapN L) left' cnt' → cnt' < cnt → w.grownBy w' (some r) → w'.heap.size = w.heap.size →
      (Instr.entry (.pointer (some ⟨r, 0, none⟩))).run Try.prog w' = .ok (.tuple #[.int .i64 i, .agg #[.int .i64 ya, .int .i64 yk, .string ys, .slice yp yn yc]]) w' → wpList Try.prog ops Q rest (a.put o.dst (.tuple #[.bool true, .int .i64 i, .agg #[.int .i64 ya, .int .i64 yk, .string ys, .slice yp yn yc]])) w') :
    wpList Try.prog ops Q (o :: rest) a w :=
  wpList_next_ranges w hg it hop 3 law7 heldE (Value.int .i64) (fun c : Int × Int × ByteArray × Option Addr × Nat × Nat => Value.agg #[.int .i64 c.1, .int .i64 c.2.1, .string c.2.2.1, .slice c.2.2.2.1 c.2.2.2.2.1 c.2.2.2.2.2])
    (fun key kl hkey => by obtain ⟨x, rfl, _⟩ := Maps.keyOf_int_inv Try.underlying3 hkey; exact ⟨x, rfl⟩)
    (fun v y hv => by obtain ⟨_, a, k, s, p, n, c, rfl⟩ := heldE_inv hv; exact ⟨(a, k, s, p, n, c), rfl⟩)
    b r n (mapN L) left cnt hit h (fun h0 _ => hDone h0)
    (fun x c kl y w' cnt' hkey hlk hv hat hrg hlt hgr hsz hen => by
      obtain ⟨x', ex, rfl, hwx⟩ := Maps.keyOf_int_inv Try.underlying3 hkey
      cases ex
      obtain ⟨e, _⟩ := heldE_inv hv
      have hl := hat .nil
      rw [mapN_at, e] at hl
      refine hMore x c.1 c.2.1 c.2.2.1 c.2.2.2.1 c.2.2.2.2.1 c.2.2.2.2.2 w' _ cnt' hwx ?_ hrg hlt hgr hsz hen
      cases hx : lastV x L with
      | none => rw [hx] at hl; simp at hl
      | some u => rw [hx] at hl; simp only at hl; exact congrArg some (held_inj hl))
end
end Go.Proofs.Ytfdcopegkhofnaa
namespace Go.Proofs.Ytfdcopegkhofnaa
open Go.RowKit Go.Shelf
set_option linter.unusedVariables false
set_option linter.unusedSimpArgs false

def nodeV (a k : Int) (s : ByteArray) (p : Option Addr) (n c : Nat) : Value := .agg #[.int .i64 a, .int .i64 k, .string s, .slice p n c]
theorem vals_some {w : World} {S : Nat → Prop} {T : List Sp} {L : List (Int × Value)} (h : ValsOf w S T L) {i : Int} {v : Value} (hv : lastV i L = some v) : ∃ a ∈ T, a.2.1.1 = i ∧ ∃ p c, v = nodeV i a.2.1.2.1 a.2.1.2.2 p (foLen a.2.2) c := by
  obtain ⟨a, ha, e, p, c, e2, _⟩ := h.mem (lastV_mem _ _ _ hv)
  simp only at e e2
  refine ⟨a, ha, e.symm, p, c, ?_⟩
  rw [e2, e]; rfl
theorem vals_none {w : World} {S : Nat → Prop} {T : List Sp} {L : List (Int × Value)} (h : ValsOf w S T L) (i : Int) : lastV i L = none ↔ ¬ ∃ a ∈ T, a.2.1.1 = i := by
  rw [lastV_none]
  have hm : (∃ p ∈ L, p.1 = i) ↔ ∃ a ∈ T, a.2.1.1 = i := by
    have h1 : i ∈ L.map Prod.fst ↔ i ∈ T.map fun x => x.2.1.1 := by rw [h.ids]
    simpa [List.mem_map] using h1
  rw [← hm]
  constructor
  · rintro h1 ⟨p, hp, e⟩; exact h1 p hp e
  · intro h1 p hp e; exact h1 ⟨p, hp, e⟩
section
variable {op id : Int} {tx : ByteArray} {x t y : Tr} {wa wb wg wm : World} {Sa Sb Sg Sm : Nat → Prop} {La Lb Lg Lm : List (Int × Value)}
theorem claim1 (h : Fx op id tx x t y) (ht : DistT t) (hy : DistT y) (va : ValsOf wa Sa (spF 1 (rootF t)) La) (vb : ValsOf wb Sb (spF 1 (rootF y)) Lb) (vg : ValsOf wg Sg (goneT op id t) Lg)
    (i ya yk : Int) (ys : ByteArray) (yp : Option Addr) (yn yc : Nat) (hl : lastV i La = some (nodeV ya yk ys yp yn yc)) :
    (lastV i Lb = none ∧ ∃ gi gk gs gp gn gc, lastV i Lg = some (nodeV gi gk gs gp gn gc)) ∨ (∃ zi zs zp zn zc, lastV i Lb = some (nodeV zi yk zs zp zn zc) ∧ lastV i Lg = none ∧ (zs = ys ∨ op = 4 ∧ i = id)) := by
  obtain ⟨a, ha, hai, p, c, e⟩ := vals_some va hl
  unfold nodeV at e
  simp only [Value.agg.injEq, Array.mk.injEq, List.cons.injEq, Value.int.injEq, true_and, Value.string.injEq] at e
  obtain ⟨_, rfl, rfl, _⟩ := e
  obtain ⟨h1, h2⟩ := keep_there h ht hy ha
  rw [hai] at h1 h2
  cases hb : lastV i Lb with
  | none =>
    refine Or.inl ⟨rfl, ?_⟩
    have hn := (vals_none vb i).1 hb
    have hg : ¬ lastV i Lg = none := fun h0 => hn (h1.2 ((vals_none vg i).1 h0))
    cases hg2 : lastV i Lg with
    | none => exact absurd hg2 hg
    | some v =>
      obtain ⟨b, _, _, p2, c2, rfl⟩ := vals_some vg hg2
      exact ⟨_, _, _, _, _, _, rfl⟩
  | some v =>
    obtain ⟨b, hbm, hbi, p2, c2, rfl⟩ := vals_some vb hb
    obtain ⟨k1, k2⟩ := h2 b hbm hbi
    refine Or.inr ⟨i, b.2.1.2.2, p2, foLen b.2.2, c2, by rw [k1], (vals_none vg i).2 (h1.1 ⟨b, hbm, hbi⟩), k2⟩
theorem claim2 (h : Fx op id tx x t y) (va : ValsOf wa Sa (spF 1 (rootF t)) La) (vb : ValsOf wb Sb (spF 1 (rootF y)) Lb) (vm : ValsOf wm Sm (spF 1 (rootF x)) Lm)
    (i : Int) (v : Value) (hl : lastV i Lb = some v) :
    (∃ ai ak at_ ap an ac, lastV i La = some (nodeV ai ak at_ ap an ac)) ∨ (lastV i La = none ∧ op = 1 ∧ ∃ mi mk ms mp mn mc, lastV i Lm = some (nodeV mi mk ms mp mn mc)) := by
  obtain ⟨b, hb, hbi, _⟩ := vals_some vb hl
  have h1 := keep_from h hb
  rw [hbi] at h1
  cases ha : lastV i La with
  | some u =>
    obtain ⟨a, _, _, p, c, rfl⟩ := vals_some va ha
    exact Or.inl ⟨_, _, _, _, _, _, rfl⟩
  | none =>
    rcases h1 with h1 | ⟨ho, h1⟩
    · exact absurd h1 ((vals_none va i).1 ha)
    · refine Or.inr ⟨rfl, ho, ?_⟩
      cases hm : lastV i Lm with
      | none => exact absurd h1 ((vals_none vm i).1 hm)
      | some u =>
        obtain ⟨a, _, _, p, c, rfl⟩ := vals_some vm hm
        exact ⟨_, _, _, _, _, _, rfl⟩
/-- In the map of more there is one, or none, of any id. -/
theorem look_any (vm : ValsOf wm Sm (spF 1 (rootF x)) Lm) (i : Int) : lastV i Lm = none ∨ ∃ mi mk ms mp mn mc, lastV i Lm = some (nodeV mi mk ms mp mn mc) := by
  cases hm : lastV i Lm with
  | none => exact Or.inl rfl
  | some u =>
    obtain ⟨a, _, _, p, c, rfl⟩ := vals_some vm hm
    exact Or.inr ⟨_, _, _, _, _, _, rfl⟩
theorem size_dist (ht : DistT t) (va : ValsOf wa Sa (spF 1 (rootF t)) La) : Maps.size (mapN La) = (spF 1 (rootF t)).length := by
  rw [(mapN_size La).2.2 (by rw [va.ids]; exact ht), va.1]
theorem claim3 (h : Fx op id tx x t y) (ht : DistT t) (hy : DistT y) (va : ValsOf wa Sa (spF 1 (rootF t)) La) (vb : ValsOf wb Sb (spF 1 (rootF y)) Lb) (vm : ValsOf wm Sm (spF 1 (rootF x)) Lm) (ho : op = 1) :
    Maps.size (mapN Lb) = Maps.size (mapN La) + Maps.size (mapN Lm) := by
  obtain ⟨h1, h2⟩ := keep_more h hy ho
  rw [size_dist ht va, size_dist hy vb, size_dist h1 vm, h2]
/-- What is looked up where a deletion went: the node of that id. -/
theorem claim_gone (ho : op = 2) (h : Fx op id tx x t y) (ht : DistT t) (va : ValsOf wa Sa (spF 1 (rootF t)) La) : ∃ (u : Tr) (p : Option Addr) (c : Nat), lastV id La = some (nodeV u.id u.kind u.text p (foLen u.kids) c) ∧ TrAt wa Sa (nodeV u.id u.kind u.text p (foLen u.kids) c) u ∧ goneT op id t = spF 1 (rootF u) ∧ foSize u.kids ≤ foSize t.kids ∧ (∀ z ∈ spF 1 (rootF u), ∃ z' ∈ spF 1 (rootF t), z.2.1 = z'.2.1) := by
  cases h with
  | del _ q v hq hv h =>
    obtain ⟨v', hv', hvid⟩ := pathT_at id t q hq
    rw [hv] at hv'; cases hv'
    obtain ⟨a, ha, e⟩ := path_walk hv
    have haid : a.2.1.1 = id := by rw [← hvid, ← e]; rfl
    cases hl : lastV id La with
    | none => exact absurd ⟨a, ha, haid⟩ ((vals_none va id).1 hl)
    | some u =>
      obtain ⟨b, hb, hbi, hbt⟩ := va.mem (lastV_mem _ _ _ hl)
      simp only at hbi hbt
      have hab : b = a := same_of_id ht hb ha (by rw [← hbi, haid])
      subst hab
      obtain ⟨p, c, e2, h2, h3⟩ := hbt
      rw [e] at e2 h2 h3
      refine ⟨v, p, c, by rw [e2]; rfl, ⟨p, c, rfl, h2, h3⟩, by rw [goneT, if_pos ho, hq, Option.bind_some, hv]; rfl, by have := atT_size q t v hv; omega, fun z hz => ?_⟩
      have hc : 0 < cntQ (fun k => decide (k = z.2.1)) v := (cntQ_mem _ v).1 ⟨z, hz, by simp⟩
      have hc2 : 0 < cntQ (fun k => decide (k = z.2.1)) t := Nat.lt_of_lt_of_le hc (cntQ_at _ q t v hv)
      obtain ⟨z', hz', e3⟩ := (cntQ_mem _ t).2 hc2
      exact ⟨z', hz', (by simpa using e3 : z'.2.1 = z.2.1).symm⟩
  | ins h1 => omega
  | mov h1 => omega
  | wri h1 => omega
end
end Go.Proofs.Ytfdcopegkhofnaa
