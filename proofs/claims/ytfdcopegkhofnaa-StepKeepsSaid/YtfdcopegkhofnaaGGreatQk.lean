/-
  What a way's rows tell: paths, ids, plainly. No condition.
  Parent: a node's parent, and its place there. No condition but that there are not too many nodes.
  Within and Common: whether a node is in another one's subtree, and the lowest node that has two. No condition but that there are not too many nodes.
  Grammars in memory: plain definitions and their small laws. No condition.
  What 'Great' of layer 5 answers. No condition but that the grammar lies where it is said to lie.
-/
import Derived.Test.YtfdcopegkhofnaaHWayQk
import Derived.Test.YtfdcopegkhofnaaHSharedQk
import Derived.Test.YtfdcopegkhofnaaRows
import Derived.WalkKit
import Derived.WalkSpells
import Derived.WalkLawsBesides
import Derived.Lib.Hide
import Derived.Deep.RegionHeld3
import Derived.StillTailTactics
namespace Go.Proofs.Ytfdcopegkhofnaa
open Go.RowKit Go.Shelf
set_option linter.unusedVariables false

theorem fpi_root (id : Int) (t : Tr) : fpi id 0 (rootF t) = (pathT id t).map (fun p => 0 :: p) := by
  simp only [rootF, fpi, pathT]
  by_cases h : t.id = id
  · rw [if_pos h, if_pos h]; rfl
  · rw [if_neg h, if_neg h]
    cases fpi id 0 t.kids <;> rfl
theorem chain_drop {root : Fo} : ∀ (j : Nat) (L : List Fr), ChainS root L → ChainS root (L.drop j)
  | 0, _, h => h
  | j + 1, [], h => by simpa using h
  | j + 1, x :: L, h => chain_drop j L h.tail
theorem places_length (L : List Fr) : (places L).length = L.length := by simp [places]
theorem places_drop (L : List Fr) (k : Nat) (hk : k < L.length) : places (L.drop (L.length - 1 - k)) = (places L).take (k + 1) := by
  rw [places, places, ← List.map_take, List.take_reverse]
  congr 3; omega
/-- The k-th row of a way. -/
theorem WayAt.at {w' : World} {S : Nat → Prop} {t : Tr} {id : Int} {rv : Value} {L : List Fr} (h : WayAt w' S t id rv L) {k : Nat} (hk : k < L.length) : ∃ (g n cap b off q c pl : Nat) (u : Tr), rv = .slice (some ⟨g, 0, none⟩) n cap ∧ n = L.length ∧ n ≤ cap ∧ w'.cell? ⟨g, k * 2, none⟩ = some (.slice (some ⟨b, off, none⟩) q c) ∧ w'.cell? ⟨g, k * 2 + 1, none⟩ = some (.int .i64 (pl : Int)) ∧ pl < q ∧ q ≤ foSize t.kids + 1 ∧
    w'.cell? ⟨b, off + pl * 4, none⟩ = some (.int .i64 u.id) ∧ (places L)[k]? = some pl ∧ atT t (((places L).drop 1).take k) = some u := by
  obtain ⟨x, r, hxr⟩ : ∃ x r, L.drop (L.length - 1 - k) = x :: r := by
    cases hd : L.drop (L.length - 1 - k) with
    | nil => have := congrArg List.length hd; rw [List.length_drop, List.length_nil] at this; omega
    | cons x r => exact ⟨x, r, rfl⟩
  have hmem : ∀ y ∈ x :: r, y ∈ L := fun y hy => by rw [← hxr] at hy; exact List.mem_of_mem_drop hy
  have hxk : L.reverse[k]? = some x := by
    rw [List.getElem?_reverse hk]
    have h0 : (L.drop (L.length - 1 - k))[0]? = some x := by rw [hxr]; rfl
    rwa [List.getElem?_drop, Nat.add_zero] at h0
  obtain ⟨a, cap, rfl⟩ := owns_slice h.rows
  have hcap : L.length ≤ cap := by
    rcases h.rows.2 with ⟨hv, h0⟩ | ⟨_, _, _, hv, _, _, h3, _⟩
    · omega
    · cases hv; exact h3
  obtain ⟨g, rfl, hn, c0, c1, _⟩ := RowsAt.at h.rows hxk
  have hch := chain_drop (L.length - 1 - k) L h.chain
  rw [hxr] at hch
  obtain ⟨p, u, hp, hat, hu⟩ := chain_at (t := t) (x :: r) hch (fun y hy => h.ok y (hmem y hy)) x r rfl
  have hok := h.ok x (hmem x (by simp))
  obtain ⟨b0, o0, key, l, q, hd, b, off, ka, kc, ha, hSb, d0, _⟩ := (h.lies x (hmem x (by simp))).1.at x.p.toNat (by have := hok.1; have := hok.2; omega)
  have huk : u = ⟨key.1, key.2.1, key.2.2, l⟩ := by rw [kidF, hd] at hu; cases hu; rfl
  have hpx : x.p = (x.p.toNat : Int) := by have := hok.1; omega
  rw [hpx] at c1
  rw [ha] at c0
  have hl := chain_size _ h.chain x (hmem x (by simp))
  rw [rootF_size] at hl
  have hpl : places L = (places L).take (k + 1) ++ (places L).drop (k + 1) := (List.take_append_drop _ _).symm
  have hpk := places_drop L k hk
  rw [hxr, hp] at hpk
  refine ⟨g, L.length, cap, b, off, foLen x.f, x.cap, x.p.toNat, u, rfl, rfl, hcap, c0, c1, by have := hok.2; have := hok.1; omega, by omega, by rw [huk]; exact d0, ?_, ?_⟩
  · rw [places, List.getElem?_map, hxk]; rfl
  · have e : ((places L).drop 1).take k = p := by
      have h1 : (places L).drop 1 = ((places L).take (k + 1)).drop 1 ++ (places L).drop (k + 1) := by
        have h2 := List.drop_take (i := 1) (j := k + 1) (l := places L)
        rw [h2, Nat.add_sub_cancel]
        have h3 := List.take_append_drop k ((places L).drop 1)
        rw [List.drop_drop] at h3
        rw [Nat.add_comm k 1]
        exact h3.symm
      rw [h1, ← hpk]
      have hlen : p.length = k := by
        have := congrArg List.length hpk
        rw [List.length_take, places_length, List.length_cons] at this; omega
      simp [hlen]
    rw [e]; exact hat
/-- The path that a way tells. -/
theorem WayAt.path {w' : World} {S : Nat → Prop} {t : Tr} {id : Int} {rv : Value} {L : List Fr} (h : WayAt w' S t id rv L) : (L = [] ∧ pathT id t = none) ∨ (∃ p, pathT id t = some p ∧ places L = 0 :: p ∧ L.length = p.length + 1) := by
  have h1 := h.is
  rw [fpi_root] at h1
  rcases h1 with ⟨h1, h2⟩ | ⟨h1, h2⟩
  · left
    refine ⟨h1, ?_⟩
    cases hp : pathT id t with
    | none => rfl
    | some p => rw [hp] at h2; cases h2
  · right
    cases hp : pathT id t with
    | none => rw [hp] at h2; cases h2
    | some p =>
      rw [hp] at h2
      have h3 := Option.some.inj h2
      exact ⟨p, rfl, h3.symm, by rw [← places_length, ← h3]; rfl⟩
theorem WayAt.kept {w w' : World} {S : Nat → Prop} {t : Tr} {id : Int} {rv : Value} {L : List Fr} (h : WayAt w S t id rv L) (hb : Below w.heap.size w w') : WayAt w' S t id rv L :=
  ⟨h.rows.kept fun g hg => hb.block g (owns_bounds h.rows hg).2, h.ok, fun y hy => ⟨(h.lies y hy).1.kept fun k hk => ⟨hk, hb.block k (h.sl k hk)⟩, (h.lies y hy).2⟩, h.chain, h.is, h.few, fun y hy => Nat.lt_of_lt_of_le (h.sl y hy) hb.size⟩
def withinT (a b : Int) (t : Tr) : Bool := match pathT a t, pathT b t with
  | some p, some q => decide (lcp p q = p.length)
  | _, _ => false
end Go.Proofs.Ytfdcopegkhofnaa
namespace Go.Proofs.Ytfdcopegkhofnaa
open Go.RowKit Go.Shelf
set_option linter.unusedVariables false
set_option linter.unusedSimpArgs false

theorem box_below (w : World) (o : Obj) : Below w.heap.size w (w.alloc o) := (Below.refl _ _).alloc (Nat.le_refl _) _
end Go.Proofs.Ytfdcopegkhofnaa
namespace Go.Proofs.Ytfdcopegkhofnaa
open Go.RowKit Go.Shelf
set_option linter.unusedVariables false
set_option linter.unusedSimpArgs false

theorem lcp_cons (p q : List Nat) : lcp (0 :: p) (0 :: q) = lcp p q + 1 := by simp [lcp]
theorem lcp_nil (l : List Nat) : lcp ([] : List Nat) l = 0 := by simp [lcp]
theorem lcp_nil' (l : List Nat) : lcp l ([] : List Nat) = 0 := by cases l <;> simp [lcp]
theorem places_nil : places [] = [] := rfl
set_option maxRecDepth 100000 in
set_option maxHeartbeats 2000000 in
theorem within_any (w : World) (S : Nat → Prop) (nv : Value) (t : Tr) (a b : Int) (hS : ∀ x, S x → x < w.heap.size) (ht : TrAt w S nv t) (hsz : foSize t.kids ≤ 400000) : Calls Try.prog 61 #[nv, .int .i64 a, .int .i64 b] w fun e w' => e = .returned (.bool (withinT a b t)) ∧ Below w.heap.size w w' := by
  obtain ⟨ka, tc, rfl, hcap, hk⟩ := ht
  obtain ⟨B, hB⟩ : ∃ B, B = w.alloc (.cells #[.int .i64 t.id, .int .i64 t.kind, .string t.text, .slice ka (foLen t.kids) tc] 24) := ⟨_, rfl⟩
  have hb := box_below w (.cells #[.int .i64 t.id, .int .i64 t.kind, .string t.text, .slice ka (foLen t.kids) tc] 24)
  have hbx := heap_alloc_new w (.cells #[.int .i64 t.id, .int .i64 t.kind, .string t.text, .slice ka (foLen t.kids) tc] 24)
  rw [← hB] at hb hbx
  have hway := fun (i : Int) (X : World) (hX : Below B.heap.size B X) => way_any X S (.agg #[.int .i64 t.id, .int .i64 t.kind, .string t.text, .slice ka (foLen t.kids) tc]) t i (fun x hx => Nat.lt_of_lt_of_le (hS x hx) (Nat.le_trans hb.size hX.size)) ⟨ka, tc, rfl, hcap, hk.below (hb.trans (hX.mono hb.size)) hS⟩ hsz
  obtain ⟨n, hn⟩ : ∃ n, n = foLen t.kids := ⟨_, rfl⟩
  rw [← hn] at hB hbx
  simp only [← hn] at hway
  have HC := Lib.hid (And.intro hway (And.intro hb (And.intro hB hbx)))
  rw [← hn]
  obtain ⟨pr, hpr⟩ : ∃ pr, pr = withinT a b t := ⟨_, rfl⟩
  have HP := Lib.hid hpr
  have hpe : (.bool (withinT a b t) : Value) = (.bool (pr)) := by rw [hpr]
  rw [hpe]
  clear hway hb hk hcap hS hn hpr hpe hB hbx
  go_enter Try.func61, Try.ntmps61
  go_wp2_with fail
  rw [← HC.out.2.2.1]
  refine (HC.out.1 a B (Below.refl _ _)).mono ?_
  rintro e W ⟨rv, L, rfl, hw, hb, _⟩
  have hbxW := (hb.block _ (lt_of_heap HC.out.2.2.2)).trans HC.out.2.2.2
  have n0 : W.cell? ⟨w.heap.size, 0, none⟩ = some (.int .i64 t.id) := by rw [cell_of_row _ _ 0 _ _ _ hbxW]; rfl
  have n1 : W.cell? ⟨w.heap.size, 1, none⟩ = some (.int .i64 t.kind) := by rw [cell_of_row _ _ 1 _ _ _ hbxW]; rfl
  have n2 : W.cell? ⟨w.heap.size, 2, none⟩ = some (.string t.text) := by rw [cell_of_row _ _ 2 _ _ _ hbxW]; rfl
  have n3 : W.cell? ⟨w.heap.size, 3, none⟩ = some (.slice ka n tc) := by rw [cell_of_row _ _ 3 _ _ _ hbxW]; rfl
  have HW := Lib.hid (And.intro hw hb)
  clear hw hb hbxW
  go_wp2_with fail
  refine (HC.out.1 b W HW.out.2).mono ?_
  rintro e W2 ⟨rv2, L2, rfl, hw2, hb2, _⟩
  have hw := HW.out.1.kept hb2
  have hb9 : Below w.heap.size w W2 := (HC.out.2.1.trans (HW.out.2.mono HC.out.2.1.size)).trans (hb2.mono (Nat.le_trans HC.out.2.1.size HW.out.2.size))
  have hsh := shared_any W2 rv rv2 L L2 hw.rows hw2.rows (by have := hw.few; omega) (by have := hw2.few; omega)
  rw [lcp_places L L2 hw.ok hw2.ok] at hsh
  have H2 := Lib.hid (And.intro hw (And.intro hw2 hb9))
  have HSH := Lib.hid hsh
  clear hw hw2 hb2 hb9 hsh n0 n1 n2 n3
  go_wp2_with fail
  refine HSH.out.mono ?_
  rintro e W3 ⟨rfl, hb3⟩
  have hw3 := H2.out.1.kept hb3
  have hbz : Below w.heap.size w W3 := H2.out.2.2.trans (hb3.mono H2.out.2.2.size)
  obtain ⟨ra, rc, rfl⟩ := owns_slice hw3.rows
  obtain ⟨m, hm⟩ : ∃ m, m = lcp (places L) (places L2) := ⟨_, rfl⟩
  obtain ⟨len, hlen⟩ : ∃ len, len = L.length := ⟨_, rfl⟩
  have hml := lcp_le (places L) (places L2)
  rw [places_length, places_length, ← hm, ← hlen] at hml
  have hfew := hw3.few
  rw [← hlen] at hfew
  have hres : pr = (decide (0 < m) && decide (m = len)) := by
    rw [HP.out, withinT]
    rcases H2.out.1.path with ⟨h1, h2⟩ | ⟨p, h2, h3, h4⟩
    · rw [h2, hm, h1, places_nil, lcp_nil]; rfl
    · rw [h2]
      rcases H2.out.2.1.path with ⟨g1, g2⟩ | ⟨q, g2, g3, g4⟩
      · rw [g2, hm, g1, places_nil, lcp_nil']; simp
      · rw [g2, hm, h3, g3, lcp_cons, hlen, h4]
        simp only []
        rw [show decide (0 < lcp p q + 1) = true by simp, Bool.true_and]
        rw [decide_eq_decide]; omega
  have HE := Lib.hid (And.intro hres hbz)
  rw [← hm]
  rw [← hlen]
  clear hw3 hbz hb3 hres hm hlen hfew HSH HW HC
  by_cases h0 : 0 < m
  · have h0i : (0 : Int) < (m : Int) := by omega
    by_cases hq : m = len
    · have hqi : ((m : Int) == (len : Int)) = true := by simp; omega
      have HQ := Lib.hid (And.intro h0 hq)
      clear hq h0
      go_wp2_with fail
      go_ret
      exact ⟨congrArg (fun z => Ending.returned (.bool z)) (by rw [HE.out.1]; simp [HQ.out.1, HQ.out.2] <;> (have := HQ.out.1; have := HQ.out.2; omega)), HE.out.2⟩
    · have hqi : ((m : Int) == (len : Int)) = false := by simp; omega
      have HQ := Lib.hid (And.intro h0 hq)
      clear hq h0
      go_wp2_with fail
      go_ret
      exact ⟨congrArg (fun z => Ending.returned (.bool z)) (by rw [HE.out.1]; simp [HQ.out.2]), HE.out.2⟩
  · have h0i : ¬ (0 : Int) < (m : Int) := by omega
    have HQ := Lib.hid h0
    clear h0
    go_wp2_with fail
    go_ret
    exact ⟨congrArg (fun z => Ending.returned (.bool z)) (by rw [HE.out.1]; simp [HQ.out]), HE.out.2⟩
end Go.Proofs.Ytfdcopegkhofnaa
namespace Go.Proofs.Ytfdcopegkhofnaa
open Go.RowKit

/-- A slot, a kind, a grammar, plainly. -/
structure Sl where
  kinds : List Int
  least : Int
  most : Int
structure Kd where
  name : ByteArray
  text : Bool
  slots : List Sl
structure Gr where
  kinds : List Kd
  root : Int
instance : Inhabited Sl := ⟨⟨[], 0, 0⟩⟩
instance : Inhabited Kd := ⟨⟨⟨#[]⟩, false, []⟩⟩

/-- A row of ints, of slots, of kinds lies there. -/
def IntsAt (w : World) (a : Option Addr) (l : List Int) : Prop :=
  0 < l.length → ∃ b off, a = some ⟨b, off, none⟩ ∧ b < w.heap.size ∧ ∀ k x, l[k]? = some x → w.cell? ⟨b, off + k, none⟩ = some (.int .i64 x)
def SlotIn (w : World) (b o : Nat) (s : Sl) : Prop :=
  ∃ ka kc, w.cell? ⟨b, o, none⟩ = some (.slice ka s.kinds.length kc) ∧ w.cell? ⟨b, o + 1, none⟩ = some (.int .i64 s.least) ∧ w.cell? ⟨b, o + 2, none⟩ = some (.int .i64 s.most) ∧ IntsAt w ka s.kinds
def SlotsAt (w : World) (a : Option Addr) (l : List Sl) : Prop :=
  0 < l.length → ∃ b off, a = some ⟨b, off, none⟩ ∧ b < w.heap.size ∧ ∀ k s, l[k]? = some s → SlotIn w b (off + k * 3) s
def KindIn (w : World) (b o : Nat) (k : Kd) : Prop :=
  ∃ sa sc, w.cell? ⟨b, o, none⟩ = some (.string k.name) ∧ w.cell? ⟨b, o + 1, none⟩ = some (.bool k.text) ∧ w.cell? ⟨b, o + 2, none⟩ = some (.slice sa k.slots.length sc) ∧ SlotsAt w sa k.slots
def KindsAt (w : World) (a : Option Addr) (l : List Kd) : Prop :=
  0 < l.length → ∃ b off, a = some ⟨b, off, none⟩ ∧ b < w.heap.size ∧ ∀ k x, l[k]? = some x → KindIn w b (off + k * 3) x

theorem IntsAt.below {w w' : World} {a : Option Addr} {l : List Int} (h : IntsAt w a l) (hb : Below w.heap.size w w') : IntsAt w' a l := fun h0 => by
  obtain ⟨b, off, e, hlt, hc⟩ := h h0
  exact ⟨b, off, e, Nat.lt_of_lt_of_le hlt hb.size, fun k x hx => (World.cell?_of_block (hb.block _ hlt)).trans (hc k x hx)⟩
theorem SlotIn.below {w w' : World} {b o : Nat} {s : Sl} (h : SlotIn w b o s) (hlt : b < w.heap.size) (hb : Below w.heap.size w w') : SlotIn w' b o s := by
  obtain ⟨ka, kc, h0, h1, h2, h3⟩ := h
  have e : ∀ j, w'.cell? ⟨b, j, none⟩ = w.cell? ⟨b, j, none⟩ := fun j => World.cell?_of_block (hb.block _ hlt)
  exact ⟨ka, kc, (e _).trans h0, (e _).trans h1, (e _).trans h2, h3.below hb⟩
theorem SlotsAt.below {w w' : World} {a : Option Addr} {l : List Sl} (h : SlotsAt w a l) (hb : Below w.heap.size w w') : SlotsAt w' a l := fun h0 => by
  obtain ⟨b, off, e, hlt, hc⟩ := h h0
  exact ⟨b, off, e, Nat.lt_of_lt_of_le hlt hb.size, fun k x hx => (hc k x hx).below hlt hb⟩
theorem KindIn.below {w w' : World} {b o : Nat} {k : Kd} (h : KindIn w b o k) (hlt : b < w.heap.size) (hb : Below w.heap.size w w') : KindIn w' b o k := by
  obtain ⟨sa, sc, h0, h1, h2, h3⟩ := h
  have e : ∀ j, w'.cell? ⟨b, j, none⟩ = w.cell? ⟨b, j, none⟩ := fun j => World.cell?_of_block (hb.block _ hlt)
  exact ⟨sa, sc, (e _).trans h0, (e _).trans h1, (e _).trans h2, h3.below hb⟩
theorem KindsAt.below {w w' : World} {a : Option Addr} {l : List Kd} (h : KindsAt w a l) (hb : Below w.heap.size w w') : KindsAt w' a l := fun h0 => by
  obtain ⟨b, off, e, hlt, hc⟩ := h h0
  exact ⟨b, off, e, Nat.lt_of_lt_of_le hlt hb.size, fun k x hx => (hc k x hx).below hlt hb⟩

/-- The value of a slot, a kind, a grammar. -/
def SlotV (w : World) (v : Value) (s : Sl) : Prop := ∃ ka kc, v = .agg #[.slice ka s.kinds.length kc, .int .i64 s.least, .int .i64 s.most] ∧ IntsAt w ka s.kinds
def KindV (w : World) (v : Value) (k : Kd) : Prop := ∃ sa sc, v = .agg #[.string k.name, .bool k.text, .slice sa k.slots.length sc] ∧ SlotsAt w sa k.slots
def GrV (w : World) (v : Value) (g : Gr) : Prop := ∃ ka kc, v = .agg #[.slice ka g.kinds.length kc, .int .i64 g.root] ∧ KindsAt w ka g.kinds
theorem SlotV.below {w w' : World} {v : Value} {s : Sl} (h : SlotV w v s) (hb : Below w.heap.size w w') : SlotV w' v s := by obtain ⟨ka, kc, e, h1⟩ := h; exact ⟨ka, kc, e, h1.below hb⟩
theorem KindV.below {w w' : World} {v : Value} {k : Kd} (h : KindV w v k) (hb : Below w.heap.size w w') : KindV w' v k := by obtain ⟨ka, kc, e, h1⟩ := h; exact ⟨ka, kc, e, h1.below hb⟩
theorem GrV.below {w w' : World} {v : Value} {g : Gr} (h : GrV w v g) (hb : Below w.heap.size w w') : GrV w' v g := by obtain ⟨ka, kc, e, h1⟩ := h; exact ⟨ka, kc, e, h1.below hb⟩

theorem slotV {w : World} {s : Sl} {ka : Option Addr} {kc : Nat} (h : IntsAt w ka s.kinds) : SlotV w (.agg #[.slice ka s.kinds.length kc, .int .i64 s.least, .int .i64 s.most]) s := ⟨ka, kc, rfl, h⟩
theorem kindV {w : World} {k : Kd} {sa : Option Addr} {sc : Nat} (h : SlotsAt w sa k.slots) : KindV w (.agg #[.string k.name, .bool k.text, .slice sa k.slots.length sc]) k := ⟨sa, sc, rfl, h⟩
theorem grV {w : World} {l : List Kd} {root : Int} {ka : Option Addr} {kc : Nat} (h : KindsAt w ka l) : GrV w (.agg #[.slice ka l.length kc, .int .i64 root]) ⟨l, root⟩ := ⟨ka, kc, rfl, h⟩

/-- No row is longer than may be. -/
def Sl.fits (s : Sl) : Prop := (s.kinds.length : Int) ≤ 9223372036854775807
def Kd.fits (k : Kd) : Prop := (k.name.size : Int) ≤ 9223372036854775807 ∧ (k.slots.length : Int) ≤ 9223372036854775807 ∧ ∀ s ∈ k.slots, s.fits
def Gr.fits (g : Gr) : Prop := (g.kinds.length : Int) ≤ 9223372036854775807 ∧ ∀ k ∈ g.kinds, k.fits
/-- Far below what a machine's number holds. -/
def Sl.few (s : Sl) : Prop := s.kinds.length ≤ 1000000
def Kd.few (k : Kd) : Prop := k.name.size ≤ 1000000 ∧ k.slots.length ≤ 1000000 ∧ ∀ s ∈ k.slots, s.few
def Gr.few (g : Gr) : Prop := g.kinds.length ≤ 1000000 ∧ ∀ k ∈ g.kinds, k.few

/-- A yes or no, and nothing that was there has turned. -/
def Says (b : Bool) (w : World) (e : Ending) (w' : World) : Prop := e = .returned (.bool b) ∧ Below w.heap.size w w'
theorem Says.mk {b c : Bool} {w w' : World} (h : b = c) (hb : Below w.heap.size w w') : Says b w (.returned (.bool c)) w' := ⟨by rw [h], hb⟩
/-- A number likewise. -/
def Counts (n : Int) (w : World) (e : Ending) (w' : World) : Prop := e = .returned (.int .i64 n) ∧ Below w.heap.size w w'
theorem Counts.mk {b c : Int} {w w' : World} (h : b = c) (hb : Below w.heap.size w w') : Counts b w (.returned (.int .i64 c)) w' := ⟨by rw [h], hb⟩
end Go.Proofs.Ytfdcopegkhofnaa
namespace Go.Proofs.Ytfdcopegkhofnaa
open Go.RowKit

def greatS (s : Sl) : Bool := decide (40 < s.kinds.length)
def greatK (k : Kd) : Bool := decide (200 < k.name.size) || decide (20 < k.slots.length) || k.slots.any greatS
def greatG (g : Gr) : Bool := decide (40 < g.kinds.length) || g.kinds.any greatK
theorem drop_cons {α : Type} {l : List α} {k : Nat} {x : α} (h : l[k]? = some x) : l.drop k = x :: l.drop (k + 1) := by
  obtain ⟨hk, rfl⟩ := List.getElem?_eq_some_iff.1 h
  exact List.drop_eq_getElem_cons hk
theorem any_step {α : Type} {f : α → Bool} {l : List α} {k : Nat} {x : α} {r : Bool} (hr : r = (l.drop k).any f) (h : l[k]? = some x) : r = (f x || (l.drop (k + 1)).any f) := by rw [hr, drop_cons h]; rfl
theorem any_end {α : Type} {f : α → Bool} {l : List α} {k : Nat} {r : Bool} (hr : r = (l.drop k).any f) (h : l.length ≤ k) : r = false := by rw [hr, List.drop_eq_nil_of_le h]; rfl
def GreatR (w : World) (c : Array Value) (l : List Kd) (i : Value) (wr : World) : Prop :=
  ∃ k : Nat, k ≤ l.length ∧ i = .int .i64 k ∧ wr.heap[w.heap.size]? = some (.cells c 55 (0, 0)) ∧ Below w.heap.size w wr ∧ l.any greatK = (l.drop k).any greatK
def GreatR2 (W : World) (l : List Sl) (j : Value) (wr : World) : Prop :=
  ∃ k : Nat, k ≤ l.length ∧ j = .int .i64 k ∧ W = wr ∧ l.any greatS = (l.drop k).any greatS

set_option maxRecDepth 100000 in
set_option maxHeartbeats 1000000 in
theorem great_anyV (w : World) (v : Value) (g : Gr) (hv : GrV w v g) (hf : g.fits) : Calls Try.prog 29 #[v] w (Says (greatG g) w) := by
  obtain ⟨ka, kc, rfl, hk⟩ := hv
  obtain ⟨l, root⟩ := g
  simp only at hk hf ⊢
  have hfl : (l.length : Int) ≤ 9223372036854775807 := hf.1
  have HF := Lib.hid hf.2
  have HK := Lib.hid hk
  clear hf hk
  by_cases h40 : 40 < l.length
  · have h40' : (40 : Int) < (l.length : Int) := by omega
    have HG := Lib.hid (show greatG ⟨l, root⟩ = true by simp [greatG, h40])
    go_enter Try.func29, Try.ntmps29
    go_wp2_with fail
    go_ret
    exact Says.mk HG.out (box_below _ _)
  · have h40' : ¬ (40 : Int) < (l.length : Int) := by omega
    have HG := Lib.hid (show greatG ⟨l, root⟩ = l.any greatK by simp [greatG, h40])
    go_enter Try.func29, Try.ntmps29
    go_wp2_with fail
    go_loopw [12] (fun i wr => GreatR w #[.slice ka l.length kc, .int .i64 root] l i wr) (fun i _ => l.length - (intOf i).toNat)
    case atStart => exact ⟨0, Nat.zero_le _, rfl, heap_alloc_new w _, box_below _ _, rfl⟩
    case round =>
      obtain ⟨k, hkl, rfl, hb, hbel, hany⟩ := hrel
      have p0 : wr.cell? ⟨w.heap.size, 0, none⟩ = some (.slice ka l.length kc) := by rw [cell_of_row wr _ 0 _ _ _ hb]; rfl
      have HB := Lib.hid (And.intro hb hbel)
      have HA := Lib.hid hany
      clear hb hbel hany
      by_cases hlt : k < l.length
      · obtain ⟨x, hx⟩ : ∃ x, l[k]? = some x := ⟨l[k], List.getElem?_eq_getElem hlt⟩
        have hfx := HF.out x (List.mem_of_getElem? hx)
        obtain ⟨b, off, rfl, hblt, hc⟩ := (HK.out.below HB.out.2) (by omega)
        obtain ⟨sa, sc, c0, c1, c2, hs⟩ := hc k x hx
        have HX := Lib.hid (any_step HA.out hx)
        have hs1 : (x.name.size : Int) ≤ 9223372036854775807 := hfx.1
        have hs2 : (x.slots.length : Int) ≤ 9223372036854775807 := hfx.2.1
        have HFX := Lib.hid hfx.2.2
        have HS := Lib.hid hs
        have hkl2 : (k : Int) < (l.length : Int) := by omega
        clear hx hc hs hfx
        by_cases h200 : 200 < x.name.size
        · have h200' : (200 : Int) < (x.name.size : Int) := by omega
          go_wp2_with fail
          go_ret
          exact Says.mk (by rw [HG.out, HX.out]; simp [greatK, h200]) HB.out.2
        · have h200' : ¬ (200 : Int) < (x.name.size : Int) := by omega
          by_cases h20 : 20 < x.slots.length
          · have h20' : (20 : Int) < (x.slots.length : Int) := by omega
            go_wp2_with fail
            go_ret
            exact Says.mk (by rw [HG.out, HX.out]; simp [greatK, h20]) HB.out.2
          · have h20' : ¬ (20 : Int) < (x.slots.length : Int) := by omega
            have HKX := Lib.hid (show greatK x = x.slots.any greatS by simp [greatK, h200, h20])
            go_wp2_with fail
            obtain ⟨wo, rfl⟩ : ∃ wo, wo = wr := ⟨_, rfl⟩
            go_loopw [40] (fun j wr => GreatR2 wo x.slots j wr) (fun j _ => x.slots.length - (intOf j).toNat)
            case atStart => exact ⟨0, Nat.zero_le _, rfl, rfl, rfl⟩
            case round =>
              obtain ⟨m, hm, rfl, rfl, hany2⟩ := hrel
              have HA2 := Lib.hid hany2
              clear hany2
              by_cases hlt2 : m < x.slots.length
              · obtain ⟨s, hsx⟩ : ∃ s, x.slots[m]? = some s := ⟨x.slots[m], List.getElem?_eq_getElem hlt2⟩
                have hfs : (s.kinds.length : Int) ≤ 9223372036854775807 := HFX.out s (List.mem_of_getElem? hsx)
                obtain ⟨b2, off2, rfl, hblt2, hc2⟩ := HS.out (by omega)
                obtain ⟨ka2, kc2, d0, d1, d2, hi⟩ := hc2 m s hsx
                have HX2 := Lib.hid (any_step HA2.out hsx)
                have hm2 : (m : Int) < (x.slots.length : Int) := by omega
                clear hsx hc2 hi
                by_cases h4 : 40 < s.kinds.length
                · have h4' : (40 : Int) < (s.kinds.length : Int) := by omega
                  go_wp2_with fail
                  go_ret
                  exact Says.mk (by rw [HG.out, HX.out, HKX.out, HX2.out]; simp [greatS, h4]) HB.out.2
                · have h4' : ¬ (40 : Int) < (s.kinds.length : Int) := by omega
                  go_wp2_with fail
                  exact ⟨⟨m + 1, by omega, by go_num, rfl, by rw [HX2.out]; simp [greatS, h4]⟩, by simp [intOf]; omega⟩
              · have he := any_end HA2.out (by omega)
                have HE := Lib.hid he
                clear he
                have hm2 : ¬ (m : Int) < (x.slots.length : Int) := by omega
                go_wp2_with fail
                exact ⟨⟨k + 1, by omega, by go_num, HB.out.1, HB.out.2, by rw [HX.out, HKX.out, HE.out]; rfl⟩, by simp [intOf]; omega⟩
      · have he := any_end HA.out (by omega)
        have HE := Lib.hid he
        clear he
        have hkl2 : ¬ (k : Int) < (l.length : Int) := by omega
        go_wp2_with fail
        go_ret
        exact Says.mk (by rw [HG.out, HE.out]) HB.out.2

theorem lt_of_some' {w : World} {k : Nat} {o : Obj} (h : w.heap[k]? = some o) : k < w.heap.size := (Array.getElem?_eq_some_iff.1 h).1
end Go.Proofs.Ytfdcopegkhofnaa
