/-
  The document's own At. No condition but that the path is not too long.
-/
import Derived.Deep.RegionLaw
import Derived.Test.YtjppibomjnmjpaaHAt
import Derived.Test.YtjppibomjnmjpaaRFind
import Derived.Test.YtjppibomjnmjpaaHPath
namespace Go.Proofs.Ytjppibomjnmjpaa
open Go.RowKit Go.Shelf
set_option linter.unusedVariables false
set_option linter.unusedSimpArgs false

/-- What stands at a path of any numbers. -/
def atI : Tr → List Int → Option Tr
  | t, [] => some t
  | t, i :: p => if i < 0 ∨ (foLen t.kids : Int) ≤ i then none else match kidF t.kids i.toNat with
    | none => none
    | some u => atI u p
theorem atI_nat : ∀ (p : List Nat) (t : Tr), atI t (natI p) = atT t p
  | [], t => rfl
  | i :: p, t => by
    have ih := atI_nat p
    simp only [natI, List.map_cons, atI, atT] at ih ⊢
    by_cases h : i < foLen t.kids
    · rw [if_neg (by omega)]
      simp only [Int.toNat_natCast]
      cases kidF t.kids i with
      | none => rfl
      | some u => exact ih u
    · rw [if_pos (by omega), kidF_ge (by omega)]
theorem atI_drop {t : Tr} {l : List Int} {k : Nat} {x : Int} (hx : l[k]? = some x) : atI t (l.drop k) = if x < 0 ∨ (foLen t.kids : Int) ≤ x then none else match kidF t.kids x.toNat with
    | none => none
    | some u => atI u (l.drop (k + 1)) := by
  obtain ⟨h1, h2⟩ := List.getElem?_eq_some_iff.1 hx
  rw [← List.getElem_cons_drop h1, h2, atI]
/-- A row of numbers of anybody's. -/
def IntsL (w : World) (S : Nat → Prop) (a : Option Addr) (cap : Nat) (l : List Int) : Prop := l.length ≤ cap ∧ (l = [] ∨ ∃ b off, a = some ⟨b, off, none⟩ ∧ S b ∧ ∀ k x, l[k]? = some x → w.cell? ⟨b, off + k, none⟩ = some (.int .i64 x))
theorem IntsL.kept {w w' : World} {S S' : Nat → Prop} {a : Option Addr} {cap : Nat} {l : List Int} (h : IntsL w S a cap l) (hS : ∀ k, S k → S' k ∧ w'.heap[k]? = w.heap[k]?) : IntsL w' S' a cap l := by
  obtain ⟨h0, h1⟩ := h
  refine ⟨h0, h1.imp (fun h => h) ?_⟩
  rintro ⟨b, off, e, hb, hc⟩
  exact ⟨b, off, e, (hS b hb).1, fun k x hx => (World.cell?_of_block (hS b hb).2).trans (hc k x hx)⟩
theorem IntsL.take {w : World} {S : Nat → Prop} {a : Option Addr} {cap : Nat} {l : List Int} (h : IntsL w S a cap l) (m : Nat) : IntsL w S a cap (l.take m) := by
  obtain ⟨h0, h1⟩ := h
  refine ⟨by rw [List.length_take]; omega, ?_⟩
  rcases h1 with h1 | ⟨b, off, e, hb, hc⟩
  · exact Or.inl (by rw [h1]; simp)
  · exact Or.inr ⟨b, off, e, hb, fun k x hx => hc k x (by
      rw [List.getElem?_take] at hx
      split at hx
      · exact hx
      · cases hx)⟩
theorem intsL_own {w : World} {B : Nat} {a : Option Addr} {cap n : Nat} {l : List Int} (h : w.ownsRow B 3 1 (.slice a n cap) n (l.map intV)) : IntsL w (fun y => B ≤ y ∧ y < w.heap.size) a cap l ∧ n = l.length := by
  have hl : n = l.length := by have := h.1; rw [List.length_map] at this; omega
  rcases h.2 with ⟨hv, h0⟩ | ⟨g, c', cur, hv, hB, hh, h3, h4, h5, h6⟩
  · cases hv
    exact ⟨⟨by omega, Or.inl (List.length_eq_zero_iff.1 (by omega))⟩, hl⟩
  · cases hv
    refine ⟨⟨by omega, Or.inr ⟨g, 0, rfl, ⟨hB, lt_of_some hh⟩, fun k x hx => ?_⟩⟩, hl⟩
    rw [Nat.zero_add]
    exact owns_cell h rfl k _ (by rw [List.getElem?_map, hx]; rfl)
def RAtC (w : World) (S : Nat → Prop) (r : Option Tr) (e : Ending) (w' : World) : Prop := ∃ v, e = .returned (.tuple #[v, .bool r.isSome]) ∧ TrAt w' S v (r.getD zeroT) ∧ Below w.heap.size w w'
structure RAtI (w : World) (S : Nat → Prop) (t : Tr) (l : List Int) (k : Nat) (wr : World) : Prop where
  cur : ∃ (c : Tr) (ca : Option Addr) (cc : Nat), wr.heap[w.heap.size]? = some (.cells #[.int .i64 c.id, .int .i64 c.kind, .string c.text, .slice ca (foLen c.kids) cc] 24 (0, 0)) ∧ foLen c.kids ≤ cc ∧ FoAt w S c.kids ca ∧ foLen c.kids ≤ 9223372036854775807 ∧ foFit c.kids ∧ atI t l = atI c (l.drop k)
  res : wr.heap[w.heap.size + 1]? = some (.cells #[.int .i64 0, .int .i64 0, .string ⟨#[]⟩, .slice none 0 0] 24 (0, 0))
  below : Below w.heap.size w wr
theorem rat_step {w wr V : World} {S : Nat → Prop} {t u : Tr} {l : List Int} {k m2 nc : Nat} {na : Option Addr} {c0 c1 c2 c3 : Value} (hV : Below wr.heap.size wr V) (hbel : Below w.heap.size w wr) (hbx : V.heap[w.heap.size]? = some (.cells #[c0, c1, c2, c3] 24 (0, 0))) (hres : wr.heap[w.heap.size + 1]? = some (.cells #[.int .i64 0, .int .i64 0, .string ⟨#[]⟩, .slice none 0 0] 24 (0, 0)))
    (hm2 : m2 = foLen u.kids) (hnc : m2 ≤ nc) (hnl : FoAt w S u.kids na) (hf1 : foLen u.kids ≤ 9223372036854775807) (hf2 : foFit u.kids) (hnx : atI t l = atI u (l.drop (k + 1))) :
    RAtI w S t l (k + 1) ((((V.setCell ⟨w.heap.size, 0, none⟩ (.int .i64 u.id)).setCell ⟨w.heap.size, 1, none⟩ (.int .i64 u.kind)).setCell ⟨w.heap.size, 2, none⟩ (.string u.text)).setCell ⟨w.heap.size, 3, none⟩ (.slice na m2 nc)).drew := by
  subst hm2
  obtain ⟨V5, e5, r1, r2, r3, r4, r5, r6⟩ := four_set (u0 := .int .i64 u.id) (u1 := .int .i64 u.kind) (u2 := .string u.text) (u3 := .slice na (foLen u.kids) nc) hbx
  rw [← e5]
  refine ⟨⟨u, na, nc, r1, hnc, hnl, hf1, hf2, hnx⟩, ?_, ?_⟩
  · show V5.heap[w.heap.size + 1]? = _
    rw [r2 _ (by omega), hV.block _ (lt_of_heap hres)]; exact hres
  · exact ⟨r3.trans (hV.os.trans hbel.os), r4.trans (hV.tape.trans hbel.tape), r5.trans (hV.output.trans hbel.output), by show _ ≤ V5.heap.size; rw [r6]; have := hV.size; have := hbel.size; omega, fun y hy => by
      show V5.heap[y]? = _
      rw [r2 _ (by omega), hV.block y (by have := hbel.size; omega)]; exact hbel.block y hy⟩
set_option maxRecDepth 100000 in
set_option maxHeartbeats 4000000 in
theorem rat_any (w : World) (S : Nat → Prop) (nv : Value) (t : Tr) (pa : Option Addr) (n pc : Nat) (l : List Int) (hS : ∀ x, S x → x < w.heap.size) (ht : TrAt w S nv t) (hlen : foLen t.kids ≤ 9223372036854775807) (hfit : foFit t.kids) (Sp : Nat → Prop) (hSp : ∀ x, Sp x → x < w.heap.size) (hp : IntsL w Sp pa pc l) (hn : n = l.length) (hnb : n ≤ 1000000) :
    Calls Try.prog 21 #[nv, .slice pa n pc] w (RAtC w S (atI t l)) := by
  obtain ⟨ka, tc, rfl, hcap, hk⟩ := ht
  obtain ⟨nk, hnk⟩ : ∃ nk, nk = foLen t.kids := ⟨_, rfl⟩
  have HST : Hid (RAtI w S t l 0 ((w.alloc (.cells #[.int .i64 t.id, .int .i64 t.kind, .string t.text, .slice ka nk tc] 24)).alloc (.cells #[.int .i64 0, .int .i64 0, .string ⟨#[]⟩, .slice none 0 0] 24))) := Lib.hid ⟨⟨t, ka, tc, by rw [← hnk]; exact heap_alloc2_old w _ _, hcap, hk, hlen, hfit, by rw [List.drop_zero]⟩, heap_alloc2_new w _ _, two_boxes _ _ _⟩
  rw [← hnk]
  have H := Lib.hid (And.intro hS (And.intro hSp (And.intro hp hn)))
  clear hS hSp hp hn hk hcap hlen hfit hnk
  -- the end: what lies in the result's cell
  have hend : ∀ (x : Tr) (kb : Option Addr) (kc m : Nat) (b : Bool) (wr : World), RAtI w S t l 0 wr ∨ (wr.heap[w.heap.size + 1]? = some (.cells #[.int .i64 0, .int .i64 0, .string ⟨#[]⟩, .slice none 0 0] 24 (0, 0)) ∧ Below w.heap.size w wr) → m = foLen x.kids → foLen x.kids ≤ kc → FoAt w S x.kids kb → (atI t l).isSome = b → (atI t l).getD zeroT = x → ∀ tmps : Array Value, tmps.getD 4 undef = .pointer (some ⟨w.heap.size + 1, 0, none⟩) → tmps.getD 5 undef = .bool b →
      bodyPost Try.prog Try.f21 (RAtC w S (atI t l)) .ret { tmps, defers := [] } ((((wr.setCell ⟨w.heap.size + 1, 0, none⟩ (.int .i64 x.id)).setCell ⟨w.heap.size + 1, 1, none⟩ (.int .i64 x.kind)).setCell ⟨w.heap.size + 1, 2, none⟩ (.string x.text)).setCell ⟨w.heap.size + 1, 3, none⟩ (.slice kb m kc)) := by
    intro x kb kc m b wr hwr hm hc hf hs hx tmps t4 t5
    subst hm
    have hwr : wr.heap[w.heap.size + 1]? = some (.cells #[.int .i64 0, .int .i64 0, .string ⟨#[]⟩, .slice none 0 0] 24 (0, 0)) ∧ Below w.heap.size w wr := by
      rcases hwr with h | h
      · exact ⟨h.res, h.below⟩
      · exact h
    obtain ⟨V5, e5, r1, r2, r3, r4, r5, r6⟩ := four_set (u0 := .int .i64 x.id) (u1 := .int .i64 x.kind) (u2 := .string x.text) (u3 := .slice kb (foLen x.kids) kc) hwr.1
    rw [← e5]
    have hB := hwr.2
    refine bodyPost_ret (results_cellT rfl tmps V5 (w.heap.size + 1) 24 _ _ _ (.bool b) t4 r1 Try.underlying24 rfl (by kernel_rfl) t5) rfl ?_
    refine ⟨_, by rw [hs], ?_, r3.trans hB.os, r4.trans hB.tape, r5.trans hB.output, by rw [r6]; exact hB.size, fun k hk => (r2 k (by omega)).trans (hB.block k hk)⟩
    rw [hx]
    exact ⟨kb, kc, rfl, hc, hf.kept fun k hk => ⟨hk, by have := H.out.1 k hk; exact (r2 k (by omega)).trans (hB.block k this)⟩⟩
  have HEND := Lib.hid hend
  clear hend
  go_enter Try.func21, Try.ntmps21
  go_wp2_with fail
  go_loopw [6] (fun i wr => ∃ k : Nat, k ≤ n ∧ i = .int .i64 (k : Int) ∧ Hid (RAtI w S t l k wr)) (fun i _ => n - (intOf i).toNat)
  case atStart => exact ⟨0, Nat.zero_le _, rfl, HST⟩
  case round =>
    obtain ⟨k, hk, rfl, hh⟩ := hrel
    clear HST
    obtain ⟨⟨c, ca, cc, hbx, hcc, hcf, hcl, hcfit, hat⟩, hres, hbel⟩ := hh.out
    have hr0 : wr.cell? ⟨w.heap.size + 1, 0, none⟩ = some (.int .i64 0) := by rw [cell_of_row _ _ 0 _ _ _ hres]; rfl
    have hr1 : wr.cell? ⟨w.heap.size + 1, 1, none⟩ = some (.int .i64 0) := by rw [cell_of_row _ _ 1 _ _ _ hres]; rfl
    have hr2 : wr.cell? ⟨w.heap.size + 1, 2, none⟩ = some (.string ⟨#[]⟩) := by rw [cell_of_row _ _ 2 _ _ _ hres]; rfl
    have hr3 : wr.cell? ⟨w.heap.size + 1, 3, none⟩ = some (.slice none 0 0) := by rw [cell_of_row _ _ 3 _ _ _ hres]; rfl
    have hrf : ∀ j, wr.frozen? ⟨w.heap.size + 1, j, none⟩ = false := fun j => frozen_of_row _ _ j _ _ hres
    obtain ⟨m, hm⟩ : ∃ m, m = foLen c.kids := ⟨_, rfl⟩
    rw [← hm] at hbx hcc hcl
    have b0 : wr.cell? ⟨w.heap.size, 0, none⟩ = some (.int .i64 c.id) := by rw [cell_of_row _ _ 0 _ _ _ hbx]; rfl
    have b1 : wr.cell? ⟨w.heap.size, 1, none⟩ = some (.int .i64 c.kind) := by rw [cell_of_row _ _ 1 _ _ _ hbx]; rfl
    have b2 : wr.cell? ⟨w.heap.size, 2, none⟩ = some (.string c.text) := by rw [cell_of_row _ _ 2 _ _ _ hbx]; rfl
    have b3 : wr.cell? ⟨w.heap.size, 3, none⟩ = some (.slice ca m cc) := by rw [cell_of_row _ _ 3 _ _ _ hbx]; rfl
    have bf : ∀ j, wr.frozen? ⟨w.heap.size, j, none⟩ = false := fun j => frozen_of_row _ _ j _ _ hbx
    by_cases hlt : k < n
    · obtain ⟨x, hx⟩ : ∃ x, l[k]? = some x := ⟨_, List.getElem?_eq_getElem (by have := H.out.2.2.2; omega)⟩
      obtain ⟨_, hp⟩ := H.out.2.2.1
      obtain ⟨pb, po, rfl, hpb, hpc⟩ := hp.resolve_left (fun e => by rw [e] at hx; simp at hx)
      have px : wr.cell? ⟨pb, po + k, none⟩ = some (.int .i64 x) := (hbel.cell (p := ⟨pb, po + k, none⟩) (H.out.2.1 pb hpb)).trans (hpc k x hx)
      have hstep := atI_drop (t := c) hx
      rw [← hm] at hstep
      have hki : (k : Int) < (n : Int) := by omega
      have hkn2 : k ≤ 1000000 := by omega
      have HX := Lib.hid (fun (X : World) (h : Below wr.heap.size wr X) => (show X.cell? ⟨pb, po + k, none⟩ = some (.int .i64 x) ∧ X.cell? ⟨w.heap.size, 3, none⟩ = some (.slice ca m cc) from ⟨(h.cell (World.block_lt_of_cell? _ _ px)).trans px, (h.cell (World.block_lt_of_cell? _ _ b3)).trans b3⟩))
      by_cases hx0 : x < 0
      · have hd0 : decide (x < 0) = true := by simpa using hx0
        have hxx : (x < 0) = True := eq_true hx0
        have HE := Lib.hid (show atI t l = none by rw [hat, hstep, if_pos (Or.inl hx0)])
        have HR := Lib.hid (And.intro hres hbel)
        clear hx hpb hpc px hstep hx0 hh hbx hcc hcf hcl hcfit hat hres hbel hm b0 b1 b2 b3 bf hlt hk hp
        go_wp2_with fail
        refine wp_region_quiet (C := fun X => Below wr.heap.size wr X) (by kernel_rfl) (by kernel_rfl) (below_drewN (Below.refl _ wr) 1) ?_
        refine quiet_open (fun QQ hQQ => ?_)
        have HQQ := Lib.hid hQQ
        clear hQQ
        with_reducible refine wpQuiet_step ?_
        intro K hK
        rw [if_pos (by rfl)]
        refine ⟨.slice (some ⟨pb, po, none⟩) n pc, fun X hX => ?_, hK _ ?_⟩
        · clear hK; go_simp
        clear hK K
        simp only [Act.put, List.setIfInBounds_toArray, List.set_cons_zero, List.set_cons_succ]
        with_reducible refine wpQuiet_step ?_
        intro K hK
        rw [if_pos (by rfl)]
        refine ⟨.int .i64 (k : Int), fun X hX => ?_, hK _ ?_⟩
        · clear hK; go_simp
        clear hK K
        simp only [Act.put, List.setIfInBounds_toArray, List.set_cons_zero, List.set_cons_succ]
        with_reducible refine wpQuiet_step ?_
        intro K hK
        rw [if_pos (by rfl)]
        refine ⟨.pointer (some ⟨pb, po + k, none⟩), fun X hX => ?_, hK _ ?_⟩
        · clear hK; go_simp
        clear hK K
        simp only [Act.put, List.setIfInBounds_toArray, List.set_cons_zero, List.set_cons_succ]
        with_reducible refine wpQuiet_step ?_
        intro K hK
        rw [if_pos (by rfl)]
        refine ⟨.int .i64 x, fun X hX => ?_, hK _ ?_⟩
        · clear hK; obtain ⟨s0, s1⟩ := HX.out X hX; go_simp
        clear hK K
        simp only [Act.put, List.setIfInBounds_toArray, List.set_cons_zero, List.set_cons_succ]
        with_reducible refine wpQuiet_step ?_
        intro K hK
        rw [if_pos (by rfl)]
        refine ⟨.bool true, fun X hX => ?_, hK _ ?_⟩
        · clear hK; go_simp
        clear hK K
        simp only [Act.put, List.setIfInBounds_toArray, List.set_cons_zero, List.set_cons_succ]
        with_reducible refine wpQuiet_step ?_
        intro K hK
        rw [if_pos (by rfl)]
        refine ⟨.bool true, fun X hX => ?_, hK _ ?_⟩
        · clear hK; go_simp
        clear hK K
        simp only [Act.put, List.setIfInBounds_toArray, List.set_cons_zero, List.set_cons_succ]
        with_reducible refine wpQuiet_step ?_
        intro K hK
        rw [if_neg (by exact Bool.false_ne_true)]
        with_reducible apply hK
        clear hK K
        simp only [Act.put, List.setIfInBounds_toArray, List.set_cons_zero, List.set_cons_succ]
        with_reducible refine wpQuiet_step ?_
        intro K hK
        rw [if_neg (by exact Bool.false_ne_true)]
        with_reducible apply hK
        clear hK K
        simp only [Act.put, List.setIfInBounds_toArray, List.set_cons_zero, List.set_cons_succ]
        with_reducible refine wpQuiet_step ?_
        intro K hK
        rw [if_neg (by exact Bool.false_ne_true)]
        with_reducible apply hK
        clear hK K
        simp only [Act.put, List.setIfInBounds_toArray, List.set_cons_zero, List.set_cons_succ]
        with_reducible refine wpQuiet_step ?_
        intro K hK
        rw [if_neg (by exact Bool.false_ne_true)]
        with_reducible apply hK
        clear hK K
        simp only [Act.put, List.setIfInBounds_toArray, List.set_cons_zero, List.set_cons_succ]
        with_reducible refine wpQuiet_step ?_
        intro K hK
        rw [if_neg (by exact Bool.false_ne_true)]
        with_reducible apply hK
        clear hK K
        simp only [Act.put, List.setIfInBounds_toArray, List.set_cons_zero, List.set_cons_succ]
        with_reducible refine wpQuiet_step ?_
        intro K hK
        rw [if_neg (by exact Bool.false_ne_true)]
        with_reducible apply hK
        clear hK K
        simp only [Act.put, List.setIfInBounds_toArray, List.set_cons_zero, List.set_cons_succ]
        with_reducible refine wpQuiet_step ?_
        intro K hK
        rw [if_neg (by exact Bool.false_ne_true)]
        with_reducible apply hK
        clear hK K
        simp only [Act.put, List.setIfInBounds_toArray, List.set_cons_zero, List.set_cons_succ]
        with_reducible refine wpQuiet_step ?_
        intro K hK
        rw [if_neg (by exact Bool.false_ne_true)]
        with_reducible apply hK
        clear hK K
        simp only [Act.put, List.setIfInBounds_toArray, List.set_cons_zero, List.set_cons_succ]
        with_reducible refine wpQuiet_step ?_
        intro K hK
        rw [if_pos (by rfl)]
        refine ⟨.bool true, fun X hX => ?_, hK _ ?_⟩
        · clear hK; go_simp
        clear hK K
        simp only [Act.put, List.setIfInBounds_toArray, List.set_cons_zero, List.set_cons_succ]
        refine wpQuiet_nil (HQQ.out _ ?_)
        clear HQQ
        intro V hV
        have hrr0 := (hV.cell (World.block_lt_of_cell? _ _ hr0)).trans hr0
        have hrr1 := (hV.cell (World.block_lt_of_cell? _ _ hr1)).trans hr1
        have hrr2 := (hV.cell (World.block_lt_of_cell? _ _ hr2)).trans hr2
        have hrr3 := (hV.cell (World.block_lt_of_cell? _ _ hr3)).trans hr3
        have hres := (hV.block _ (lt_of_heap HR.out.1)).trans HR.out.1
        have hrrf : ∀ j, V.frozen? ⟨w.heap.size + 1, j, none⟩ = false := fun j => frozen_of_row _ _ j _ _ hres
        have HR2 := Lib.hid (And.intro hres (HR.out.2.trans (hV.mono HR.out.2.size)))
        clear hV hres hr0 hr1 hr2 hr3 hrf
        go_wp2_with fail
        exact HEND.out zeroT none 0 0 false V (Or.inr HR2.out) rfl (Nat.le_refl _) True.intro (by rw [HE.out]; rfl) (by rw [HE.out]; rfl) _ rfl rfl
      · have hd0 : decide (x < 0) = false := by simpa using hx0
        have hx0i : (0 : Int) ≤ x := by omega
        by_cases hxm : (m : Int) ≤ x
        · have HE := Lib.hid (show atI t l = none by rw [hat, hstep, if_pos (Or.inr hxm)])
          have HR := Lib.hid (And.intro hres hbel)
          clear hx hpb hpc px hstep hh hbx hcc hcf hcl hcfit hat hres hbel hm b0 b1 b2 b3 bf hlt hk hp
          go_wp2_with fail
          refine wp_region_quiet (C := fun X => Below wr.heap.size wr X) (by kernel_rfl) (by kernel_rfl) (below_drewN (Below.refl _ wr) 1) ?_
          refine quiet_open (fun QQ hQQ => ?_)
          have HQQ := Lib.hid hQQ
          clear hQQ
          with_reducible refine wpQuiet_step ?_
          intro K hK
          rw [if_pos (by rfl)]
          refine ⟨.slice (some ⟨pb, po, none⟩) n pc, fun X hX => ?_, hK _ ?_⟩
          · clear hK; go_simp
          clear hK K
          simp only [Act.put, List.setIfInBounds_toArray, List.set_cons_zero, List.set_cons_succ]
          with_reducible refine wpQuiet_step ?_
          intro K hK
          rw [if_pos (by rfl)]
          refine ⟨.int .i64 (k : Int), fun X hX => ?_, hK _ ?_⟩
          · clear hK; go_simp
          clear hK K
          simp only [Act.put, List.setIfInBounds_toArray, List.set_cons_zero, List.set_cons_succ]
          with_reducible refine wpQuiet_step ?_
          intro K hK
          rw [if_pos (by rfl)]
          refine ⟨.pointer (some ⟨pb, po + k, none⟩), fun X hX => ?_, hK _ ?_⟩
          · clear hK; go_simp
          clear hK K
          simp only [Act.put, List.setIfInBounds_toArray, List.set_cons_zero, List.set_cons_succ]
          with_reducible refine wpQuiet_step ?_
          intro K hK
          rw [if_pos (by rfl)]
          refine ⟨.int .i64 x, fun X hX => ?_, hK _ ?_⟩
          · clear hK; obtain ⟨s0, s1⟩ := HX.out X hX; go_simp
          clear hK K
          simp only [Act.put, List.setIfInBounds_toArray, List.set_cons_zero, List.set_cons_succ]
          with_reducible refine wpQuiet_step ?_
          intro K hK
          rw [if_pos (by rfl)]
          refine ⟨.bool false, fun X hX => ?_, hK _ ?_⟩
          · clear hK; go_simp
          clear hK K
          simp only [Act.put, List.setIfInBounds_toArray, List.set_cons_zero, List.set_cons_succ]
          with_reducible refine wpQuiet_step ?_
          intro K hK
          rw [if_pos (by rfl)]
          refine ⟨.bool false, fun X hX => ?_, hK _ ?_⟩
          · clear hK; go_simp
          clear hK K
          simp only [Act.put, List.setIfInBounds_toArray, List.set_cons_zero, List.set_cons_succ]
          with_reducible refine wpQuiet_step ?_
          intro K hK
          rw [if_pos (by rfl)]
          refine ⟨.slice (some ⟨pb, po, none⟩) n pc, fun X hX => ?_, hK _ ?_⟩
          · clear hK; go_simp
          clear hK K
          simp only [Act.put, List.setIfInBounds_toArray, List.set_cons_zero, List.set_cons_succ]
          with_reducible refine wpQuiet_step ?_
          intro K hK
          rw [if_pos (by rfl)]
          refine ⟨.int .i64 (k : Int), fun X hX => ?_, hK _ ?_⟩
          · clear hK; go_simp
          clear hK K
          simp only [Act.put, List.setIfInBounds_toArray, List.set_cons_zero, List.set_cons_succ]
          with_reducible refine wpQuiet_step ?_
          intro K hK
          rw [if_pos (by rfl)]
          refine ⟨.pointer (some ⟨pb, po + k, none⟩), fun X hX => ?_, hK _ ?_⟩
          · clear hK; go_simp
          clear hK K
          simp only [Act.put, List.setIfInBounds_toArray, List.set_cons_zero, List.set_cons_succ]
          with_reducible refine wpQuiet_step ?_
          intro K hK
          rw [if_pos (by rfl)]
          refine ⟨.int .i64 x, fun X hX => ?_, hK _ ?_⟩
          · clear hK; obtain ⟨s0, s1⟩ := HX.out X hX; go_simp
          clear hK K
          simp only [Act.put, List.setIfInBounds_toArray, List.set_cons_zero, List.set_cons_succ]
          with_reducible refine wpQuiet_step ?_
          intro K hK
          rw [if_pos (by rfl)]
          refine ⟨.pointer (some ⟨w.heap.size, 3, none⟩), fun X hX => ?_, hK _ ?_⟩
          · clear hK; go_simp
          clear hK K
          simp only [Act.put, List.setIfInBounds_toArray, List.set_cons_zero, List.set_cons_succ]
          with_reducible refine wpQuiet_step ?_
          intro K hK
          rw [if_pos (by rfl)]
          refine ⟨.slice ca m cc, fun X hX => ?_, hK _ ?_⟩
          · clear hK; obtain ⟨s0, s1⟩ := HX.out X hX; go_simp
          clear hK K
          simp only [Act.put, List.setIfInBounds_toArray, List.set_cons_zero, List.set_cons_succ]
          with_reducible refine wpQuiet_step ?_
          intro K hK
          rw [if_pos (by rfl)]
          refine ⟨.int .i64 (m : Int), fun X hX => ?_, hK _ ?_⟩
          · clear hK; go_simp
          clear hK K
          simp only [Act.put, List.setIfInBounds_toArray, List.set_cons_zero, List.set_cons_succ]
          with_reducible refine wpQuiet_step ?_
          intro K hK
          rw [if_pos (by rfl)]
          refine ⟨.bool true, fun X hX => ?_, hK _ ?_⟩
          · clear hK; go_simp
          clear hK K
          simp only [Act.put, List.setIfInBounds_toArray, List.set_cons_zero, List.set_cons_succ]
          with_reducible refine wpQuiet_step ?_
          intro K hK
          rw [if_pos (by rfl)]
          refine ⟨.bool true, fun X hX => ?_, hK _ ?_⟩
          · clear hK; go_simp
          clear hK K
          simp only [Act.put, List.setIfInBounds_toArray, List.set_cons_zero, List.set_cons_succ]
          refine wpQuiet_nil (HQQ.out _ ?_)
          clear HQQ
          intro V hV
          have hrr0 := (hV.cell (World.block_lt_of_cell? _ _ hr0)).trans hr0
          have hrr1 := (hV.cell (World.block_lt_of_cell? _ _ hr1)).trans hr1
          have hrr2 := (hV.cell (World.block_lt_of_cell? _ _ hr2)).trans hr2
          have hrr3 := (hV.cell (World.block_lt_of_cell? _ _ hr3)).trans hr3
          have hres := (hV.block _ (lt_of_heap HR.out.1)).trans HR.out.1
          have hrrf : ∀ j, V.frozen? ⟨w.heap.size + 1, j, none⟩ = false := fun j => frozen_of_row _ _ j _ _ hres
          have HR2 := Lib.hid (And.intro hres (HR.out.2.trans (hV.mono HR.out.2.size)))
          clear hV hres hr0 hr1 hr2 hr3 hrf
          go_wp2_with fail
          exact HEND.out zeroT none 0 0 false V (Or.inr HR2.out) rfl (Nat.le_refl _) True.intro (by rw [HE.out]; rfl) (by rw [HE.out]; rfl) _ rfl rfl
        · obtain ⟨j, rfl⟩ : ∃ j : Nat, x = (j : Int) := ⟨x.toNat, by omega⟩
          obtain ⟨ub, uo, uk, ul, ur, hd, hkid, _⟩ := kidF_lt (f := c.kids) (j := j) (by omega)
          have hcfW := hcf.below hbel H.out.1
          obtain ⟨b0', o0', key, l', r', hd', nb, noff, na, nc, rfl, hSb, n0, n1, n2, n3, hnc, hnl⟩ := hcfW.at j (by omega)
          rw [hd] at hd'; cases hd'
          have hnlw : FoAt w S ul na := by
            obtain ⟨_, _, _, _, _, hd2, nb2, noff2, na2, nc2, e2, _, _, _, _, n32, _, hnl2⟩ := hcf.at j (by omega)
            rw [hd] at hd2; cases hd2
            cases e2
            have h9 := (hbel.cell (p := ⟨nb, noff + j * 4 + 3, none⟩) (H.out.1 nb hSb)).trans n32
            rw [h9] at n3; cases n3
            exact hnl2
          have hft := foFit_drop j hcfit hd
          have hnx : atI t l = atI ⟨uk.1, uk.2.1, uk.2.2, ul⟩ (l.drop (k + 1)) := by
            rw [hat, hstep, if_neg (by omega)]
            simp only [Int.toNat_natCast]
            rw [hkid]
          obtain ⟨m2, hm2⟩ : ∃ m2, m2 = foLen ul := ⟨_, rfl⟩
          rw [← hm2] at n3 hnc
          obtain ⟨i1, i2, i3⟩ := uk
          simp only at n0 n1 n2
          have hjm : (j : Int) < (m : Int) := by omega
          have hj0 : (0 : Int) ≤ (j : Int) := by omega
          have hjg : ¬ (m : Int) ≤ (j : Int) := by omega
          have hjz : ¬ (j : Int) < 0 := by omega
          have hnbl := World.block_lt_of_cell? _ _ n0
          have HE := Lib.hid (And.intro hnx (And.intro hnlw (And.intro hft (And.intro hm2 (And.intro hnc (And.intro hres (And.intro hbel (And.intro hbx hlt))))))))
          have HZ := Lib.hid (fun (X : World) (h : Below wr.heap.size wr X) => (show (X.cell? ⟨pb, po + k, none⟩ = some (.int .i64 (j : Int)) ∧ X.cell? ⟨w.heap.size, 0, none⟩ = some (.int .i64 c.id) ∧ X.cell? ⟨w.heap.size, 1, none⟩ = some (.int .i64 c.kind) ∧ X.cell? ⟨w.heap.size, 2, none⟩ = some (.string c.text) ∧ X.cell? ⟨w.heap.size, 3, none⟩ = some (.slice (some ⟨nb, noff, none⟩) m cc)) ∧ (X.cell? ⟨nb, noff + j * 4, none⟩ = some (.int .i64 i1) ∧ X.cell? ⟨nb, noff + j * 4 + 1, none⟩ = some (.int .i64 i2) ∧ X.cell? ⟨nb, noff + j * 4 + 2, none⟩ = some (.string i3) ∧ X.cell? ⟨nb, noff + j * 4 + 3, none⟩ = some (.slice na m2 nc)) ∧ X.heap[w.heap.size]? = some (.cells #[.int .i64 c.id, .int .i64 c.kind, .string c.text, .slice (some ⟨nb, noff, none⟩) m cc] 24 (0, 0)) from
            ⟨⟨(h.cell (World.block_lt_of_cell? _ _ px)).trans px, (h.cell (World.block_lt_of_cell? _ _ b0)).trans b0, (h.cell (World.block_lt_of_cell? _ _ b1)).trans b1, (h.cell (World.block_lt_of_cell? _ _ b2)).trans b2, (h.cell (World.block_lt_of_cell? _ _ b3)).trans b3⟩, ⟨(h.cell (World.block_lt_of_cell? _ _ n0)).trans n0, (h.cell (World.block_lt_of_cell? _ _ n1)).trans n1, (h.cell (World.block_lt_of_cell? _ _ n2)).trans n2, (h.cell (World.block_lt_of_cell? _ _ n3)).trans n3⟩, (h.block _ (lt_of_heap hbx)).trans hbx⟩))
          clear hx hpb hpc px hstep hh hbx hcc hcf hcl hcfit hat hres hbel hm b0 b1 b2 b3 bf hlt hk hp hnx hnlw hft hm2 hnc n0 n1 n2 n3 hcfW hnl hd hkid hr0 hr1 hr2 hr3 hrf hSb
          go_wp2_with fail
          refine wp_region_quiet (C := fun X => Below wr.heap.size wr X) (by kernel_rfl) (by kernel_rfl) (below_drewN (Below.refl _ wr) 1) ?_
          refine quiet_open (fun QQ hQQ => ?_)
          have HQQ := Lib.hid hQQ
          clear hQQ
          with_reducible refine wpQuiet_step ?_
          intro K hK
          rw [if_pos (by rfl)]
          refine ⟨.slice (some ⟨pb, po, none⟩) n pc, fun X hX => ?_, hK _ ?_⟩
          · clear hK; go_simp
          clear hK K
          simp only [Act.put, List.setIfInBounds_toArray, List.set_cons_zero, List.set_cons_succ]
          with_reducible refine wpQuiet_step ?_
          intro K hK
          rw [if_pos (by rfl)]
          refine ⟨.int .i64 (k : Int), fun X hX => ?_, hK _ ?_⟩
          · clear hK; go_simp
          clear hK K
          simp only [Act.put, List.setIfInBounds_toArray, List.set_cons_zero, List.set_cons_succ]
          with_reducible refine wpQuiet_step ?_
          intro K hK
          rw [if_pos (by rfl)]
          refine ⟨.pointer (some ⟨pb, po + k, none⟩), fun X hX => ?_, hK _ ?_⟩
          · clear hK; go_simp
          clear hK K
          simp only [Act.put, List.setIfInBounds_toArray, List.set_cons_zero, List.set_cons_succ]
          with_reducible refine wpQuiet_step ?_
          intro K hK
          rw [if_pos (by rfl)]
          refine ⟨.int .i64 (j : Int), fun X hX => ?_, hK _ ?_⟩
          · clear hK; obtain ⟨s0, s1⟩ := HX.out X hX; go_simp
          clear hK K
          simp only [Act.put, List.setIfInBounds_toArray, List.set_cons_zero, List.set_cons_succ]
          with_reducible refine wpQuiet_step ?_
          intro K hK
          rw [if_pos (by rfl)]
          refine ⟨.bool false, fun X hX => ?_, hK _ ?_⟩
          · clear hK; go_simp
          clear hK K
          simp only [Act.put, List.setIfInBounds_toArray, List.set_cons_zero, List.set_cons_succ]
          with_reducible refine wpQuiet_step ?_
          intro K hK
          rw [if_pos (by rfl)]
          refine ⟨.bool false, fun X hX => ?_, hK _ ?_⟩
          · clear hK; go_simp
          clear hK K
          simp only [Act.put, List.setIfInBounds_toArray, List.set_cons_zero, List.set_cons_succ]
          with_reducible refine wpQuiet_step ?_
          intro K hK
          rw [if_pos (by rfl)]
          refine ⟨.slice (some ⟨pb, po, none⟩) n pc, fun X hX => ?_, hK _ ?_⟩
          · clear hK; go_simp
          clear hK K
          simp only [Act.put, List.setIfInBounds_toArray, List.set_cons_zero, List.set_cons_succ]
          with_reducible refine wpQuiet_step ?_
          intro K hK
          rw [if_pos (by rfl)]
          refine ⟨.int .i64 (k : Int), fun X hX => ?_, hK _ ?_⟩
          · clear hK; go_simp
          clear hK K
          simp only [Act.put, List.setIfInBounds_toArray, List.set_cons_zero, List.set_cons_succ]
          with_reducible refine wpQuiet_step ?_
          intro K hK
          rw [if_pos (by rfl)]
          refine ⟨.pointer (some ⟨pb, po + k, none⟩), fun X hX => ?_, hK _ ?_⟩
          · clear hK; go_simp
          clear hK K
          simp only [Act.put, List.setIfInBounds_toArray, List.set_cons_zero, List.set_cons_succ]
          with_reducible refine wpQuiet_step ?_
          intro K hK
          rw [if_pos (by rfl)]
          refine ⟨.int .i64 (j : Int), fun X hX => ?_, hK _ ?_⟩
          · clear hK; obtain ⟨s0, s1⟩ := HX.out X hX; go_simp
          clear hK K
          simp only [Act.put, List.setIfInBounds_toArray, List.set_cons_zero, List.set_cons_succ]
          with_reducible refine wpQuiet_step ?_
          intro K hK
          rw [if_pos (by rfl)]
          refine ⟨.pointer (some ⟨w.heap.size, 3, none⟩), fun X hX => ?_, hK _ ?_⟩
          · clear hK; go_simp
          clear hK K
          simp only [Act.put, List.setIfInBounds_toArray, List.set_cons_zero, List.set_cons_succ]
          with_reducible refine wpQuiet_step ?_
          intro K hK
          rw [if_pos (by rfl)]
          refine ⟨.slice (some ⟨nb, noff, none⟩) m cc, fun X hX => ?_, hK _ ?_⟩
          · clear hK; obtain ⟨s0, s1⟩ := HX.out X hX; go_simp
          clear hK K
          simp only [Act.put, List.setIfInBounds_toArray, List.set_cons_zero, List.set_cons_succ]
          with_reducible refine wpQuiet_step ?_
          intro K hK
          rw [if_pos (by rfl)]
          refine ⟨.int .i64 (m : Int), fun X hX => ?_, hK _ ?_⟩
          · clear hK; go_simp
          clear hK K
          simp only [Act.put, List.setIfInBounds_toArray, List.set_cons_zero, List.set_cons_succ]
          with_reducible refine wpQuiet_step ?_
          intro K hK
          rw [if_pos (by rfl)]
          refine ⟨.bool false, fun X hX => ?_, hK _ ?_⟩
          · clear hK; go_simp; omega
          clear hK K
          simp only [Act.put, List.setIfInBounds_toArray, List.set_cons_zero, List.set_cons_succ]
          with_reducible refine wpQuiet_step ?_
          intro K hK
          rw [if_pos (by rfl)]
          refine ⟨.bool false, fun X hX => ?_, hK _ ?_⟩
          · clear hK; go_simp
          clear hK K
          simp only [Act.put, List.setIfInBounds_toArray, List.set_cons_zero, List.set_cons_succ]
          refine wpQuiet_nil (HQQ.out _ ?_)
          clear HQQ
          intro V hV
          obtain ⟨⟨px, b0, b1, b2, b3⟩, ⟨n0, n1, n2, n3⟩, hbx⟩ := HZ.out V hV
          have bf : ∀ j, V.frozen? ⟨w.heap.size, j, none⟩ = false := fun j => frozen_of_row _ _ j _ _ hbx
          have HV := Lib.hid (And.intro hV hbx)
          clear hV hbx
          go_wp2_with fail
          go_region_law (fail)
          all_goals
            go_wp2_with fail
            exact ⟨⟨k + 1, by have := HE.out.2.2.2.2.2.2.2.2; omega, by go_num, Lib.hid (rat_step (u := ⟨i1, i2, i3, ul⟩) HV.out.1 HE.out.2.2.2.2.2.2.1 HV.out.2 HE.out.2.2.2.2.2.1 HE.out.2.2.2.1 HE.out.2.2.2.2.1 HE.out.2.1 HE.out.2.2.1.1 HE.out.2.2.1.2 HE.out.1)⟩, by have := HE.out.2.2.2.2.2.2.2.2; simp [intOf]; omega⟩
    · have hki : ¬ (k : Int) < (n : Int) := by omega
      have hE : atI t l = some c := by
        rw [hat, List.drop_eq_nil_of_le (by have := H.out.2.2.2; omega)]; rfl
      have HE := Lib.hid (And.intro hE (And.intro hm (And.intro hcc (And.intro hcf (And.intro hres hbel)))))
      clear hE hm hcc hcf hres hbel hat hcl hcfit hbx hh hk hlt
      go_wp2_with fail
      exact HEND.out c ca cc m true wr (Or.inr ⟨HE.out.2.2.2.2.1, HE.out.2.2.2.2.2⟩) HE.out.2.1 (by rw [← HE.out.2.1]; exact HE.out.2.2.1) HE.out.2.2.2.1 (by rw [HE.out.1]; rfl) (by rw [HE.out.1]; rfl) _ rfl rfl
end Go.Proofs.Ytjppibomjnmjpaa
