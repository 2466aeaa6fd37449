/-
  atFault: whether a node may not be at a depth, behind nodes of those ids. No condition but the bounds of texts and ids that a host keeps.
-/
import Derived.Test.YtfdcopegkhofnaaVRKindsQk
import Derived.Maps.OwnIn
namespace Go.Proofs.Ytfdcopegkhofnaa
open Go.RowKit Go.Shelf
open Go.Maps
attribute [local go_sem] Oper.semAt_some
set_option linter.unusedVariables false
set_option linter.unusedSimpArgs false

/-- A set of ids. -/
def OwnsS (w : World) (b n : Nat) (ids : List Int) : Prop := w.ownsMap Try.prog 3 (unitElem (H := Value)) b n (setOf (.agg []) (ids.map (Lit.int .i64 ·)))
theorem OwnsS.at {w w' : World} {b n : Nat} {ids : List Int} (h : OwnsS w b n ids) (e : w'.heap[b]? = w.heap[b]?) : OwnsS w' b n ids := by
  obtain ⟨es, clock, hb, h⟩ := h
  exact ⟨es, clock, e.trans hb, h⟩
theorem law7 : Keyed Try.prog 3 := int_keyed Try.underlying3
theorem zeroU (w : World) : (zeroValue 156).run Try.prog w = .ok (.agg #[]) w := by kernel_rfl
theorem sameKey_int {a b : Int} : (Lit.int .i64 a).sameKey (.int .i64 b) = (a == b) := by
  by_cases h : a = b
  · subst h; simp [Lit.sameKey]
  · rw [sameKey_ne (by simpa using h)]; simp [h]
theorem has_ids (ids : List Int) (i : Int) : Maps.has (setOf (.agg [] : DataW Value) (ids.map (Lit.int .i64 ·))) (.int .i64 i) = ids.any (· == i) := by
  rw [has_setOf]
  · rw [List.any_map]; congr 1; funext a; exact sameKey_int
  · intro x hx
    obtain ⟨a, _, rfl⟩ := List.mem_map.1 hx
    trivial
/-- What is at fault at a node. -/
def atB (g : Gr) (ids : List Int) (d : Nat) (x : Tr) : Bool := decide (32 < d) || (decide (x.id < 1) || decide (1125899906842624 < x.id)) || ids.any (· == x.id) || !nodeB g x
set_option maxRecDepth 100000 in
set_option maxHeartbeats 2000000 in
theorem atFault_any (w : World) (S : Nat → Prop) (gv : Value) (g : Gr) (mb mn : Nat) (ids : List Int) (d : Nat) (x : Tr) (b off cap : Nat) (ka : Option Addr) (hg : GrV w gv g) (hf : g.few) (hS : ∀ y, S y → y < w.heap.size) (hSb : S b)
    (hc0 : w.cell? ⟨b, off, none⟩ = some (.int .i64 x.id)) (hc1 : w.cell? ⟨b, off + 1, none⟩ = some (.int .i64 x.kind)) (hc2 : w.cell? ⟨b, off + 2, none⟩ = some (.string x.text)) (hc3 : w.cell? ⟨b, off + 3, none⟩ = some (.slice ka (foLen x.kids) cap)) (hcap : foLen x.kids ≤ cap) (hk : FoAt w S x.kids ka)
    (hn : foLen x.kids ≤ 1000000) (hts : (x.text.size : Int) ≤ 9223372036854775807) (hid : (Lit.int .i64 x.id).wf = true) (hm : OwnsS w mb mn ids) :
    Calls Try.prog 130 #[gv, .map (some mb), .int .i64 (d : Int), .pointer (some ⟨b, off, none⟩)] w (Says (atB g ids d x) w) := by
  obtain ⟨ga, gc, rfl, hgk⟩ := hg
  obtain ⟨n, hn0⟩ : ∃ n, n = foLen x.kids := ⟨_, rfl⟩
  obtain ⟨gn, hgn⟩ : ∃ gn, gn = g.kinds.length := ⟨_, rfl⟩
  rw [← hn0] at hc3
  rw [← hgn]
  have hal := allocs_at [.cells #[.slice ga gn gc, .int .i64 g.root] 55, .cells #[] 156] w
  have hab := allocs_below [.cells #[.slice ga gn gc, .int .i64 g.root] 55, .cells #[] 156] w
  have hab1 := allocs_below [.cells #[.slice ga gn gc, .int .i64 g.root] 55] w
  have kx := hal 0 _ rfl
  rw [Nat.add_zero] at kx
  obtain ⟨V, hV⟩ : ∃ V, V = allocs w [.cells #[.slice ga gn gc, .int .i64 g.root] 55, .cells #[] 156] := ⟨_, rfl⟩
  rw [← hV] at kx hab
  have hbw := hS b hSb
  have hb4 : ∀ X : World, Below w.heap.size w X → X.cell? ⟨b, off, none⟩ = some (.int .i64 x.id) ∧ X.cell? ⟨b, off + 1, none⟩ = some (.int .i64 x.kind) ∧ X.cell? ⟨b, off + 2, none⟩ = some (.string x.text) ∧ X.cell? ⟨b, off + 3, none⟩ = some (.slice ka n cap) := fun X h =>
    ⟨(World.cell?_of_block (a := ⟨b, off, none⟩) (h.block b hbw)).trans hc0, (World.cell?_of_block (a := ⟨b, off + 1, none⟩) (h.block b hbw)).trans hc1, (World.cell?_of_block (a := ⟨b, off + 2, none⟩) (h.block b hbw)).trans hc2, (World.cell?_of_block (a := ⟨b, off + 3, none⟩) (h.block b hbw)).trans hc3⟩
  obtain ⟨SX, hSX⟩ : ∃ SX : World → Prop, SX = fun X => Below V.heap.size V X := ⟨_, rfl⟩
  have hwX : ∀ X, SX X → Below w.heap.size w X := fun X h => by rw [hSX] at h; exact hab.trans (h.mono hab.size)
  have HSx : ∀ X, SX X → X.cell? ⟨w.heap.size, 0, none⟩ = some (.slice ga gn gc) ∧ X.cell? ⟨w.heap.size, 1, none⟩ = some (.int .i64 g.root) ∧ X.cell? ⟨b, off, none⟩ = some (.int .i64 x.id) ∧ X.cell? ⟨b, off + 1, none⟩ = some (.int .i64 x.kind) ∧ X.cell? ⟨b, off + 2, none⟩ = some (.string x.text) ∧ X.cell? ⟨b, off + 3, none⟩ = some (.slice ka n cap) := fun X h => by
    have h4 := hb4 X (hwX X h)
    rw [hSX] at h
    obtain ⟨a0, a1⟩ := boxG ((h.block _ (lt_of_heap kx)).trans kx)
    exact ⟨a0, a1, h4⟩
  have hS0 : SX V.drew := by rw [hSX]; exact ⟨rfl, rfl, rfl, Nat.le_refl _, fun _ _ => rfl⟩
  have HSB := Lib.hid (fun (X Y : World) (h : SX X) (hb : Below X.heap.size X Y) => (show SX Y by rw [hSX] at h ⊢; exact h.trans (hb.mono h.size)))
  obtain ⟨nb, hnb⟩ : ∃ nb, nb = nodeB g x := ⟨_, rfl⟩
  have HND : Hid (∀ X, SX X → Calls Try.prog 48 #[.agg #[.slice ga gn gc, .int .i64 g.root], .agg #[.int .i64 x.id, .int .i64 x.kind, .string x.text, .slice ka n cap]] X (Says nb X)) := Lib.hid fun X h => by
    have := node_anyV X S (.agg #[.slice ga gn gc, .int .i64 g.root]) g (.agg #[.int .i64 x.id, .int .i64 x.kind, .string x.text, .slice ka n cap]) x ⟨ga, gc, by rw [hgn], hgk.below (hwX X h)⟩ hf (fun y hy => Nat.lt_of_lt_of_le (hS y hy) (hwX X h).size) ⟨ka, cap, by rw [hn0], hcap, hk.below (hwX X h) hS⟩ hn hts
    rw [← hnb] at this; exact this
  have HNB := Lib.hid hnb
  have HFIN := Lib.hid hwX
  have HV := Lib.hid hV
  obtain ⟨hb, hhb⟩ : ∃ hb, hb = ids.any (· == x.id) := ⟨_, rfl⟩
  have HHB := Lib.hid hhb
  have HA := Lib.hid (show atB g ids d x = (decide (32 < d) || (decide (x.id < 1) || decide (1125899906842624 < x.id)) || ids.any (· == x.id) || !nodeB g x) from rfl)
  have HKEY := Lib.hid (keyOf_int_mk (P := Try.prog) Try.underlying3 hid)
  have hb1 := hb4 _ hab1
  have HM1 := Lib.hid (hm.at (hab1.block mb (World.ownsMap.lt hm)))
  obtain ⟨q0, _, _, _⟩ := hb4 V hab
  rw [hV] at q0
  have hSV : SX V := by rw [hSX]; exact Below.refl _ V
  have HVF := Lib.hid (show Below w.heap.size w (allocs w [.cells #[.slice ga gn gc, .int .i64 g.root] 55, .cells #[] 156]) by rw [← hV]; exact hwX V hSV)
  obtain ⟨p0, _, _, _⟩ := hb1
  change (w.alloc (.cells #[.slice ga gn gc, .int .i64 g.root] 55)).cell? _ = _ at p0
  change ((w.alloc (.cells #[.slice ga gn gc, .int .i64 g.root] 55)).alloc (.cells #[] 156)).cell? _ = _ at q0
  clear hS hSb hc0 hc1 hc2 hc3 hcap hk hn hts hf hgk hn0 hgn hal hab hab1 kx hwX hSX hSV hb4 hbw hid hm hnb hhb hV
  refine (callsIn_wide (n := 8)).1 ?_
  refine callsIn_of_wp_marks Try.func130 rfl trivial ?_ rfl
  simp only [Try.ntmps130, List.size_toArray, List.length_cons, List.length_nil, Nat.reduceAdd, Nat.reduceSub, Array.replicate_succ, Array.replicate_zero, List.push_toArray, List.append_toArray, List.nil_append, List.cons_append]
  by_cases h32 : 32 < d
  · have hd : (32 : Int) < (d : Int) := by omega
    have HB := Lib.hid (show atB g ids d x = true by rw [HA.out]; simp [h32])
    clear h32 HSx hS0
    gi_wp2_with (gi_at_lookup; (refine wpListIn_lookup_own_unit _ rfl _ _ 154 rfl 3 156 law7 Try.underlying154 (zeroU _) mb mn _ rfl HM1.out _ _ rfl HKEY.out ?_); rw [has_ids, ← HHB.out]; clear p0)
    exact ⟨_, results_tmp rfl _ _ _, by rw [HB.out]; rfl, HVF.out⟩
  · have hd : ¬ (32 : Int) < (d : Int) := by omega
    by_cases h1 : x.id < 1
    · have HB := Lib.hid (show atB g ids d x = true by rw [HA.out]; simp [h1])
      clear h32 HSx hS0
      gi_wp2_with (gi_at_lookup; (refine wpListIn_lookup_own_unit _ rfl _ _ 154 rfl 3 156 law7 Try.underlying154 (zeroU _) mb mn _ rfl HM1.out _ _ rfl HKEY.out ?_); rw [has_ids, ← HHB.out]; clear p0)
      exact ⟨_, results_tmp rfl _ _ _, by rw [HB.out]; rfl, HVF.out⟩
    · by_cases hM : 1125899906842624 < x.id
      · have HB := Lib.hid (show atB g ids d x = true by rw [HA.out]; simp [hM])
        clear h32 HSx hS0
        gi_wp2_with (gi_at_lookup; (refine wpListIn_lookup_own_unit _ rfl _ _ 154 rfl 3 156 law7 Try.underlying154 (zeroU _) mb mn _ rfl HM1.out _ _ rfl HKEY.out ?_); rw [has_ids, ← HHB.out]; clear p0)
        exact ⟨_, results_tmp rfl _ _ _, by rw [HB.out]; rfl, HVF.out⟩
      · cases hb
        · have HB := Lib.hid (show atB g ids d x = !nb by rw [HA.out, ← HHB.out, ← HNB.out, decide_eq_false h32, decide_eq_false h1, decide_eq_false hM]; simp)
          clear h32
          gi_wp2_with (gi_at_lookup; (refine wpListIn_lookup_own_unit _ rfl _ _ 154 rfl 3 156 law7 Try.underlying154 (zeroU _) mb mn _ rfl HM1.out _ _ rfl HKEY.out ?_); rw [has_ids, ← HHB.out]; clear p0)
          change Code.wpIn _ _ _ _ _ _ (allocs w [.cells #[.slice ga gn gc, .int .i64 g.root] 55, .cells #[] 156])
          rw [← HV.out]
          refine region_calm (S := SX) (by kernel_rfl) ?_
          have hHeld := hS0
          clear hS0 HVF q0
          refine anyIn_take (i := 0) (oi := _) (v := (.agg #[.slice ga gn gc, .int .i64 g.root])) rfl (by kernel_rfl) (by kernel_rfl) (by kernel_rfl) (fun _ _ _ h => by cases h.1) (Or.inl ⟨by rfl, ?_⟩) hHeld ?_
          · clear hHeld; intro X hSw; obtain ⟨s0, s1, s2, s3, s4, s5⟩ := HSx X hSw; clear hSw; go_simp
          simp only [Act.put, List.getElem_toArray, List.getElem_cons_zero, List.getElem_cons_succ, List.setIfInBounds_toArray, List.set_cons_zero, List.set_cons_succ]
          refine anyIn_take (i := 1) (oi := _) (v := (.pointer (some ⟨b, off, none⟩))) rfl (by kernel_rfl) (by kernel_rfl) (by kernel_rfl) (fun _ _ _ h => by cases h.1) (Or.inl ⟨by rfl, ?_⟩) hHeld ?_
          · clear hHeld; intro X hSw; clear hSw; go_simp
          simp only [Act.put, List.getElem_toArray, List.getElem_cons_zero, List.getElem_cons_succ, List.setIfInBounds_toArray, List.set_cons_zero, List.set_cons_succ]
          refine anyIn_take (i := 2) (oi := _) (v := (.pointer (some ⟨b, off, none⟩))) rfl (by kernel_rfl) (by kernel_rfl) (by kernel_rfl) (fun _ _ _ h => by cases h.1) (Or.inl ⟨by rfl, ?_⟩) hHeld ?_
          · clear hHeld; intro X hSw; clear hSw; go_simp
          simp only [Act.put, List.getElem_toArray, List.getElem_cons_zero, List.getElem_cons_succ, List.setIfInBounds_toArray, List.set_cons_zero, List.set_cons_succ]
          refine anyIn_take (i := 3) (oi := _) (v := (.agg #[.int .i64 x.id, .int .i64 x.kind, .string x.text, .slice ka n cap])) rfl (by kernel_rfl) (by kernel_rfl) (by kernel_rfl) (fun _ _ _ h => by cases h.1) (Or.inl ⟨by rfl, ?_⟩) hHeld ?_
          · clear hHeld; intro X hSw; obtain ⟨s0, s1, s2, s3, s4, s5⟩ := HSx X hSw; clear hSw; go_simp
          simp only [Act.put, List.getElem_toArray, List.getElem_cons_zero, List.getElem_cons_succ, List.setIfInBounds_toArray, List.set_cons_zero, List.set_cons_succ]
          refine anyIn_one (i := 4) (o := _) (by kernel_rfl) rfl fun K4 hK4 => ?_
          rw [if_pos (by rfl)]
          simp only [List.getElem_toArray, List.getElem_cons_zero, List.getElem_cons_succ]
          have HK4 := Lib.hid hK4
          have HH4 := Lib.hid hHeld
          clear hK4 hHeld
          gi_wp2_with (refine ⟨trivial, ?_⟩; gi_at_call 48; refine (callsIn_wide.2 (HND.out _ HH4.out)).mono ?_; rintro e X4 ⟨rfl, hb⟩; have HX4 := Lib.hid hb; clear hb)
          have hHeld := HSB.out _ X4 HH4.out HX4.out
          refine HK4.out _ _ hHeld ?_
          clear HK4
          refine anyIn_take (i := 5) (oi := _) (v := (.bool (!nb))) rfl (by kernel_rfl) (by kernel_rfl) (by kernel_rfl) (fun _ _ _ h => by cases h.1) (Or.inl ⟨by rfl, ?_⟩) hHeld ?_
          · clear hHeld; intro X hSw; clear hSw; go_simp
          simp only [Act.put, List.getElem_toArray, List.getElem_cons_zero, List.getElem_cons_succ, List.setIfInBounds_toArray, List.set_cons_zero, List.set_cons_succ]
          refine anyIn_take (i := 6) (oi := _) (v := (.bool (!nb))) rfl (by kernel_rfl) (by kernel_rfl) (by kernel_rfl) (fun _ _ _ h => by cases h.1) (Or.inl ⟨by rfl, ?_⟩) hHeld ?_
          · clear hHeld; intro X hSw; clear hSw; go_simp
          simp only [Act.put, List.getElem_toArray, List.getElem_cons_zero, List.getElem_cons_succ, List.setIfInBounds_toArray, List.set_cons_zero, List.set_cons_succ]
          refine anyIn_done (by kernel_rfl) ⟨rfl, ?_⟩ _
          have HE := Lib.hid (HFIN.out _ hHeld)
          clear hHeld HSx
          cases nb
          · gi_wp2
            exact ⟨_, results_tmp rfl _ _ _, by rw [HB.out]; rfl, HE.out⟩
          · gi_wp2
            exact ⟨_, results_tmp rfl _ _ _, by rw [HB.out]; rfl, HE.out⟩
        · have HB := Lib.hid (show atB g ids d x = true by rw [HA.out, ← HHB.out]; simp)
          clear h32 HSx hS0
          gi_wp2_with (gi_at_lookup; (refine wpListIn_lookup_own_unit _ rfl _ _ 154 rfl 3 156 law7 Try.underlying154 (zeroU _) mb mn _ rfl HM1.out _ _ rfl HKEY.out ?_); rw [has_ids, ← HHB.out]; clear p0)
          exact ⟨_, results_tmp rfl _ _ _, by rw [HB.out]; rfl, HVF.out⟩
end Go.Proofs.Ytfdcopegkhofnaa
