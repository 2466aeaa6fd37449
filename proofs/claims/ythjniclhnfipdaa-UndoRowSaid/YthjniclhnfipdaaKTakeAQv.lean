/-
  take: a node taken out from a tree. No condition but that there are not too many nodes.
-/
import Derived.Test.YthjniclhnfipdaaKTakeQv
import Derived.Test.YthjniclhnfipdaaKPutQv
namespace Go.Proofs.Ythjniclhnfipdaa
open Go.RowKit Go.Shelf
set_option linter.unusedVariables false
set_option linter.unusedSimpArgs false

theorem results_two {P : Program} {fn : Func} {p q : Tmp} {ty : TypeId} (h : fn.results = #[.cell p ty, .cell q ty]) (tmps : Array Value) (w : World) (g g' : Nat) (t t' : TypeId) (cs cs' : Array Value) (fr fr' : Nat × Nat) (d : TypeDesc)
    (hp : tmps.getD p undef = .pointer (some ⟨g, 0, none⟩)) (hg : w.heap[g]? = some (.cells cs t fr)) (hp2 : tmps.getD q undef = .pointer (some ⟨g', 0, none⟩)) (hg2 : w.heap[g']? = some (.cells cs' t' fr')) (hu : P.underlying ty = some d) (hd : (match d with | .struct _ | .array _ _ => true | _ => false) = true) (hi : (P.info? ty).map (·.size) = some cs.size) (hi2 : cs'.size = cs.size) :
    (results fn tmps).run P w = .ok (.tuple #[.agg cs, .agg cs']) w := by
  have hp' : tmps[p]?.getD undef = .pointer (some ⟨g, 0, none⟩) := by simpa using hp
  have hq' : tmps[q]?.getD undef = .pointer (some ⟨g', 0, none⟩) := by simpa using hp2
  have r1 := run_loadVar_row w g t ty cs fr d hg hu hd hi
  have r2 := run_loadVar_row w g' t' ty cs' fr' d hg2 hu hd (by rw [hi2]; exact hi)
  simp [results, h, Array.mapM_eq_mapM_toList, hp', hq', asAddr, r1, r2]
def TwoC (w : World) (T : Nat → Prop) (r : Tr × Tr) (e : Ending) (w' : World) : Prop := ∃ v1 v2, e = .returned (.tuple #[v1, v2]) ∧ TrAt w' (fun y => T y ∨ w.heap.size ≤ y ∧ y < w'.heap.size) v1 r.1 ∧ TrAt w' (fun y => T y ∨ w.heap.size ≤ y ∧ y < w'.heap.size) v2 r.2 ∧ Below w.heap.size w w'
set_option maxRecDepth 100000 in
set_option maxHeartbeats 8000000 in
theorem take_any (w : World) (S : Nat → Prop) (nv : Value) (t u v : Tr) (q : List Nat) (i : Nat) (pa : Option Addr) (n pc : Nat) (hS : ∀ y, S y → y < w.heap.size) (ht : TrAt w S nv t) (hsz : foSize t.kids ≤ 300000) (hu : atT t q = some u) (hv : kidF u.kids i = some v) (hn : n = q.length + 1) (hp : IntsL w (fun y => y < w.heap.size) pa pc (natI (q ++ [i]))) :
    Calls Try.prog 168 #[nv, .slice pa n pc] w (TwoC w S (putP t q ⟨u.id, u.kind, u.text, delF u.kids i⟩, v)) := by
  obtain ⟨ka, tc, rfl, hcap, hk⟩ := ht
  obtain ⟨nk, hnk⟩ : ∃ nk, nk = foLen t.kids := ⟨_, rfl⟩
  rw [← hnk]
  obtain ⟨pb, po, rfl, hpb, hpc⟩ := hp.2.resolve_left (fun e => by simp [natI] at e)
  obtain ⟨m, hm⟩ : ∃ m, m = q.length := ⟨_, rfl⟩
  rw [← hm] at hn
  subst hn
  have hus := atT_size q t u hu
  have hul := foLen_le u.kids
  obtain ⟨B, hB⟩ : ∃ B, B = allocs w [.cells #[.int .i64 t.id, .int .i64 t.kind, .string t.text, .slice ka nk tc] 24, .cells #[.slice (some ⟨pb, po, none⟩) (m + 1) pc] 64, .cells #[.int .i64 0, .int .i64 0, .string ⟨#[]⟩, .slice none 0 0] 24, .cells #[.int .i64 0, .int .i64 0, .string ⟨#[]⟩, .slice none 0 0] 24, .cells #[.int .i64 (m : Int)] 3] := ⟨_, rfl⟩
  have hb : Below w.heap.size w B := by rw [hB]; exact allocs_below _ _
  have hs : B.heap.size = w.heap.size + 5 := by rw [hB]; exact allocs_size _ _
  have ht0 : B.heap[w.heap.size]? = some (.cells #[.int .i64 t.id, .int .i64 t.kind, .string t.text, .slice ka nk tc] 24 (0, 0)) := by rw [hB]; exact allocs_at _ _ 0 _ rfl
  have hp0 : B.heap[w.heap.size + 1]? = some (.cells #[.slice (some ⟨pb, po, none⟩) (m + 1) pc] 64 (0, 0)) := by rw [hB]; exact allocs_at _ _ 1 _ rfl
  have hr0 : B.heap[w.heap.size + 1 + 1]? = some (.cells #[.int .i64 0, .int .i64 0, .string ⟨#[]⟩, .slice none 0 0] 24 (0, 0)) := by rw [hB]; exact allocs_at _ _ 2 _ rfl
  have hk0 : B.heap[w.heap.size + 1 + 1 + 1]? = some (.cells #[.int .i64 0, .int .i64 0, .string ⟨#[]⟩, .slice none 0 0] 24 (0, 0)) := by rw [hB]; exact allocs_at _ _ 3 _ rfl
  have hl0 : B.heap[w.heap.size + 1 + 1 + 1 + 1]? = some (.cells #[.int .i64 (m : Int)] 3 (0, 0)) := by rw [hB]; exact allocs_at _ _ 4 _ rfl
  have hlp := hp.1
  rw [natI_length, List.length_append, ← hm, List.length_cons, List.length_nil] at hlp
  have htk : ∀ k x, (natI q)[k]? = some x → (natI (q ++ [i]))[k]? = some x := fun k x h => by
    rw [natI, List.map_append, List.getElem?_append_left (by have := (List.getElem?_eq_some_iff.1 h).1; simpa [natI] using this)]; exact h
  have hpI : IntsL B.drew (fun y => y < B.drew.heap.size ∧ ¬ y = w.heap.size + 1 + 1 + 1) (some ⟨pb, po, none⟩) pc (natI q) := ⟨by rw [natI_length, ← hm]; omega, Or.inr ⟨pb, po, rfl, ⟨by show pb < B.heap.size; omega, by omega⟩, fun k x h => (World.cell?_of_block (a := ⟨pb, po + k, none⟩) (show B.drew.heap[pb]? = w.heap[pb]? from hb.block pb hpb)).trans (hpc k x (htk k x h))⟩⟩
  have hpm : B.drew.cell? ⟨pb, po + m, none⟩ = some (.int .i64 (i : Int)) := (World.cell?_of_block (a := ⟨pb, po + m, none⟩) (show B.drew.heap[pb]? = w.heap[pb]? from hb.block pb hpb)).trans (hpc m (i : Int) (by rw [natI, List.map_append, List.getElem?_append_right (by rw [List.length_map]; omega), List.length_map, hm]; simp))
  have hal := along3 B.drew (E := fun y => y = w.heap.size + 1 + 1 + 1) (S := S) (SS := S) (RR := TakenR B.drew S (w.heap.size + 1 + 1 + 1) v) (.agg #[.int .i64 t.id, .int .i64 t.kind, .string t.text, .slice ka (foLen t.kids) tc]) t u ⟨u.id, u.kind, u.text, delF u.kids i⟩ q (some ⟨pb, po, none⟩) m pc (fun y hy => ⟨by have := hS y hy; show y < B.heap.size; omega, by have := hS y hy; omega⟩) (fun y hy => ⟨by have := hS y hy; show y < B.heap.size; omega, by have := hS y hy; omega⟩) (fun y hy => hy) (fun y hy => by show y < B.heap.size; omega) hm (by omega)
    ⟨ka, tc, rfl, hcap, hk.kept (w' := B.drew) (S' := S) fun y hy => ⟨hy, hb.block y (hS y hy)⟩⟩ (by omega) hpI hu
    (chg_take B.drew S (fun y hy => by have := hS y hy; show y < B.heap.size; omega) u v (w.heap.size + 1) (w.heap.size + 1 + 1 + 1 + 1) (w.heap.size + 1 + 1 + 1) pb po pc (m + 1) m i (by omega) hv (fun y hy => by have := hS y hy; omega) hp0 hl0 hk0 (by omega) (by omega) (by omega) (by omega) hpm) (fun X X' h hx => by
      obtain ⟨va, vc, h1, h2, h3⟩ := hx
      exact ⟨va, vc, (h _ rfl).trans h1, h2, h3⟩)
  rw [← hnk] at hal
  obtain ⟨y, hy⟩ : ∃ y, y = putP t q ⟨u.id, u.kind, u.text, delF u.kids i⟩ := ⟨_, rfl⟩
  rw [← hy] at hal ⊢
  obtain ⟨SW, hSW⟩ : ∃ SW : World → Prop, SW = fun Y => Y.heap[w.heap.size]? = some (.cells #[.int .i64 t.id, .int .i64 t.kind, .string t.text, .slice ka nk tc] 24 (0, 0)) ∧ Y.heap[w.heap.size + 1]? = some (.cells #[.slice (some ⟨pb, po, none⟩) (m + 1) pc] 64 (0, 0)) ∧ Y.heap[w.heap.size + 1 + 1 + 1 + 1]? = some (.cells #[.int .i64 (m : Int)] 3 (0, 0)) := ⟨_, rfl⟩
  have HSW := Lib.hid (fun (Y : World) (h : SW Y) => (show (Y.cell? ⟨w.heap.size, 0, none⟩ = some (.int .i64 t.id) ∧ Y.cell? ⟨w.heap.size, 1, none⟩ = some (.int .i64 t.kind) ∧ Y.cell? ⟨w.heap.size, 2, none⟩ = some (.string t.text) ∧ Y.cell? ⟨w.heap.size, 3, none⟩ = some (.slice ka nk tc)) ∧ Y.cell? ⟨w.heap.size + 1, 0, none⟩ = some (.slice (some ⟨pb, po, none⟩) (m + 1) pc) ∧ Y.cell? ⟨w.heap.size + 1 + 1 + 1 + 1, 0, none⟩ = some (.int .i64 (m : Int)) by
    rw [hSW] at h; exact ⟨box4 h.1, by rw [cell_of_row _ _ 0 _ _ _ h.2.1]; rfl, by rw [cell_of_row _ _ 0 _ _ _ h.2.2]; rfl⟩))
  have HMK := Lib.hid (fun (Y : World) (h : Y.heap[w.heap.size]? = B.heap[w.heap.size]? ∧ Y.heap[w.heap.size + 1]? = B.heap[w.heap.size + 1]? ∧ Y.heap[w.heap.size + 1 + 1 + 1 + 1]? = B.heap[w.heap.size + 1 + 1 + 1 + 1]?) => (show SW Y by rw [hSW]; exact ⟨h.1.trans ht0, h.2.1.trans hp0, h.2.2.trans hl0⟩))
  have HAL := Lib.hid hal
  have HB := Lib.hid (And.intro hb (And.intro hs (And.intro hr0 (And.intro hk0 hS))))
  have HBE := Lib.hid hB
  have hmi : (m : Int) ≤ (m : Int) + 1 := by omega
  have hm6 : (m : Int) ≤ 1000000 := by omega
  have hpc1 : m ≤ pc := by omega
  have hmf : ∀ (fn : Fn) (first cap : Array Value) (w : World), (Instr.makeFunc fn first cap).run Try.prog w = .ok (.func fn first cap) w := fun _ _ _ _ => rfl
  have hS0 : SW B.drew := HMK.out _ ⟨rfl, rfl, rfl⟩
  clear hal hb hs ht0 hp0 hr0 hk0 hl0 hlp htk hpI hpm hSW hS hk hcap hsz hu hv hp hpb hpc hus hul hB hnk hy hm
  go_enter Try.func168, Try.ntmps168
  go_upto_region 2 with fail
  change Code.wp _ _ _ _ (allocs w [.cells #[.int .i64 t.id, .int .i64 t.kind, .string t.text, .slice ka nk tc] 24, .cells #[.slice (some ⟨pb, po, none⟩) (m + 1) pc] 64, .cells #[.int .i64 0, .int .i64 0, .string ⟨#[]⟩, .slice none 0 0] 24, .cells #[.int .i64 0, .int .i64 0, .string ⟨#[]⟩, .slice none 0 0] 24, .cells #[.int .i64 (m : Int)] 3])
  rw [← HBE.out]
  refine wp_region_held_drew (S := SW) (by kernel_rfl) hS0 (fun hHeld => ?_)
  clear hS0
  refine wpAnyH_take (i := 0) (oi := _) (v := .agg #[.int .i64 t.id, .int .i64 t.kind, .string t.text, .slice ka nk tc]) rfl (by kernel_rfl) (by kernel_rfl) (by kernel_rfl) (fun _ _ _ h => h) (Or.inl ⟨by rfl, ?_⟩) (by assumption) ?_
  · clear hHeld; intro X hSw; obtain ⟨⟨s0, s1, s2, s3⟩, s4, s5⟩ := HSW.out X hSw; clear hSw; go_simp
  simp only [Act.put, List.getElem_toArray, List.getElem_cons_zero, List.getElem_cons_succ, List.setIfInBounds_toArray, List.set_cons_zero, List.set_cons_succ]
  refine wpAnyH_take (i := 1) (oi := _) (v := .slice (some ⟨pb, po, none⟩) (m + 1) pc) rfl (by kernel_rfl) (by kernel_rfl) (by kernel_rfl) (fun _ _ _ h => h) (Or.inl ⟨by rfl, ?_⟩) (by assumption) ?_
  · clear hHeld; intro X hSw; obtain ⟨⟨s0, s1, s2, s3⟩, s4, s5⟩ := HSW.out X hSw; clear hSw; go_simp
  simp only [Act.put, List.getElem_toArray, List.getElem_cons_zero, List.getElem_cons_succ, List.setIfInBounds_toArray, List.set_cons_zero, List.set_cons_succ]
  refine wpAnyH_take (i := 2) (oi := _) (v := .int .i64 (m : Int)) rfl (by kernel_rfl) (by kernel_rfl) (by kernel_rfl) (fun _ _ _ h => h) (Or.inl ⟨by rfl, ?_⟩) (by assumption) ?_
  · clear hHeld; intro X hSw; obtain ⟨⟨s0, s1, s2, s3⟩, s4, s5⟩ := HSW.out X hSw; clear hSw; go_simp
  simp only [Act.put, List.getElem_toArray, List.getElem_cons_zero, List.getElem_cons_succ, List.setIfInBounds_toArray, List.set_cons_zero, List.set_cons_succ]
  refine wpAnyH_take (i := 3) (oi := _) (v := .slice (some ⟨pb, po, none⟩) m pc) rfl (by kernel_rfl) (by kernel_rfl) (by kernel_rfl) (fun _ _ _ h => h) (Or.inl ⟨by rfl, ?_⟩) (by assumption) ?_
  · clear hHeld; intro X hSw; clear hSw; go_simp
  simp only [Act.put, List.getElem_toArray, List.getElem_cons_zero, List.getElem_cons_succ, List.setIfInBounds_toArray, List.set_cons_zero, List.set_cons_succ]
  refine wpAnyH_take (i := 4) (oi := _) (v := .func (.func 176) #[] #[.pointer (some ⟨w.heap.size + 1, 0, none⟩), .pointer (some ⟨w.heap.size + 1 + 1 + 1 + 1, 0, none⟩), .pointer (some ⟨w.heap.size + 1 + 1 + 1, 0, none⟩)]) rfl (by kernel_rfl) (by kernel_rfl) (by kernel_rfl) (fun _ _ _ h => h) (Or.inl ⟨by rfl, ?_⟩) (by assumption) ?_
  · clear hHeld; intro X hSw; clear hSw; go_simp
  simp only [Act.put, List.getElem_toArray, List.getElem_cons_zero, List.getElem_cons_succ, List.setIfInBounds_toArray, List.set_cons_zero, List.set_cons_succ]
  refine wpAnyH_ready (rs := [5]) (by kernel_rfl) (by simp) ?_
  refine AllReadyH.cons (o := _) rfl (fun K hK => ?_) (AllReadyH.nil)
  rw [if_pos (by rfl)]
  simp only [List.getElem_toArray, List.getElem_cons_zero, List.getElem_cons_succ]
  have HK := Lib.hid hK
  clear hK hHeld
  go_wp2_with (go_at_call 169; refine HAL.out.mono ?_; rintro e X ⟨yv, rfl, ⟨kb, kc, rfl, hkc, hkk⟩, k1, k2, k3, k4, k5, k6⟩; have HX := Lib.hid (And.intro hkc (And.intro hkk (And.intro k1 (And.intro k2 (And.intro k3 (And.intro k4 (And.intro k5 k6))))))); clear hkc hkk k1 k2 k3 k4 k5 k6)
  obtain ⟨hkc, hkk, k1, k2, k3, k4, k5, va, vc, k6, hvc, hvk⟩ := HX.out
  have k4' : B.heap.size ≤ X.heap.size := k4
  have k5' : ∀ z, z < B.heap.size → z ≠ w.heap.size + 1 + 1 + 1 → X.heap[z]? = B.heap[z]? := k5
  obtain ⟨hb, hs, hr0, hk0, hS⟩ := HB.out
  obtain ⟨yn, hyn⟩ : ∃ yn, yn = foLen y.kids := ⟨_, rfl⟩
  obtain ⟨vn, hvn⟩ : ∃ vn, vn = foLen v.kids := ⟨_, rfl⟩
  rw [← hyn]
  rw [← hvn] at k6 hvc
  have hrX := (k5' (w.heap.size + 1 + 1) (by omega) (by omega)).trans hr0
  have hbX : Below w.heap.size w X := ⟨k1.trans hb.os, k2.trans hb.tape, k3.trans hb.output, Nat.le_trans hb.size k4', fun z hz => (k5' z (by omega) (by omega)).trans (hb.block z hz)⟩
  obtain ⟨V, hV, r1, r2, r3, r4, r5, r6⟩ := four_set (V := X) (R1 := w.heap.size + 1 + 1) (u0 := .int .i64 y.id) (u1 := .int .i64 y.kind) (u2 := .string y.text) (u3 := .slice kb yn kc) hrX
  have hSX : SW X := HMK.out _ ⟨k5' _ (by omega) (by omega), k5' _ (by omega) (by omega), k5' _ (by omega) (by omega)⟩
  have hSV : SW V := HMK.out _ ⟨(r2 _ (by omega)).trans (k5' _ (by omega) (by omega)), (r2 _ (by omega)).trans (k5' _ (by omega) (by omega)), (r2 _ (by omega)).trans (k5' _ (by omega) (by omega))⟩
  have hkV := (r2 (w.heap.size + 1 + 1 + 1) (by omega)).trans k6
  have hVX : ∀ z, z < X.heap.size → z ≠ w.heap.size + 1 + 1 → V.heap[z]? = X.heap[z]? := fun z _ hz => r2 z hz
  have hbV : Below w.heap.size w V := ⟨r3.trans hbX.os, r4.trans hbX.tape, r5.trans hbX.output, by rw [r6]; exact hbX.size, fun k hk => (r2 k (by omega)).trans (hbX.block k hk)⟩
  have hyV : FoAt V (fun z => S z ∨ w.heap.size ≤ z ∧ z < V.heap.size) y.kids kb := hkk.kept fun z hz => by
    have hz2 : z < X.heap.size ∧ z ≠ w.heap.size + 1 + 1 := by
      rcases hz with hz | hz
      · have := hS z hz; omega
      · have h1 : B.heap.size ≤ z := hz.1
        omega
    exact ⟨hz.elim Or.inl (fun hz => Or.inr ⟨by have h1 : B.heap.size ≤ z := hz.1; omega, by omega⟩), r2 z hz2.2⟩
  have hvV : FoAt V (fun z => S z ∨ w.heap.size ≤ z ∧ z < V.heap.size) v.kids va := hvk.kept fun z hz => by
    have h1 := hS z hz
    exact ⟨Or.inl hz, (r2 z (by omega)).trans (k5' z (by omega) (by omega))⟩
  obtain ⟨z0, z1, z2, z3⟩ := box4 hrX
  have zf : ∀ j, X.frozen? ⟨w.heap.size + 1 + 1, j, none⟩ = false := fun j => frozen_of_row _ _ j _ _ hrX
  have HV := Lib.hid (And.intro hV hSV)
  have HF := Lib.hid (And.intro hbV (And.intro r1 (And.intro hkV (And.intro hyV (And.intro hvV (And.intro hkc (And.intro hvc (And.intro hyn hvn))))))))
  clear hkc hkk k1 k2 k3 k4 k5 k6 hvc hvk k4' k5' hb hs hr0 hk0 hS hyn hvn hbX hV r1 r2 r3 r4 r5 r6 hSV hkV hVX hbV hyV hvV hrX HX
  refine HK.out _ _ hSX (fun hHeld => ?_)
  clear HK hSX
  refine wpAnyH_ready (rs := [6]) (by kernel_rfl) (by simp) ?_
  refine AllReadyH.cons (o := _) rfl (fun K hK => ?_) (AllReadyH.nil)
  rw [if_pos (by rfl)]
  simp only [List.getElem_toArray, List.getElem_cons_zero, List.getElem_cons_succ]
  have HK := Lib.hid hK
  clear hK hHeld
  go_wp2_with fail
  rw [← HV.out.1]
  refine HK.out _ _ HV.out.2 (fun hHeld => ?_)
  clear HK hHeld z0 z1 z2 z3 zf
  refine wpAnyH_done (by kernel_rfl) ?_ _
  go_upto_region 3 with fail
  obtain ⟨hbV, r1, hkV, hyV, hvV, hkc, hvc, hyn, hvn⟩ := HF.out
  obtain ⟨S2, hS2⟩ : ∃ S2 : World → Prop, S2 = fun Y => Y.heap[w.heap.size + 1 + 1]? = some (.cells #[.int .i64 y.id, .int .i64 y.kind, .string y.text, .slice kb yn kc] 24 (0, 0)) ∧ Y.heap[w.heap.size + 1 + 1 + 1]? = some (.cells #[.int .i64 v.id, .int .i64 v.kind, .string v.text, .slice va vn vc] 24 (0, 0)) := ⟨_, rfl⟩
  have HS2 := Lib.hid (fun (Y : World) (h : S2 Y) => (show (Y.cell? ⟨w.heap.size + 1 + 1, 0, none⟩ = some (.int .i64 y.id) ∧ Y.cell? ⟨w.heap.size + 1 + 1, 1, none⟩ = some (.int .i64 y.kind) ∧ Y.cell? ⟨w.heap.size + 1 + 1, 2, none⟩ = some (.string y.text) ∧ Y.cell? ⟨w.heap.size + 1 + 1, 3, none⟩ = some (.slice kb yn kc)) ∧ (Y.cell? ⟨w.heap.size + 1 + 1 + 1, 0, none⟩ = some (.int .i64 v.id) ∧ Y.cell? ⟨w.heap.size + 1 + 1 + 1, 1, none⟩ = some (.int .i64 v.kind) ∧ Y.cell? ⟨w.heap.size + 1 + 1 + 1, 2, none⟩ = some (.string v.text) ∧ Y.cell? ⟨w.heap.size + 1 + 1 + 1, 3, none⟩ = some (.slice va vn vc)) by
    rw [hS2] at h; exact ⟨box4 h.1, box4 h.2⟩))
  have HT := Lib.hid (fun (Y : World) (h1 : Y.heap[w.heap.size + 1 + 1]? = some (.cells #[.int .i64 y.id, .int .i64 y.kind, .string y.text, .slice kb yn kc] 24 (0, 0))) (h2 : Y.heap[w.heap.size + 1 + 1 + 1]? = some (.cells #[.int .i64 v.id, .int .i64 v.kind, .string v.text, .slice va vn vc] 24 (0, 0))) => (show S2 Y.drew by rw [hS2]; exact ⟨h1, h2⟩))
  have hT0 : S2 V.drew := HT.out V r1 hkV
  clear hbV r1 hkV hyV hvV hkc hvc hyn hvn hS2
  refine wp_region_held_drew (S := S2) (by kernel_rfl) hT0 (fun hHeld => ?_)
  refine wpAnyH_take (i := 0) (oi := _) (v := .agg #[.int .i64 y.id, .int .i64 y.kind, .string y.text, .slice kb yn kc]) rfl (by kernel_rfl) (by kernel_rfl) (by kernel_rfl) (fun _ _ _ h => h) (Or.inl ⟨by rfl, ?_⟩) (by assumption) ?_
  · clear hHeld; intro X hSw; obtain ⟨⟨s0, s1, s2, s3⟩, ⟨u0, u1, u2, u3⟩⟩ := HS2.out X hSw; clear hSw; go_simp
  simp only [Act.put, List.getElem_toArray, List.getElem_cons_zero, List.getElem_cons_succ, List.setIfInBounds_toArray, List.set_cons_zero, List.set_cons_succ]
  refine wpAnyH_take (i := 1) (oi := _) (v := .agg #[.int .i64 v.id, .int .i64 v.kind, .string v.text, .slice va vn vc]) rfl (by kernel_rfl) (by kernel_rfl) (by kernel_rfl) (fun _ _ _ h => h) (Or.inl ⟨by rfl, ?_⟩) (by assumption) ?_
  · clear hHeld; intro X hSw; obtain ⟨⟨s0, s1, s2, s3⟩, ⟨u0, u1, u2, u3⟩⟩ := HS2.out X hSw; clear hSw; go_simp
  simp only [Act.put, List.getElem_toArray, List.getElem_cons_zero, List.getElem_cons_succ, List.setIfInBounds_toArray, List.set_cons_zero, List.set_cons_succ]
  refine wpAnyH_ready (rs := [2]) (by kernel_rfl) (by simp) ?_
  refine AllReadyH.cons (o := _) rfl (fun K hK => ?_) (AllReadyH.nil)
  rw [if_pos (by rfl)]
  simp only [List.getElem_toArray, List.getElem_cons_zero, List.getElem_cons_succ]
  have HK := Lib.hid hK
  clear hK hHeld
  obtain ⟨q0, q1, q2, q3, hq⟩ : ∃ q0 q1 q2 q3, V.heap[w.heap.size + 1 + 1]? = some (.cells #[q0, q1, q2, q3] 24 (0, 0)) := ⟨_, _, _, _, HF.out.2.1⟩
  obtain ⟨V2, hV2, a1, a2, a3, a4, a5, a6⟩ := four_set (V := V) (R1 := w.heap.size + 1 + 1) (u0 := .int .i64 y.id) (u1 := .int .i64 y.kind) (u2 := .string y.text) (u3 := .slice kb yn kc) hq
  obtain ⟨s0, s1, s2, s3⟩ := box4 hq
  have sf : ∀ j, V.frozen? ⟨w.heap.size + 1 + 1, j, none⟩ = false := fun j => frozen_of_row _ _ j _ _ hq
  have hk2 := (a2 (w.heap.size + 1 + 1 + 1) (by omega)).trans HF.out.2.2.1
  have hT2 : S2 V2.drew := HT.out _ a1 hk2
  have HV2 := Lib.hid hV2
  have HA := Lib.hid (And.intro a1 (And.intro a2 (And.intro a3 (And.intro a4 (And.intro a5 (And.intro a6 hk2))))))
  clear hV2 a1 a2 a3 a4 a5 a6 hk2 hq
  go_wp2_with fail
  rw [← HV2.out]
  refine HK.out _ _ hT2 (fun hHeld => ?_)
  clear HK hT0 hT2 s0 s1 s2 s3 sf
  refine wpAnyH_ready (rs := [3]) (by kernel_rfl) (by simp) ?_
  refine AllReadyH.cons (o := _) rfl (fun K hK => ?_) (AllReadyH.nil)
  rw [if_pos (by rfl)]
  simp only [List.getElem_toArray, List.getElem_cons_zero, List.getElem_cons_succ]
  have HK := Lib.hid hK
  clear hK hHeld
  obtain ⟨q0, q1, q2, q3, hq⟩ : ∃ q0 q1 q2 q3, V2.heap[w.heap.size + 1 + 1 + 1]? = some (.cells #[q0, q1, q2, q3] 24 (0, 0)) := ⟨_, _, _, _, HA.out.2.2.2.2.2.2⟩
  obtain ⟨V3, hV3, b1, b2, b3, b4, b5, b6⟩ := four_set (V := V2) (R1 := w.heap.size + 1 + 1 + 1) (u0 := .int .i64 v.id) (u1 := .int .i64 v.kind) (u2 := .string v.text) (u3 := .slice va vn vc) hq
  obtain ⟨s0, s1, s2, s3⟩ := box4 hq
  have sf : ∀ j, V2.frozen? ⟨w.heap.size + 1 + 1 + 1, j, none⟩ = false := fun j => frozen_of_row _ _ j _ _ hq
  have hk3 := (b2 (w.heap.size + 1 + 1) (by omega)).trans HA.out.1
  have hT3 : S2 V3.drew := HT.out _ hk3 b1
  have HV3 := Lib.hid hV3
  have HB3 := Lib.hid (And.intro b1 (And.intro b2 (And.intro b3 (And.intro b4 (And.intro b5 (And.intro b6 hk3))))))
  clear hV3 b1 b2 b3 b4 b5 b6 hk3 hq
  go_wp2_with fail
  rw [← HV3.out]
  refine HK.out _ _ hT3 (fun hHeld => ?_)
  clear HK hHeld s0 s1 s2 s3 sf hT3
  refine wpAnyH_done (by kernel_rfl) ?_ _
  obtain ⟨hbV, r1, hkV, hyV, hvV, hkc, hvc, hyn, hvn⟩ := HF.out
  obtain ⟨a1, a2, a3, a4, a5, a6, hk2⟩ := HA.out
  obtain ⟨b1, b2, b3, b4, b5, b6, hk3⟩ := HB3.out
  have hall : ∀ z, V3.heap[z]? = V.heap[z]? := fun z => by
    by_cases h3 : z = w.heap.size + 1 + 1 + 1
    · subst h3; rw [b1, hkV]
    · rw [b2 z h3]
      by_cases h2 : z = w.heap.size + 1 + 1
      · subst h2; rw [a1, r1]
      · exact a2 z h2
  have hsz3 : V3.heap.size = V.heap.size := b6.trans a6
  go_wp2_with fail
  refine bodyPost_ret (results_two rfl _ V3.drew (w.heap.size + 1 + 1) (w.heap.size + 1 + 1 + 1) 24 24 _ _ _ _ _ rfl hk3 rfl b1 Try.underlying24 rfl (by kernel_rfl) rfl) rfl ?_
  exact ⟨_, _, rfl, ⟨kb, kc, by rw [hyn], hkc, hyV.kept (w' := V3.drew) (S' := fun z => S z ∨ w.heap.size ≤ z ∧ z < V3.drew.heap.size) fun z hz => ⟨hz.imp id (fun h => ⟨h.1, by show z < V3.heap.size; omega⟩), hall z⟩⟩, ⟨va, vc, by rw [hvn], by rw [← hvn]; exact hvc, hvV.kept (w' := V3.drew) (S' := fun z => S z ∨ w.heap.size ≤ z ∧ z < V3.drew.heap.size) fun z hz => ⟨hz.imp id (fun h => ⟨h.1, by show z < V3.heap.size; omega⟩), hall z⟩⟩, ⟨b3.trans (a3.trans hbV.os), b4.trans (a4.trans hbV.tape), b5.trans (a5.trans hbV.output), by show _ ≤ V3.heap.size; rw [hsz3]; exact hbV.size, fun z hz => (hall z).trans (hbV.block z hz)⟩⟩
end Go.Proofs.Ythjniclhnfipdaa
