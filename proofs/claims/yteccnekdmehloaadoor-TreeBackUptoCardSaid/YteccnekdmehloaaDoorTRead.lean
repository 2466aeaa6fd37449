/-
  The program's Read and the document's: bytes as a tree, or refused. No condition.
-/
import Derived.Test.YteccnekdmehloaaDoorDPair
import Derived.Test.YteccnekdmehloaaDoorCBackR
namespace Go.Proofs.YteccnekdmehloaaDoor
open Go.RowKit
set_option linter.unusedVariables false
set_option linter.unusedSimpArgs false

/-- What both answer: the tree, the byte at fault, the error. -/
def readT (bs : List UInt8) : Tr × Int × Int := if 65536 < bs.length then (zeroTC, 0, 3) else match pTree bs 0 with
  | .error p => (zeroTC, p, 30)
  | .ok (t, q) => if q < bs.length then (zeroTC, q, 30) else (t, 0, 0)
def TReadC (w : World) (r : Tr × Int × Int) (e : Ending) (w' : World) : Prop := ∃ v, e = .returned (.tuple #[v, .int .i64 r.2.1, .int .i64 r.2.2]) ∧ TrAt w' (Fresh w w') v r.1 ∧ Below w.heap.size w w'
theorem endV_of (s : Rd) : s.endV = .tuple #[.int .i64 (if s.bad ∨ s.pos < s.data.length then (s.pos : Int) else 0), .int .i64 (if s.bad ∨ s.pos < s.data.length then 30 else 0)] := by
  unfold Rd.endV
  split <;> rfl
theorem results_cellTT {P : Program} {fn : Func} {p u v : Tmp} {ty : TypeId} (h : fn.results = #[.cell p ty, .tmp u, .tmp v]) (tmps : Array Value) (w : World) (g : Nat) (t : TypeId) (cs : Array Value) (fr : Nat × Nat) (d : TypeDesc) (x y : Value)
    (hp : tmps.getD p undef = .pointer (some ⟨g, 0, none⟩)) (hg : w.heap[g]? = some (.cells cs t fr)) (hu : P.underlying ty = some d) (hd : (match d with | .struct _ | .array _ _ => true | _ => false) = true) (hi : (P.info? ty).map (·.size) = some cs.size) (hp2 : tmps.getD u undef = x) (hp3 : tmps.getD v undef = y) :
    (results fn tmps).run P w = .ok (.tuple #[.agg cs, x, y]) w := by
  have hp' : tmps[p]?.getD undef = .pointer (some ⟨g, 0, none⟩) := by simpa using hp
  have hp2' : tmps[u]?.getD undef = x := by simpa using hp2
  have hp3' : tmps[v]?.getD undef = y := by simpa using hp3
  simp [results, h, hp', hp2', hp3', asAddr, run_loadVar_row w g t ty cs fr d hg hu hd hi]
-- READ
theorem read_eq (bs : List UInt8) (hl : bs.length ≤ 65536) : readT bs = if (aft (⟨bs, 0, false⟩ : Rd) (pTree bs 0)).bad ∨ (aft (⟨bs, 0, false⟩ : Rd) (pTree bs 0)).pos < bs.length then (zeroTC, ((aft (⟨bs, 0, false⟩ : Rd) (pTree bs 0)).pos : Int), 30) else (vl (⟨bs, 0, false⟩ : Rd) (pTree bs 0) zeroTC, 0, 0) := by
  unfold readT
  rw [if_neg (by omega)]
  cases ho : pTree bs 0 with
  | error p => rw [aft_err rfl rfl]; simp
  | ok x =>
    obtain ⟨t, q⟩ := x
    rw [aft_ok (x := t) (q := q) rfl rfl, vl_ok (x := t) (q := q) rfl rfl]
    simp
theorem four_cell {w : World} {b : Nat} {c0 c1 c2 c3 : Value} {T : TypeId} (h : w.heap[b]? = some (.cells #[c0, c1, c2, c3] T (0, 0))) : w.cell? ⟨b, 0, none⟩ = some c0 ∧ w.cell? ⟨b, 1, none⟩ = some c1 ∧ w.cell? ⟨b, 2, none⟩ = some c2 ∧ w.cell? ⟨b, 3, none⟩ = some c3 :=
  ⟨by rw [cell_of_row _ _ 0 _ _ _ h]; rfl, by rw [cell_of_row _ _ 1 _ _ _ h]; rfl, by rw [cell_of_row _ _ 2 _ _ _ h]; rfl, by rw [cell_of_row _ _ 3 _ _ _ h]; rfl⟩
set_option maxRecDepth 100000 in
set_option maxHeartbeats 4000000 in
theorem tread_walk (w : World) (a : Option Addr) (cap n : Nat) (bs : List UInt8) (hn : n = bs.length) (RR : Nat → World → Rd → Prop)
    (halloc : ∀ rb X s o, RR rb X s → RR rb (X.alloc o) s)
    (hnew : n ≤ 65536 → ∀ w1, Below w.heap.size w w1 → Calls Tryd.prog 20 #[.slice a n cap] w1 fun e w' => ∃ rb, e = .returned (.pointer (some ⟨rb, 0, none⟩)) ∧ w1.heap.size ≤ rb ∧ RR rb w' ⟨bs, 0, false⟩ ∧ Below w1.heap.size w1 w')
    (hnode : ∀ rb X, RR rb X ⟨bs, 0, false⟩ → Calls Tryd.prog 21 #[.pointer (some ⟨rb, 0, none⟩)] X fun e w' => ∃ v, e = .returned v ∧ TrAt w' (Fresh X w') v (vl (⟨bs, 0, false⟩ : Rd) (pTree bs 0) zeroTC) ∧ RR rb w' (aft ⟨bs, 0, false⟩ (pTree bs 0)) ∧ Touched X w' (fun k => k = rb))
    (hend : ∀ rb X s, RR rb X s → Calls Tryd.prog 22 #[.pointer (some ⟨rb, 0, none⟩)] X fun e w' => e = .returned s.endV ∧ Touched X w' (fun k => k = rb))
    (hlt : ∀ rb X s, RR rb X s → rb < X.heap.size) :
    Calls Tryd.prog 7 #[.slice a n cap] w (TReadC w (readT bs)) := by
  obtain ⟨w1, hw1⟩ : ∃ w1, w1 = w.alloc (.cells #[.int .i64 0, .int .i64 0, .string ⟨#[]⟩, .slice none 0 0] 25) := ⟨_, rfl⟩
  have hb1 : Below w.heap.size w w1 := by rw [hw1]; exact (Below.refl _ _).alloc (Nat.le_refl _) _
  have hz1 : w1.heap[w.heap.size]? = some (.cells #[.int .i64 0, .int .i64 0, .string ⟨#[]⟩, .slice none 0 0] 25 (0, 0)) := by rw [hw1]; exact heap_alloc_new w _
  have hs1 : w1.heap.size = w.heap.size + 1 := by rw [hw1]; simp
  obtain ⟨r, hr⟩ : ∃ r, r = readT bs := ⟨_, rfl⟩
  -- the end: what lies in the result's cell
  have hfin : ∀ (y : Tr) (kb : Option Addr) (kc m : Nat) (x1 x2 : Int) (wr : World), Below w.heap.size w wr → wr.heap[w.heap.size]? = some (.cells #[.int .i64 0, .int .i64 0, .string ⟨#[]⟩, .slice none 0 0] 25 (0, 0)) → m = foLen y.kids → foLen y.kids ≤ kc → FoAt wr (fun z => w.heap.size < z ∧ z < wr.heap.size) y.kids kb → r = (y, x1, x2) → ∀ tmps : Array Value, tmps.getD 2 undef = .pointer (some ⟨w.heap.size, 0, none⟩) → tmps.getD 3 undef = .int .i64 x1 → tmps.getD 4 undef = .int .i64 x2 →
      bodyPost Tryd.prog Tryd.f7 (TReadC w r) .ret { tmps, defers := [] } ((((wr.setCell ⟨w.heap.size, 0, none⟩ (.int .i64 y.id)).setCell ⟨w.heap.size, 1, none⟩ (.int .i64 y.kind)).setCell ⟨w.heap.size, 2, none⟩ (.string y.text)).setCell ⟨w.heap.size, 3, none⟩ (.slice kb m kc)) := by
    intro y kb kc m x1 x2 wr hB hwr hm hc hf hy tmps t2 t3 t4
    subst hm
    obtain ⟨g1, g2, g3⟩ := set4 hwr (.int .i64 y.id) (.int .i64 y.kind) (.string y.text) (.slice kb (foLen y.kids) kc)
    refine bodyPost_ret (results_cellTT rfl tmps _ w.heap.size 25 _ _ _ (.int .i64 x1) (.int .i64 x2) t2 g1 Tryd.underlying25 rfl (by kernel_rfl) t3 t4) rfl ?_
    rw [hy]
    refine ⟨_, rfl, ⟨kb, kc, rfl, hc, hf.kept fun z hz => ⟨⟨by have := hz.1; omega, by rw [g3]; exact hz.2⟩, g2.block z hz.2 (by have := hz.1; omega)⟩⟩, ?_⟩
    exact hB.trans (g2.below hB.size (fun k hk => by omega))
  have HFIN := Lib.hid hfin
  have HR := Lib.hid hr
  have HN := Lib.hid hn
  have HW := Lib.hid hw1
  obtain ⟨z0, z1, z2, z3⟩ := four_cell hz1
  have zf : ∀ j, w1.frozen? ⟨w.heap.size, j, none⟩ = false := fun j => frozen_of_row _ _ j _ _ hz1
  have H1 := Lib.hid (And.intro hb1 (And.intro hz1 hs1))
  have HALL := Lib.hid halloc
  have HNEW := Lib.hid hnew
  have HNODE := Lib.hid hnode
  have HEND := Lib.hid hend
  have HLT := Lib.hid hlt
  rw [← hr]
  clear hfin hr hn hw1 hb1 hz1 hs1 halloc hnew hnode hend hlt
  by_cases hbig : 65536 < n
  · have hbi : (65536 : Int) < (n : Int) := by omega
    have hE : r = (zeroTC, 0, 3) := by rw [HR.out, readT, if_pos (by rw [← HN.out]; exact hbig)]
    have HE := Lib.hid hE
    rw [HW.out] at z0 z1 z2 z3 zf
    clear hE hbig HNEW HNODE HEND
    go_enter Tryd.func7, Tryd.ntmps7
    go_wp2_with fail
    rw [← HW.out]
    refine bodyPost_ret (results_cellTT rfl _ w1 w.heap.size 25 _ _ _ (.int .i64 0) (.int .i64 3) rfl H1.out.2.1 Tryd.underlying25 rfl (by kernel_rfl) rfl rfl) rfl ?_
    rw [HE.out]
    exact ⟨_, rfl, ⟨none, 0, rfl, Nat.le_refl _, True.intro⟩, H1.out.1⟩
  · have hbi : ¬ (65536 : Int) < (n : Int) := by omega
    have HSM := Lib.hid (show n ≤ 65536 by omega)
    clear hbig z0 z1 z2 z3 zf
    go_enter Tryd.func7, Tryd.ntmps7
    go_wp2_with fail
    rw [← HW.out]
    refine (HNEW.out HSM.out w1 H1.out.1).mono ?_
    rintro e w2 ⟨rb, rfl, hrb, hR2, hb2⟩
    have H2 := Lib.hid (And.intro hrb (And.intro hR2 (And.intro (H1.out.1.trans (hb2.mono H1.out.1.size)) ((hb2.block _ (lt_of_heap H1.out.2.1)).trans H1.out.2.1))))
    have H2S := Lib.hid (And.intro hb2.size (HLT.out _ _ _ hR2))
    clear hrb hR2 hb2
    go_wp2_with fail
    refine (HNODE.out rb w2 H2.out.2.1).mono ?_
    rintro e w3 ⟨v, rfl, hv, hR3, ht3⟩
    obtain ⟨u, hu⟩ : ∃ u, u = vl (⟨bs, 0, false⟩ : Rd) (pTree bs 0) zeroTC := ⟨_, rfl⟩
    rw [← hu] at hv
    obtain ⟨ka, kc, rfl, hkc, hk⟩ := hv
    obtain ⟨m, hm⟩ : ∃ m, m = foLen u.kids := ⟨_, rfl⟩
    rw [← hm] at hkc ⊢
    obtain ⟨s1, hs1⟩ : ∃ s1, s1 = aft (⟨bs, 0, false⟩ : Rd) (pTree bs 0) := ⟨_, rfl⟩
    rw [← hs1] at hR3
    have hb23 : Below w1.heap.size w2 w3 := ht3.below H2S.out.1 (fun k hk => by rw [hk]; exact H2.out.1)
    obtain ⟨X3, hX3⟩ : ∃ X3, X3 = w3.alloc (.cells #[.int .i64 u.id, .int .i64 u.kind, .string u.text, .slice ka m kc] 25) := ⟨_, rfl⟩
    have hx3 : X3.heap[w3.heap.size]? = some (.cells #[.int .i64 u.id, .int .i64 u.kind, .string u.text, .slice ka m kc] 25 (0, 0)) := by rw [hX3]; exact heap_alloc_new w3 _
    have hb3x : Below w3.heap.size w3 X3 := by rw [hX3]; exact (Below.refl _ _).alloc (Nat.le_refl _) _
    have hRX : RR rb X3 s1 := by rw [hX3]; exact HALL.out _ _ _ _ hR3
    have h1s := H1.out.2.2
    have h2s := H2S.out.1
    have h2r := H2S.out.2
    have h2b := H2.out.1
    have h3s := ht3.size
    have hz3 : X3.heap[w.heap.size]? = some (.cells #[.int .i64 0, .int .i64 0, .string ⟨#[]⟩, .slice none 0 0] 25 (0, 0)) := ((hb3x.block _ (by omega)).trans (hb23.block _ (by omega))).trans H2.out.2.2.2
    have hbX : Below w.heap.size w X3 := (H2.out.2.2.1.trans (hb23.mono (by omega))).trans (hb3x.mono (by omega))
    have hkX : FoAt X3 (fun z => w2.heap.size ≤ z ∧ z < w3.heap.size) u.kids ka := hk.kept fun z hz => ⟨hz, hb3x.block z hz.2⟩
    have hE2 : r = if s1.bad ∨ s1.pos < bs.length then (zeroTC, (s1.pos : Int), 30) else (u, 0, 0) := by rw [HR.out, read_eq bs (by rw [← HN.out]; exact HSM.out), ← hu, ← hs1]
    have hdat : s1.data = bs := by rw [hs1, aft_data]
    have hendX := HEND.out rb X3 s1 hRX
    rw [endV_of, hdat] at hendX
    have H3 := Lib.hid (And.intro hx3 (And.intro hz3 (And.intro hbX (And.intro hkX (And.intro hkc (And.intro hm (And.intro hb3x.size (show w.heap.size < rb ∧ rb < w2.heap.size ∧ w2.heap.size ≤ w3.heap.size by omega))))))))
    have HXE := Lib.hid hX3
    have HE2 := Lib.hid hE2
    by_cases hfl : s1.bad ∨ s1.pos < bs.length
    · rw [if_pos hfl, if_pos hfl] at hendX
      rw [if_pos hfl] at hE2
      have HENDX := Lib.hid hendX
      have HE := Lib.hid hE2
      clear hu hk hs1 hR3 hb23 hX3 hx3 hb3x hRX h1s h2s h2r h2b h3s hz3 hbX hkX hE2 hdat hendX hfl ht3 hkc hm HE2 HNEW HNODE HEND HALL
      go_wp2_with fail
      rw [← HXE.out]
      refine HENDX.out.mono ?_
      rintro e w4 ⟨rfl, ht4⟩
      have hz4 := (ht4.block _ (lt_of_heap H3.out.2.1) (by have := H3.out.2.2.2.2.2.2.2.1; omega)).trans H3.out.2.1
      obtain ⟨z0, z1, z2, z3⟩ := four_cell hz4
      have zf : ∀ j, w4.frozen? ⟨w.heap.size, j, none⟩ = false := fun j => frozen_of_row _ _ j _ _ hz4
      have H4 := Lib.hid (And.intro hz4 (H3.out.2.2.1.trans (ht4.below H3.out.2.2.1.size (fun k hk => by have := H3.out.2.2.2.2.2.2.2.1; omega))))
      clear hz4 ht4 HENDX
      go_wp2_with fail
      exact HFIN.out zeroTC none 0 0 (s1.pos : Int) 30 w4 H4.out.2 H4.out.1 rfl (Nat.le_refl _) True.intro HE.out _ (by rfl) (by rfl) (by rfl)
    · rw [if_neg hfl, if_neg hfl] at hendX
      rw [if_neg hfl] at hE2
      have HENDX := Lib.hid hendX
      have HE := Lib.hid hE2
      clear hu hk hs1 hR3 hb23 hX3 hx3 hb3x hRX h1s h2s h2r h2b h3s hz3 hbX hkX hE2 hdat hendX hfl ht3 hkc hm HE2 HNEW HNODE HEND HALL
      go_wp2_with fail
      rw [← HXE.out]
      refine HENDX.out.mono ?_
      rintro e w4 ⟨rfl, ht4⟩
      have hz4 := (ht4.block _ (lt_of_heap H3.out.2.1) (by have := H3.out.2.2.2.2.2.2.2.1; omega)).trans H3.out.2.1
      have hx4 := (ht4.block _ (lt_of_heap H3.out.1) (by have := H3.out.2.2.2.2.2.2.2; omega)).trans H3.out.1
      obtain ⟨z0, z1, z2, z3⟩ := four_cell hz4
      obtain ⟨x0, x1, x2, x3⟩ := four_cell hx4
      have zf : ∀ j, w4.frozen? ⟨w.heap.size, j, none⟩ = false := fun j => frozen_of_row _ _ j _ _ hz4
      have H4 := Lib.hid (And.intro hz4 (And.intro (H3.out.2.2.1.trans (ht4.below H3.out.2.2.1.size (fun k hk => by have := H3.out.2.2.2.2.2.2.2.1; omega))) ht4))
      clear hz4 hx4 ht4 HENDX
      go_wp2_with fail
      refine HFIN.out u ka kc m 0 0 w4 H4.out.2.1 H4.out.1 H3.out.2.2.2.2.2.1 (by rw [← H3.out.2.2.2.2.2.1]; exact H3.out.2.2.2.2.1) (H3.out.2.2.2.1.kept fun z hz => ⟨⟨by have := hz.1; have := H3.out.2.2.2.2.2.2.2; omega, by have := hz.2; have := H3.out.2.2.2.2.2.2.1; have := H4.out.2.2.size; omega⟩, H4.out.2.2.block z (by have := hz.2; have := H3.out.2.2.2.2.2.2.1; omega) (by have := hz.1; have := H3.out.2.2.2.2.2.2.2; omega)⟩) HE.out _ (by rfl) (by rfl) (by rfl)
/-- The program's Read. -/
theorem tread_any (w : World) (a : Option Addr) (cap n : Nat) (bs : List UInt8) (hn : n = bs.length) (h : ByAt w a bs) : Calls Tryd.prog 7 #[.slice a n cap] w (TReadC w (readT bs)) :=
  tread_walk w a cap n bs hn (fun rb X s => ∃ dv, RdAt X rb dv s) (fun rb X s o ⟨dv, h⟩ => ⟨dv, h.alloc o⟩)
    (fun hs w1 hb => by
      subst hn
      refine (newRd_any w1 a cap bs (h.below hb) (by omega)).mono ?_
      rintro e w' ⟨b, dv, rfl, h1, _, h2, h3⟩
      exact ⟨b, rfl, h1, ⟨dv, h2⟩, h3⟩)
    (fun rb X ⟨dv, hr⟩ => by
      refine (Node_any X rb dv _ hr).mono ?_
      rintro e w' ⟨v, rfl, hm⟩
      obtain ⟨h1, h2, h3⟩ := MethR.val (x0 := zeroTC) (zero_tr _ _) hm
      exact ⟨v, rfl, h1, ⟨dv, h2⟩, h3⟩)
    (fun rb X s ⟨dv, hr⟩ => by
      refine (End_any X rb dv s hr).mono ?_
      rintro e w' ⟨v, rfl, rfl, _, h3⟩
      exact ⟨rfl, ⟨h3.os, h3.tape, h3.output, h3.size, fun k hk _ => h3.block k hk id⟩⟩)
    (fun rb X s ⟨dv, hr⟩ => lt_of_heap hr.here)
end Go.Proofs.YteccnekdmehloaaDoor
