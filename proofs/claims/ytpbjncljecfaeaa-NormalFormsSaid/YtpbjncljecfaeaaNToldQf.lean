/-
  A held step as it came to be, in new memory. No condition but that it is not too great, and that ids are numbers of 64 bits.
-/
import Derived.Test.YtpbjncljecfaeaaNFirstQf
import Derived.Test.YtpbjncljecfaeaaNHeldQf
namespace Go.Proofs.Ytpbjncljecfaeaa
open Go.RowKit Go.Shelf
attribute [local go_sem] Oper.semAt_some
set_option linter.unusedVariables false
set_option linter.unusedSimpArgs false

/-- While texts are laid: the copy u in the block SB and new ones, from B0 to B1. -/
structure ToldI (w : World) (s : Sf) (u : Tr) (SB B1 mb n : Nat) (L : List (Int × (Nat × Nat))) (V : World) : Prop where
  fo : FoAt V (fun q => w.heap.size + 1 ≤ q ∧ q < B1) (rootF u) (some ⟨SB, 5, none⟩)
  pre : preA V (rootF u) SB 5 = L
  nodup : (SB :: rowsB V 0 (rootF u) SB 5).Nodup
  free : ∀ q ∈ SB :: rowsB V 0 (rootF u) SB 5, FreeB V q
  map : FirstsAt V mb n L
  mlo : B1 ≤ mb
  head : V.cell? ⟨SB, 0, none⟩ = some (.int .i8 s.op) ∧ V.cell? ⟨SB, 1, none⟩ = some (.int .i64 s.id) ∧ V.cell? ⟨SB, 2, none⟩ = some (.int .i64 s.par) ∧ V.cell? ⟨SB, 3, none⟩ = some (.int .i64 s.at_) ∧ V.cell? ⟨SB, 4, none⟩ = some (.string s.tx)
  res : V.heap[w.heap.size]? = some (.cells #[.int .i8 0, .int .i64 0, .int .i64 0, .int .i64 0, .string ⟨#[]⟩, .int .i64 0, .int .i64 0, .string ⟨#[]⟩, .slice none 0 0] 27 (0, 0))
  below : Below w.heap.size w V
  size : B1 ≤ V.heap.size
theorem ToldI.step {w V U V' : World} {s : Sf} {u : Tr} {SB B1 mb n pb po : Nat} {L : List (Int × (Nat × Nat))} {id : Int} {tx : ByteArray} (h : ToldI w s u SB B1 mb n L V) (hSB : w.heap.size + 1 ≤ SB ∧ SB < B1) (hU : ∀ q, q < V.heap.size → U.heap[q]? = V.heap[q]?) (hUs : V.heap.size ≤ U.heap.size) (hUo : U.os = V.os ∧ U.tape = V.tape ∧ U.output = V.output) (hp : firstA id L = some (pb, po)) (hV' : V' = U.setCell ⟨pb, po + 2, none⟩ (.string tx)) :
    (∃ tx0, U.cell? ⟨pb, po + 2, none⟩ = some (.string tx0)) ∧ U.frozen? ⟨pb, po + 2, none⟩ = false ∧ pb < V.heap.size ∧ ToldI w s (wiT id tx u).1 SB B1 mb n L V' := by
  have hs := h.size
  have hfoU : FoAt U (fun q => w.heap.size + 1 ≤ q ∧ q < B1) (rootF u) (some ⟨SB, 5, none⟩) := h.fo.kept fun q hq => ⟨hq, hU q (by omega)⟩
  have hkept := fun q (hq : w.heap.size + 1 ≤ q ∧ q < B1) => hU q (show q < V.heap.size by omega)
  have hrU : rowsB U 0 (rootF u) SB 5 = rowsB V 0 (rootF u) SB 5 := rowsB_kept h.fo (fun q hq j => kidsA_kept (hkept q hq) j)
  have hpU : preA U (rootF u) SB 5 = L := by
    rw [← h.pre]
    exact (fo_still (rootF u) SB 5 h.fo (fun j _ => World.cell?_of_block (a := ⟨SB, j, none⟩) (hkept SB hSB)) (fun q hq j => World.cell?_of_block (a := ⟨q, j, none⟩) (hkept q (rowsB_in h.fo hq)))).2.1
  have hmem := firstA_mem id L _ hp
  rw [← hpU] at hmem
  obtain ⟨tx0, ht0⟩ := preA_text hfoU hmem
  have hin := preA_in hfoU hmem
  rw [hrU] at hin
  simp only at ht0 hin
  have hpbL : pb ∈ SB :: rowsB V 0 (rootF u) SB 5 := by
    rcases hin with h1 | h1
    · rw [h1.1]; exact List.mem_cons_self ..
    · exact List.mem_cons_of_mem _ h1
  have hpbX : w.heap.size + 1 ≤ pb ∧ pb < B1 := by
    rcases hin with h1 | h1
    · rw [h1.1]; exact hSB
    · exact rowsB_in h.fo h1
  obtain ⟨cs, ty, hfr⟩ := h.free pb hpbL
  have hfrU := (hU pb (by omega)).trans hfr
  have hset : V'.cell? ⟨pb, po + 2, none⟩ = some (.string tx) := by rw [hV']; exact World.cell?_setCell_same' _ _ _ (by rw [ht0]; rfl)
  have hoth : ∀ q j, ¬ (q = pb ∧ j = po + 2) → V'.cell? ⟨q, j, none⟩ = U.cell? ⟨q, j, none⟩ := fun q j hne => by rw [hV']; exact World.cell?_setCell_other _ _ _ _ (fun e => hne (by cases e; exact ⟨rfl, rfl⟩))
  obtain ⟨f1, f2, f3⟩ := set_first (id := id) (tx := tx) hset hoth (rootF u) SB 5 hfoU (by rw [hrU]; exact h.nodup) (by rw [hpU]; exact hp)
  rw [← (wiT_root id tx u).1] at f1 f2 f3
  have hblk : ∀ q, q < V.heap.size → q ≠ pb → V'.heap[q]? = V.heap[q]? := fun q hq hne => by rw [hV', Below.heap_setCell _ _ _ _ hne]; exact hU q hq
  have hs' : V'.heap.size = U.heap.size := by rw [hV']; simp [World.setCell]
  have hhead : ∀ j, j < 5 → V'.cell? ⟨SB, j, none⟩ = V.cell? ⟨SB, j, none⟩ := fun j hj => (hoth SB j (fun e => by
    have h2 := e.2
    rcases hin with h1 | h1
    · have := h1.2; omega
    · have h9 := h1
      rw [← e.1] at h9
      exact (List.nodup_cons.1 h.nodup).1 h9)).trans (World.cell?_of_block (a := ⟨SB, j, none⟩) (hU SB (by omega)))
  have hws := h.below.size
  have hmlt := h.map.lt
  have hml := h.mlo
  refine ⟨⟨tx0, ht0⟩, frozen_of_row _ _ _ _ _ hfrU, by omega, ⟨f1, f2.trans hpU, by rw [f3, hrU]; exact h.nodup, fun q hq => ?_, h.map.at (hblk mb hmlt (by omega)), h.mlo, ⟨(hhead 0 (by omega)).trans h.head.1, (hhead 1 (by omega)).trans h.head.2.1, (hhead 2 (by omega)).trans h.head.2.2.1, (hhead 3 (by omega)).trans h.head.2.2.2.1, (hhead 4 (by omega)).trans h.head.2.2.2.2⟩, (hblk _ (by omega) (by omega)).trans h.res, ⟨by rw [hV']; exact hUo.1.trans h.below.os, by rw [hV']; exact hUo.2.1.trans h.below.tape, by rw [hV']; exact hUo.2.2.trans h.below.output, by omega, fun q hq => (hblk q (by omega) (by omega)).trans (h.below.block q hq)⟩, by omega⟩⟩
  rw [f3, hrU] at hq
  have hqX : q < V.heap.size := by
    rcases List.mem_cons.1 hq with rfl | hq
    · omega
    · have := rowsB_in h.fo hq; omega
  obtain ⟨cs2, ty2, hc2⟩ := h.free q hq
  have hcU := (hU q hqX).trans hc2
  by_cases hqp : q = pb
  · subst hqp
    rw [hV']
    exact ⟨_, _, heap_setCell_same U q (po + 2) _ _ (.string tx) hcU⟩
  · exact ⟨cs2, ty2, (hblk q hqX hqp).trans hc2⟩
/-- The cells of the copy, read as a step. -/
theorem ToldI.cells {w V : World} {s : Sf} {u : Tr} {SB B1 mb n : Nat} {L : List (Int × (Nat × Nat))} (h : ToldI w s u SB B1 mb n L V) : ∃ ra rc, V.cell? ⟨SB, 5, none⟩ = some (.int .i64 u.id) ∧ V.cell? ⟨SB, 6, none⟩ = some (.int .i64 u.kind) ∧ V.cell? ⟨SB, 7, none⟩ = some (.string u.text) ∧ V.cell? ⟨SB, 8, none⟩ = some (.slice ra (foLen u.kids) rc) ∧ foLen u.kids ≤ rc ∧ FoAt V (fun q => w.heap.size + 1 ≤ q ∧ q < B1) u.kids ra := by
  obtain ⟨b, o, ra, rc, e, _, c0, c1, c2, c3, c4, hk, _⟩ := h.fo
  cases e
  exact ⟨ra, rc, c0, c1, c2, c3, c4, hk⟩
/-- Where all of a tree's rows are new and apart. -/
theorem told_start {w W1 V : World} {s : Sf} {a9 : Option Addr} {rc SB : Nat} {c0 c1 c2 c3 c4 : Value} (hSB : w.heap.size + 1 ≤ SB) (hS1 : SB < W1.heap.size) (hc : V.heap[SB]? = some (.cells #[c0, c1, c2, c3, c4, .int .i64 s.sub.id, .int .i64 s.sub.kind, .string s.sub.text, .slice a9 (foLen s.sub.kids) rc] 27 (0, 0))) (hrc : foLen s.sub.kids ≤ rc)
    (hk : FoAt W1 (fun q => SB < q ∧ q < W1.heap.size) s.sub.kids a9) (hn : (kidB W1 s.sub.kids a9).Nodup) (hf : ∀ q ∈ kidB W1 s.sub.kids a9, FreeB W1 q) (hV : ∀ q, q ≠ SB → V.heap[q]? = W1.heap[q]?) :
    FoAt V (fun q => w.heap.size + 1 ≤ q ∧ q < W1.heap.size) (rootF s.sub) (some ⟨SB, 5, none⟩) ∧ (SB :: rowsB V 0 (rootF s.sub) SB 5).Nodup ∧ ∀ q ∈ SB :: rowsB V 0 (rootF s.sub) SB 5, FreeB V q := by
  have hkV : FoAt V (fun q => SB < q ∧ q < W1.heap.size) s.sub.kids a9 := hk.kept fun q hq => ⟨hq, hV q (by omega)⟩
  have e3 : V.cell? ⟨SB, 5 + 3, none⟩ = some (.slice a9 (foLen s.sub.kids) rc) := by rw [cell_of_row _ _ _ _ _ _ hc]; rfl
  have er : rowsB V 0 (rootF s.sub) SB 5 = kidB V s.sub.kids a9 := by
    rw [rootF, rowsB, kidsA_of e3, kidB, rowsB, List.append_nil]
  have ek : kidB V s.sub.kids a9 = kidB W1 s.sub.kids a9 := kidB_kept hk (fun q hq => hV q (by omega))
  rw [er, ek]
  have hin : ∀ q ∈ kidB W1 s.sub.kids a9, SB < q ∧ q < W1.heap.size := fun q hq => by
    obtain ⟨kf, hkf⟩ : ∃ kf, kf = s.sub.kids := ⟨_, rfl⟩
    rw [← hkf] at hk hq
    cases kf with
    | nil => simp [kidB, hdB, rowsB] at hq
    | node x y k l r =>
      obtain ⟨b, o, e, hb⟩ := fo_blk hk (by simp)
      subst e
      rcases List.mem_append.1 hq with hq | hq
      · rw [(hdB_ge hq).2]; exact hb
      · exact rowsB_in hk hq
  refine ⟨⟨SB, 5, a9, rc, rfl, ⟨hSB, hS1⟩, by rw [cell_of_row _ _ _ _ _ _ hc]; rfl, by rw [cell_of_row _ _ _ _ _ _ hc]; rfl, by rw [cell_of_row _ _ _ _ _ _ hc]; rfl, e3, hrc, hkV.kept fun q hq => ⟨⟨by omega, hq.2⟩, rfl⟩, True.intro⟩, List.nodup_cons.2 ⟨fun hq => by have := (hin SB hq).1; omega, hn⟩, fun q hq => ?_⟩
  rcases List.mem_cons.1 hq with rfl | hq
  · exact ⟨_, _, hc⟩
  · obtain ⟨cs, ty, hcq⟩ := hf q hq
    exact ⟨cs, ty, (hV q (by have := (hin q hq).1; omega)).trans hcq⟩
set_option maxRecDepth 100000 in
set_option maxHeartbeats 8000000 in
theorem told_any {w0 w : World} {hb : Nat} {h : HV} (hh : HeldAt w0 w hb h) (hB : Below w0.heap.size w0 w) (hok : HeldOk h) :
    Calls Try.prog 20 #[.pointer (some ⟨hb, 0, none⟩)] w (CopiedC h.sf w) := by
  obtain ⟨⟨⟨op, id, par, at_, tx, sub⟩, xa, xc⟩, ts, ta, tc, mo⟩ := h
  obtain ⟨hcells, hlies, htexts, hnodes, hbase, hmbase⟩ := hh
  obtain ⟨hsmall, hids, htsIn, hfew⟩ := hok
  simp only at hcells hlies htexts hnodes hbase hmbase hsmall hids htsIn hfew
  obtain ⟨n, hn⟩ : ∃ n, n = foLen sub.kids := ⟨_, rfl⟩
  obtain ⟨tn, htn⟩ : ∃ tn, tn = ts.length := ⟨_, rfl⟩
  rw [← hn, ← htn] at hcells
  rw [← htn] at htexts hfew
  obtain ⟨B, hBd⟩ : ∃ B, B = allocs w [.cells #[.int .i8 0, .int .i64 0, .int .i64 0, .int .i64 0, .string ⟨#[]⟩, .int .i64 0, .int .i64 0, .string ⟨#[]⟩, .slice none 0 0] 27, .cells #[.int .i8 op, .int .i64 id, .int .i64 par, .int .i64 at_, .string tx, .int .i64 sub.id, .int .i64 sub.kind, .string sub.text, .slice xa n xc] 27] := ⟨_, rfl⟩
  have hb1 : Below w.heap.size w B := by rw [hBd]; exact allocs_below _ _
  have hs : B.heap.size = w.heap.size + 2 := by rw [hBd]; exact allocs_size _ _
  have e0 : B.heap[w.heap.size]? = some (.cells #[.int .i8 0, .int .i64 0, .int .i64 0, .int .i64 0, .string ⟨#[]⟩, .int .i64 0, .int .i64 0, .string ⟨#[]⟩, .slice none 0 0] 27 (0, 0)) := by rw [hBd]; exact allocs_at _ _ 0 _ rfl
  have e1 : B.heap[w.heap.size + 1]? = some (.cells #[.int .i8 op, .int .i64 id, .int .i64 par, .int .i64 at_, .string tx, .int .i64 sub.id, .int .i64 sub.kind, .string sub.text, .slice xa n xc] 27 (0, 0)) := by rw [hBd]; exact allocs_at _ _ 1 _ rfl
  have hbw := lt_of_heap hcells
  have hcopy : Calls Try.prog 31 #[.agg #[.int .i64 sub.id, .int .i64 sub.kind, .string sub.text, .slice xa n xc]] B (CopyS sub B) := by
    rw [hn]
    have hW : Below w0.heap.size w0 B := hB.trans (hb1.mono hB.size)
    refine copyS_any B (fun q => q < w0.heap.size ∧ CellsB B q) _ sub (fun q hq => hq.2) ⟨xa, xc, rfl, hlies.1, ?_⟩ (by omega)
    exact fo_cb (hlies.2.kept fun q hq => ⟨hq, hW.block q hq⟩)
  have HCP := Lib.hid hcopy
  have HB := Lib.hid (And.intro hb1 (And.intro hs (And.intro e0 e1)))
  have HBE := Lib.hid hBd
  have HN := Lib.hid (And.intro hn htn)
  have HH := Lib.hid (And.intro hcells (And.intro htexts (And.intro hsmall (And.intro hids (And.intro htsIn hfew)))))
  obtain ⟨b0, b1, b2, b3, b4, b5, b6, b7, b8⟩ : w.cell? ⟨hb, 0, none⟩ = some (.int .i8 op) ∧ w.cell? ⟨hb, 1, none⟩ = some (.int .i64 id) ∧ w.cell? ⟨hb, 2, none⟩ = some (.int .i64 par) ∧ w.cell? ⟨hb, 3, none⟩ = some (.int .i64 at_) ∧ w.cell? ⟨hb, 4, none⟩ = some (.string tx) ∧ w.cell? ⟨hb, 5, none⟩ = some (.int .i64 sub.id) ∧ w.cell? ⟨hb, 6, none⟩ = some (.int .i64 sub.kind) ∧ w.cell? ⟨hb, 7, none⟩ = some (.string sub.text) ∧ w.cell? ⟨hb, 8, none⟩ = some (.slice xa n xc) := by
    refine ⟨?_, ?_, ?_, ?_, ?_, ?_, ?_, ?_, ?_⟩ <;> (rw [cell_of_row _ _ _ _ _ _ hcells]; rfl)
  clear hcopy hb1 hs e0 e1 hBd hn htn hcells htexts hnodes hbase hmbase hsmall hids htsIn hfew hlies hB
  go_enter Try.func20, Try.ntmps20
  go_upto_region 2 with fail
  change Code.wp _ _ _ _ (allocs w [.cells #[.int .i8 0, .int .i64 0, .int .i64 0, .int .i64 0, .string ⟨#[]⟩, .int .i64 0, .int .i64 0, .string ⟨#[]⟩, .slice none 0 0] 27, .cells #[.int .i8 op, .int .i64 id, .int .i64 par, .int .i64 at_, .string tx, .int .i64 sub.id, .int .i64 sub.kind, .string sub.text, .slice xa n xc] 27])
  rw [← HBE.out]
  clear HBE b0 b1 b2 b3 b4 b5 b6 b7 b8
  obtain ⟨n0, n1, n2, n3, n4, n5, n6, n7, n8⟩ := box9 HB.out.2.2.2
  go_wp2_with fail
  refine HCP.out.mono ?_
  rintro e W1 ⟨ra, rc, rfl, hrc, hfo, hnd, hfree, hb1⟩
  rw [← HN.out.1] at hrc ⊢
  have et := (hb1.block _ (lt_of_heap HB.out.2.2.2)).trans HB.out.2.2.2
  have yf : ∀ j, W1.frozen? ⟨w.heap.size + 1, j, none⟩ = false := fun j => frozen_of_row _ _ j _ _ et
  obtain ⟨V5, e5, g5, o5, a5, t5, p5, z5⟩ := one_setN (i := 5) (u := .int .i64 sub.id) et
  obtain ⟨V6, e6, g6, o6, a6, t6, p6, z6⟩ := one_setN (i := 6) (u := .int .i64 sub.kind) g5
  obtain ⟨V7, e7, g7, o7, a7, t7, p7, z7⟩ := one_setN (i := 7) (u := .string sub.text) g6
  obtain ⟨V8, e8, g8, o8, a8, t8, p8, z8⟩ := one_setN (i := 8) (u := .slice ra n rc) g7
  have hV8 : V8 = ((((W1.setCell ⟨w.heap.size + 1, 5, none⟩ (.int .i64 sub.id)).setCell ⟨w.heap.size + 1, 6, none⟩ (.int .i64 sub.kind)).setCell ⟨w.heap.size + 1, 7, none⟩ (.string sub.text)).setCell ⟨w.heap.size + 1, 8, none⟩ (.slice ra n rc)) := by rw [e8, e7, e6, e5]
  have g8' : V8.heap[w.heap.size + 1]? = some (.cells #[.int .i8 op, .int .i64 id, .int .i64 par, .int .i64 at_, .string tx, .int .i64 sub.id, .int .i64 sub.kind, .string sub.text, .slice ra n rc] 27 (0, 0)) := by simpa using g8
  obtain ⟨m0, m1, m2, m3, m4, m5, m6, m7, m8⟩ := box9 et
  have hkV8 : ∀ y, y ≠ w.heap.size + 1 → V8.heap[y]? = W1.heap[y]? := fun y hy => by rw [o8 y hy, o7 y hy, o6 y hy, o5 y hy]
  have hsV8 : V8.heap.size = W1.heap.size := by rw [z8, z7, z6, z5]
  have hWs : w.heap.size + 2 ≤ W1.heap.size := by have := hb1.size; have := HB.out.2.1; omega
  have hst := told_start (w := w) (W1 := W1) (V := V8) (s := ⟨op, id, par, at_, tx, sub⟩) (SB := w.heap.size + 1) (Nat.le_refl _) (by omega) (by rw [← HN.out.1]; exact g8') (by rw [← HN.out.1]; exact hrc) (hfo.kept fun q hq => ⟨⟨by have := hq.1; have := HB.out.2.1; omega, hq.2⟩, rfl⟩) hnd hfree hkV8
  have hbV8 : Below w.heap.size w V8 := ⟨by rw [a8, a7, a6, a5, hb1.os]; exact HB.out.1.os, by rw [t8, t7, t6, t5, hb1.tape]; exact HB.out.1.tape, by rw [p8, p7, p6, p5, hb1.output]; exact HB.out.1.output, by omega, fun q hq => (hkV8 q (by omega)).trans ((hb1.block q (by have := HB.out.2.1; omega)).trans (HB.out.1.block q hq))⟩
  have hres : V8.heap[w.heap.size]? = some (.cells #[.int .i8 0, .int .i64 0, .int .i64 0, .int .i64 0, .string ⟨#[]⟩, .int .i64 0, .int .i64 0, .string ⟨#[]⟩, .slice none 0 0] 27 (0, 0)) := (hkV8 _ (by omega)).trans ((hb1.block _ (by have := HB.out.2.1; omega)).trans HB.out.2.2.1)
  have HVV := Lib.hid (And.intro hst (And.intro hbV8 (And.intro hres (And.intro g8' (And.intro hsV8 (And.intro hWs hrc))))))
  have HV8 := Lib.hid hV8
  clear e5 g5 o5 a5 t5 p5 z5 e6 g6 o6 a6 t6 p6 z6 e7 g7 o7 a7 t7 p7 z7 e8 g8 o8 a8 t8 p8 z8 hV8 g8' hrc hfo hnd hfree hb1 et n0 n1 n2 n3 n4 n5 n6 n7 n8 V5 V6 V7 hkV8 hsV8 hWs hst hbV8 hres HCP
  go_upto_region 3 with fail
  rw [← HV8.out]
  clear HV8 yf m0 m1 m2 m3 m4 m5 m6 m7 m8
  rename_i K1 hK1 K2 hK2
  have hFin : ∀ (u1 u4 u5 u6 u7 u8 u9 u10 u11 u12 u13 u14 u15 u16 u17 u18 u19 u20 u21 u22 u23 u24 u25 u26 u27 u28 u29 u30 u31 u32 u33 u34 u35 u36 u37 u38 u39 u40 u41 : Value) (V : World) (u : Tr) (fa : Option Addr) (fc : Nat), u = subT sub ts → V.cell? ⟨w.heap.size + 1, 0, none⟩ = some (.int .i8 op) ∧ V.cell? ⟨w.heap.size + 1, 1, none⟩ = some (.int .i64 id) ∧ V.cell? ⟨w.heap.size + 1, 2, none⟩ = some (.int .i64 par) ∧ V.cell? ⟨w.heap.size + 1, 3, none⟩ = some (.int .i64 at_) ∧ V.cell? ⟨w.heap.size + 1, 4, none⟩ = some (.string tx) → V.cell? ⟨w.heap.size + 1, 5, none⟩ = some (.int .i64 u.id) → V.cell? ⟨w.heap.size + 1, 6, none⟩ = some (.int .i64 u.kind) → V.cell? ⟨w.heap.size + 1, 7, none⟩ = some (.string u.text) → V.cell? ⟨w.heap.size + 1, 8, none⟩ = some (.slice fa (foLen u.kids) fc) → foLen u.kids ≤ fc → FoAt V (fun q => w.heap.size + 1 ≤ q ∧ q < V.heap.size) u.kids fa →
      V.heap[w.heap.size]? = some (.cells #[.int .i8 0, .int .i64 0, .int .i64 0, .int .i64 0, .string ⟨#[]⟩, .int .i64 0, .int .i64 0, .string ⟨#[]⟩, .slice none 0 0] 27 (0, 0)) → Below w.heap.size w V → K1 { tmps := #[.pointer (some ⟨hb, 0, none⟩), u1, .pointer (some ⟨w.heap.size, 0, none⟩), .pointer (some ⟨w.heap.size + 1, 0, none⟩), u4, u5, u6, u7, u8, u9, u10, u11, u12, u13, u14, u15, u16, u17, u18, u19, u20, u21, u22, u23, u24, u25, u26, u27, u28, u29, u30, u31, u32, u33, u34, u35, u36, u37, u38, u39, u40, u41], defers := [] } V := by
    clear hK2
    intro u1 u4 u5 u6 u7 u8 u9 u10 u11 u12 u13 u14 u15 u16 u17 u18 u19 u20 u21 u22 u23 u24 u25 u26 u27 u28 u29 u30 u31 u32 u33 u34 u35 u36 u37 u38 u39 u40 u41 V u fa fc hu ⟨m0, m1, m2, m3, m4⟩ m5 m6 m7 m8 hfc hfo er hbl
    refine hK1 _ _ ?_
    clear hK1
    obtain ⟨un, hun⟩ : ∃ un, un = foLen u.kids := ⟨_, rfl⟩
    rw [← hun] at m8 hfc
    obtain ⟨z0, z1, z2, z3, z4, z5, z6, z7, z8⟩ := box9 er
    have zf : ∀ j, V.frozen? ⟨w.heap.size, j, none⟩ = false := fun j => frozen_of_row _ _ j _ _ er
    obtain ⟨Z, hZ, r1, r2, r3, r4, r5, r6⟩ := nine_setN (u0 := .int .i8 op) (u1 := .int .i64 id) (u2 := .int .i64 par) (u3 := .int .i64 at_) (u4 := .string tx) (u5 := .int .i64 u.id) (u6 := .int .i64 u.kind) (u7 := .string u.text) (u8 := .slice fa un fc) er
    have HE := Lib.hid (And.intro hZ (And.intro r1 (And.intro r2 (And.intro r3 (And.intro r4 (And.intro r5 (And.intro r6 (And.intro hu (And.intro hun (And.intro hfc (And.intro hfo hbl)))))))))))
    clear hZ r1 r2 r3 r4 r5 r6 er hu hun hfc hfo hbl
    go_wp2_with fail
    rw [← HE.out.1]
    obtain ⟨hZ, r1, r2, r3, r4, r5, r6, hu, hun, hfc, hfo, hbl⟩ := HE.out
    refine bodyPost_ret (results_cell_row rfl _ _ w.heap.size 27 _ (0, 0) _ rfl r1 Try.underlying27 rfl (by kernel_rfl)) rfl ?_
    refine ⟨fa, fc, ?_, by show foLen (subT sub ts).kids ≤ fc; rw [← hu, ← hun]; exact hfc, ?_, ⟨r3.trans hbl.os, r4.trans hbl.tape, r5.trans hbl.output, by rw [r6]; exact hbl.size, fun q hq => (r2 q (by omega)).trans (hbl.block q hq)⟩⟩
    · simp only [HV.sf]
      rw [← hu, ← hun]
    · show FoAt Z _ (subT sub ts).kids fa
      rw [← hu]
      exact hfo.kept fun q hq => ⟨⟨by omega, by rw [r6]; exact hq.2⟩, r2 q (by omega)⟩
  clear hK1
  have HT := Lib.hid hFin
  clear hFin
  have t10 : V8.cell? ⟨hb, 10, none⟩ = some (.slice ta tn tc) := by
    rw [cell_of_row _ _ _ _ _ _ ((HVV.out.2.1.block hb (lt_of_heap HH.out.1)).trans HH.out.1)]; rfl
  by_cases h0 : tn = 0
  · have hts : ts = [] := List.eq_nil_of_length_eq_zero (by rw [← HN.out.2]; exact h0)
    have HTS := Lib.hid hts
    clear hts
    subst h0
    go_wp2_with fail
    obtain ⟨q0, q1, q2, q3, q4, q5, q6, q7, q8⟩ := box9 HVV.out.2.2.2.1
    have hsV := HVV.out.2.2.2.2.1
    have hfo := HVV.out.1.1
    obtain ⟨b9, o9, ka9, kc9, ee, _, _, _, _, k3, _, hk9, _⟩ := hfo
    cases ee
    have h53 : V8.cell? ⟨w.heap.size + 1, 5 + 3, none⟩ = some (.slice ra n rc) := q8
    rw [h53] at k3
    cases k3
    exact HT.out _ _ _ _ _ _ _ _ _ _ _ _ _ _ _ _ _ _ _ _ _ _ _ _ _ _ _ _ _ _ _ _ _ _ _ _ _ _ _ V8 sub ra rc (by rw [HTS.out]; rfl) ⟨q0, q1, q2, q3, q4⟩ q5 q6 q7 q8 HVV.out.2.2.2.2.2.2 (hk9.kept fun q hq => ⟨⟨hq.1, by rw [hsV]; exact hq.2⟩, rfl⟩) HVV.out.2.2.1 HVV.out.2.1
  · have h0i : (0 : Int) < (tn : Int) := by omega
    clear h0
    obtain ⟨L, hL⟩ : ∃ L, L = preA V8 (rootF sub) (w.heap.size + 1) 5 := ⟨_, rfl⟩
    have hfs : Calls Try.prog 32 #[.pointer (some ⟨w.heap.size + 1, 5, none⟩)] V8 (FirstsC V8 L) := by
      rw [hL]
      exact firsts_any V8 (fun q => w.heap.size + 1 ≤ q ∧ q < W1.heap.size) ⟨w.heap.size + 1, 5, (sub.id, sub.kind, sub.text), sub.kids⟩ (fun q hq => by have := HVV.out.2.2.2.2.1; omega) HVV.out.1.1 HH.out.2.2.2.1 HH.out.2.2.1
    go_wp2_with fail
    refine hfs.mono ?_
    clear hfs t10
    rintro e V9 ⟨mb, mn, rfl, hmb, hfm, hb9⟩
    obtain ⟨SB, hSB⟩ : ∃ SB, SB = w.heap.size + 1 := ⟨_, rfl⟩
    have hI0 : ToldI w ⟨op, id, par, at_, tx, sub⟩ (subT sub (ts.take 0)) SB W1.heap.size mb mn L V9 := by
      rw [hSB]
      have hsV := HVV.out.2.2.2.2.1
      have hk9 : ∀ q, q < V8.heap.size → V9.heap[q]? = V8.heap[q]? := fun q hq => hb9.block q hq
      have hf := HVV.out.1.1
      have hst : FoAt V9 (fun q => w.heap.size + 1 ≤ q ∧ q < W1.heap.size) (rootF sub) (some ⟨w.heap.size + 1, 5, none⟩) ∧ preA V9 (rootF sub) (w.heap.size + 1) 5 = preA V8 (rootF sub) (w.heap.size + 1) 5 ∧ rowsB V9 0 (rootF sub) (w.heap.size + 1) 5 = rowsB V8 0 (rootF sub) (w.heap.size + 1) 5 := fo_still (rootF sub) (w.heap.size + 1) 5 hf (fun j _ => World.cell?_of_block (a := ⟨w.heap.size + 1, j, none⟩) (hk9 _ (show w.heap.size + 1 < V8.heap.size by have := HVV.out.2.2.2.2.2.1; omega))) (fun q hq j => World.cell?_of_block (a := ⟨q, j, none⟩) (hk9 q (by have h9 : q < W1.heap.size := (rowsB_in hf hq).2; omega)))
      have eS : V9.heap[w.heap.size + 1]? = _ := (hk9 _ (by have := HVV.out.2.2.2.2.2.1; omega)).trans HVV.out.2.2.2.1
      obtain ⟨q0, q1, q2, q3, q4, q5, q6, q7, q8⟩ := box9 eS
      have hW2 := HVV.out.2.2.2.2.2.1
      refine ⟨hst.1, hst.2.1.trans hL.symm, by rw [show subT sub (ts.take 0) = sub from rfl, hst.2.2]; exact HVV.out.1.2.1, fun q hq => ?_, hfm, by omega, ⟨q0, q1, q2, q3, q4⟩, (hk9 _ (by omega)).trans HVV.out.2.2.1, HVV.out.2.1.trans (hb9.mono HVV.out.2.1.size), by have := hb9.size; omega⟩
      rw [show subT sub (ts.take 0) = sub from rfl, hst.2.2] at hq
      obtain ⟨cs, ty, hc⟩ := HVV.out.1.2.2 q hq
      refine ⟨cs, ty, (hk9 q ?_).trans hc⟩
      rcases List.mem_cons.1 hq with rfl | hq
      · omega
      · have h9 : q < W1.heap.size := (rowsB_in hf hq).2
        omega
    have HI0 := Lib.hid hI0
    have HSBE := Lib.hid (And.intro hSB (show w.heap.size + 1 ≤ SB ∧ SB < W1.heap.size by have := HVV.out.2.2.2.2.2.1; omega))
    have HLE := Lib.hid (And.intro hL hmb)
    have t10 : V9.cell? ⟨hb, 10, none⟩ = some (.slice ta tn tc) := by
      rw [cell_of_row _ _ _ _ _ _ ((hI0.below.block hb (lt_of_heap HH.out.1)).trans HH.out.1)]; rfl
    clear hI0 hL hmb hfm hb9
    rw [← hSB]
    clear hSB
    go_wp2_with fail
    go_loopw [28] (fun i wr => ∃ k : Nat, k ≤ tn ∧ i = .int .i64 (k : Int) ∧ Hid (ToldI w ⟨op, id, par, at_, tx, sub⟩ (subT sub (ts.take k)) SB W1.heap.size mb mn L wr)) (fun i _ => tn - (intOf i).toNat)
    case atStart => exact ⟨0, Nat.zero_le _, rfl, HI0⟩
    case round =>
      obtain ⟨k, hk, rfl, hh⟩ := hrel
      clear HI0 t10 h0i
      obtain ⟨wo, hwo⟩ : ∃ wo, wo = wr := ⟨_, rfl⟩
      subst hwo
      by_cases hlt : k < tn
      · have hki : (k : Int) < (tn : Int) := by omega
        obtain ⟨y, hy⟩ : ∃ y, ts[k]? = some y := ⟨_, List.getElem?_eq_getElem (by rw [← HN.out.2]; exact hlt)⟩
        have hym := List.mem_of_getElem? hy
        obtain ⟨hyin, hywf⟩ := HH.out.2.2.2.2.1 y hym
        obtain ⟨tg, tc2, e, htg, _⟩ := HH.out.2.1.form (by omega)
        cases e
        have hbl := hh.out.below
        have hcs : ∀ j u, (stepC y.s y.a y.c)[j]? = some u → wo.cell? ⟨tg, k * 9 + j, none⟩ = some u := fun j u hj => (World.cell?_of_block (a := ⟨tg, k * 9 + j, none⟩) (hbl.block tg (owns_bounds HH.out.2.1 rfl).2)).trans (owns_cell HH.out.2.1 rfl _ u (cells9_mk hy hj))
        obtain ⟨⟨yop, yid, ypar, yat, ytx, ysub⟩, ya, yc⟩ := y
        obtain ⟨yn, hyn⟩ : ∃ yn, yn = foLen ysub.kids := ⟨_, rfl⟩
        simp only at hyin hywf
        have d0 : wo.cell? ⟨tg, k * 9, none⟩ = some (.int .i8 yop) := hcs 0 _ rfl
        have d1 : wo.cell? ⟨tg, k * 9 + 1, none⟩ = some (.int .i64 yid) := hcs 1 _ rfl
        have d2 : wo.cell? ⟨tg, k * 9 + 2, none⟩ = some (.int .i64 ypar) := hcs 2 _ rfl
        have d3 : wo.cell? ⟨tg, k * 9 + 3, none⟩ = some (.int .i64 yat) := hcs 3 _ rfl
        have d4 : wo.cell? ⟨tg, k * 9 + 4, none⟩ = some (.string ytx) := hcs 4 _ rfl
        have d5 : wo.cell? ⟨tg, k * 9 + 5, none⟩ = some (.int .i64 ysub.id) := hcs 5 _ rfl
        have d6 : wo.cell? ⟨tg, k * 9 + 6, none⟩ = some (.int .i64 ysub.kind) := hcs 6 _ rfl
        have d7 : wo.cell? ⟨tg, k * 9 + 7, none⟩ = some (.string ysub.text) := hcs 7 _ rfl
        have d8 : wo.cell? ⟨tg, k * 9 + 8, none⟩ = some (.slice ya yn yc) := by rw [hyn]; exact hcs 8 _ rfl
        obtain ⟨U, hU⟩ : ∃ U, U = wo.alloc (.cells #[.int .i8 yop, .int .i64 yid, .int .i64 ypar, .int .i64 yat, .string ytx, .int .i64 ysub.id, .int .i64 ysub.kind, .string ysub.text, .slice ya yn yc] 27) := ⟨_, rfl⟩
        have hUk : ∀ q, q < wo.heap.size → U.heap[q]? = wo.heap[q]? := fun q hq => by rw [hU]; exact Below.heap_alloc _ _ _ hq
        have hUn : U.heap[wo.heap.size]? = some (.cells #[.int .i8 yop, .int .i64 yid, .int .i64 ypar, .int .i64 yat, .string ytx, .int .i64 ysub.id, .int .i64 ysub.kind, .string ysub.text, .slice ya yn yc] 27 (0, 0)) := by rw [hU]; exact heap_alloc_new _ _
        have hhas : (firstA yid L).isSome = true := by
          rw [← hh.out.pre, ← wiF_first yid ytx, ← (wiT_root yid ytx _).2, subT_has]
          exact hyin
        obtain ⟨⟨pb, po⟩, hp⟩ := Option.isSome_iff_exists.1 hhas
        have hlook := look_it (i := yid) (hh.out.map.at (hUk _ hh.out.map.lt)) hywf
        rw [hp] at hlook
        simp only [ptrO, Option.map_some] at hlook
        obtain ⟨V', hV'⟩ : ∃ V', V' = U.setCell ⟨pb, po + 2, none⟩ (.string ytx) := ⟨_, rfl⟩
        obtain ⟨⟨tx0, ht0⟩, htf, hpl, hst⟩ := hh.out.step (id := yid) (tx := ytx) (HSBE.out.2) hUk (by rw [hU]; simp) (by rw [hU]; exact ⟨rfl, rfl, rfl⟩) hp hV'
        obtain ⟨x0, x1, x2, x3, x4, x5, x6, x7, x8⟩ := box9 hUn
        have hnx : Hid (ToldI w ⟨op, id, par, at_, tx, sub⟩ (subT sub (ts.take (k + 1))) SB W1.heap.size mb mn L V') := Lib.hid (by
          rw [List.take_add_one, hy]
          show ToldI w _ (subT sub (ts.take k ++ [_])) _ _ _ _ _ _
          rw [subT_snoc]; exact hst)
        have HUE := Lib.hid hU
        have HVE := Lib.hid hV'
        have HKN := Lib.hid (And.intro hk hlt)
        have hkw : IntKind.i64.wrap ((k : Int) + 1) = (k : Int) + 1 := IntWalk.i64_in _ (by have := HH.out.2.2.2.2.2; omega)
        clear hU hV' hst hp hhas hUk hUn hcs hbl hyin hywf hym hy htg hh hpl hk hlt hyn
        go_upto_region 8 with fail
        rw [← HUE.out]
        clear d0 d1 d2 d3 d4 d5 d6 d7 d8 HUE
        go_wp2_with fail
        rw [← HVE.out]
        exact ⟨⟨k + 1, by have := HKN.out; omega, by go_num, hnx⟩, by have := HKN.out; simp [intOf]; omega⟩
      · have hki : ¬ (k : Int) < (tn : Int) := by omega
        have hkn : k = tn := by omega
        have HE := hh.out
        rw [hkn, List.take_of_length_le (by rw [HN.out.2]; exact Nat.le_refl _)] at HE
        obtain ⟨fa, fc, q5, q6, q7, q8, q9, qk⟩ := HE.cells
        have hsz := HE.size
        have HEE := Lib.hid (And.intro HE (And.intro q5 (And.intro q6 (And.intro q7 (And.intro q8 (And.intro q9 qk))))))
        clear HE q5 q6 q7 q8 q9 qk hh hkn hlt hk
        go_wp2_with fail
        obtain ⟨HE, q5, q6, q7, q8, q9, qk⟩ := HEE.out
        obtain ⟨hd0, hd1, hd2, hd3, hd4⟩ := HE.head
        rw [HSBE.out.1] at *
        exact HT.out _ _ _ _ _ _ _ _ _ _ _ _ _ _ _ _ _ _ _ _ _ _ _ _ _ _ _ _ _ _ _ _ _ _ _ _ _ _ _ _ (subT sub ts) fa fc rfl ⟨hd0, hd1, hd2, hd3, hd4⟩ q5 q6 q7 q8 q9 (qk.kept fun q hq => ⟨⟨hq.1, by omega⟩, rfl⟩) HE.res HE.below
end Go.Proofs.Ytpbjncljecfaeaa
