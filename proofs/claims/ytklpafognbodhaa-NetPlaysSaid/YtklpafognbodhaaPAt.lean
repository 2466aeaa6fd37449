/-
  The program's row of messages: its call at. No condition but that it lies where it is said to lie.
-/
import Derived.Test.YtklpafognbodhaaMBlk
import Derived.Deep.RegionHeld3
namespace Go.Proofs.Ytklpafognbodhaa
open Go.RowKit

theorem wpStill_load_mid {P : Program} {ops : Array Oper} {w : World} {Q : Act → Prop} {a : Act} {o : Oper} {rest : List Oper} (hgd : o.guard = none) (ty : TypeId) (x : Operand) (ho : o.op = .load ty x)
    (b off : Nat) (hx : a.eval x = .pointer (some ⟨b, off, none⟩)) (cs : List Value) (d : TypeDesc) (hc : w.rangeAt b off cs)
    (hu : P.underlying ty = some d) (hd : d.isRow = true) (hi : (P.info? ty).map (·.size) = some cs.length)
    (h : wpStill P ops w Q rest (a.put o.dst (.agg cs.toArray))) : wpStill P ops w Q (o :: rest) a := by
  unfold wpStill
  rw [if_pos (by simp [Region.wanted, hgd])]
  unfold Oper.still execOp
  simp only [ho, hx, Instr.loadAt, Instr.sureAddr, Sem.run_bind, Sem.run_pure, Result.andThen_ok, run_loadVar_mid w b off ty cs d hc hu hd hi]
  exact ⟨rfl, h⟩
theorem results_cell_row2 {P : Program} {fn : Func} {p u : Tmp} {ty : TypeId} (h : fn.results = #[.cell p ty, .tmp u]) (tmps : Array Value) (w : World) (g : Nat) (t : TypeId) (cs : Array Value) (fr : Nat × Nat) (d : TypeDesc)
    (hp : tmps.getD p undef = .pointer (some ⟨g, 0, none⟩)) (hg : w.heap[g]? = some (.cells cs t fr))
    (hu : P.underlying ty = some d) (hd : (match d with | .struct _ | .array _ _ => true | _ => false) = true) (hi : (P.info? ty).map (·.size) = some cs.size) :
    (results fn tmps).run P w = .ok (.tuple #[.agg cs, tmps.getD u undef]) w := by
  rw [results_cell_tmp h, hp]
  simp [asAddr, run_loadVar_row w g t ty cs fr d hg hu hd hi, Result.andThen]
theorem results_cell_row3 {P : Program} {fn : Func} {p u v : Tmp} {ty : TypeId} (h : fn.results = #[.cell p ty, .tmp u, .tmp v]) (tmps : Array Value) (w : World) (g : Nat) (t : TypeId) (cs : Array Value) (fr : Nat × Nat) (d : TypeDesc)
    (hp : tmps.getD p undef = .pointer (some ⟨g, 0, none⟩)) (hg : w.heap[g]? = some (.cells cs t fr))
    (hu : P.underlying ty = some d) (hd : (match d with | .struct _ | .array _ _ => true | _ => false) = true) (hi : (P.info? ty).map (·.size) = some cs.size) :
    (results fn tmps).run P w = .ok (.tuple #[.agg cs, tmps.getD u undef, tmps.getD v undef]) w := by
  have hp' : tmps[p]?.getD undef = .pointer (some ⟨g, 0, none⟩) := by simpa using hp
  simp [results, h, hp', asAddr, run_loadVar_row w g t ty cs fr d hg hu hd hi]

/-- Where the k-th one lies. -/
theorem PRowAt.range {w : World} {l : List PI} {g hc k : Nat} {x : PI} (hg : Good l) (h3 : w.ownsRow 0 85 17 (.slice (some ⟨g, 0, none⟩) l.length hc) l.length (pcells l)) (hx : l[k]? = some x) :
    g < w.heap.size ∧ x.cells.length = 17 ∧ w.rangeAt g (k * 17) x.cells ∧ w.rangeAt g (k * 17) x.1 ∧ w.cell? ⟨g, k * 17 + 16, none⟩ = some (.bool x.2) := by
  have hk := (List.getElem?_eq_some_iff.1 hx).1
  have h16 := (hg x (List.mem_of_getElem? hx)).1
  have h17 : x.cells.length = 17 := by simp [PI.cells, h16]
  have hr : w.rangeAt g (k * 17) x.cells := fun j u hj => by
    have hj17 : j < 17 := by have := (List.getElem?_eq_some_iff.1 hj).1; omega
    rw [h3.cellAt (k * 17 + j) (by omega)]
    exact pcells_at hg hx j u hj
  refine ⟨(owns_bounds h3 (g := g) rfl).2, h17, hr, fun j u hj => hr j u ?_, hr 16 _ (by simp [PI.cells, h16])⟩
  rw [PI.cells, List.getElem?_append_left (List.getElem?_eq_some_iff.1 hj).1]; exact hj

def atV (p : PI) : Value := .tuple #[.agg p.1.toArray, .bool p.2]
attribute [local go_sem ↓] loadM wpLoadM storeM wpStoreM
attribute [local go_sem] putAt_ptr
set_option maxRecDepth 100000 in
set_option maxHeartbeats 1000000 in
theorem pat_any (w : World) (S : Nat → Prop) (nb : Nat) (l : List PI) (k : Nat) (p : PI) (h : PRowAt w S nb l) (hk : l[k]? = some p) (hlen : l.length ≤ 1000000) :
    Calls Try.prog 44 #[.pointer (some ⟨nb, 0, none⟩), .int .i64 k] w fun e w' => e = .returned (atV p) ∧ Below w.heap.size w w' := by
  obtain ⟨h0, h1, hg, v, h2, h3, h4⟩ := h
  have hkl := (List.getElem?_eq_some_iff.1 hk).1
  obtain ⟨g, hc, rfl, _⟩ := h3.form (by omega)
  obtain ⟨r1, r2, r3, r4, r5⟩ := PRowAt.range hg h3 hk
  have h16 := (hg p (List.mem_of_getElem? hk)).1
  have hlt : nb < w.heap.size := lt_of_some h2
  obtain ⟨W, hW⟩ : ∃ W, W = w.alloc (.cells #[.int .i8 0, .int .i64 0, .int .i64 0, .int .i64 0, .int .i64 0, .int .i64 0, .int .i64 0, .int .i64 0, .int .i64 0, .int .i64 0, .int .i64 0, .slice none 0 0, .int .i64 0, .int .i64 0, .string ⟨#[]⟩, .slice none 0 0] 40) := ⟨_, rfl⟩
  have hbW : Below w.heap.size w W := by rw [hW]; exact (Below.refl _ _).alloc (Nat.le_refl _) _
  have hnW : W.heap[w.heap.size]? = some (.cells #[.int .i8 0, .int .i64 0, .int .i64 0, .int .i64 0, .int .i64 0, .int .i64 0, .int .i64 0, .int .i64 0, .int .i64 0, .int .i64 0, .int .i64 0, .slice none 0 0, .int .i64 0, .int .i64 0, .string ⟨#[]⟩, .slice none 0 0] 40 (0, 0)) := by rw [hW]; exact heap_alloc_new w _
  have c0 : w.cell? ⟨nb, 0, none⟩ = some (.slice (some ⟨g, 0, none⟩) l.length hc) := by rw [cell_of_row w _ 0 _ _ _ h2]; rfl
  have hmt : MsgThere w g (k * 17) p.1 := by
    obtain ⟨g', hc', cur, e1, e2, e3, e4⟩ : ∃ g' hc' cur, Value.slice (some ⟨g, 0, none⟩) l.length hc = .slice (some ⟨g', 0, none⟩) l.length hc' ∧ w.heap[g']? = some (.cells cur 85 (0, 0)) ∧ True ∧ True := by
      rcases h3.2 with ⟨hv, _⟩ | ⟨g', cap', cur, hv, _, hh, _⟩
      · cases hv
      · exact ⟨g', cap', cur, hv, hh, trivial, trivial⟩
    cases e1
    exact there_msg e2 h16 fun j u hj => by
      have := r4 j u hj
      rw [cell_of_row w _ _ _ _ _ e2] at this
      exact this
  obtain ⟨len, hl⟩ : ∃ len, len = l.length := ⟨_, rfl⟩
  rw [← hl] at c0 hkl hlen
  obtain ⟨cs, hcs⟩ : ∃ cs, cs = p.1 := ⟨_, rfl⟩
  obtain ⟨mk, hmk⟩ : ∃ mk, mk = p.2 := ⟨_, rfl⟩
  have hV : Hid (atV p = .tuple #[.agg cs.toArray, .bool mk]) := Lib.hid (by rw [hcs, hmk]; rfl)
  rw [← hcs] at r4 h16 hmt
  rw [← hmk] at r5
  have h1c : isMsg (.agg cs.toArray) = true := isMsg_agg h16 (by rw [hcs]; exact (hg p (List.mem_of_getElem? hk)).2)
  obtain ⟨B, hB⟩ : ∃ B, B = w.heap.size := ⟨_, rfl⟩
  have hmW := hmt.same (hbW.block g r1)
  have hS0 : W.cell? ⟨nb, 0, none⟩ = some (.slice (some ⟨g, 0, none⟩) len hc) ∧ W.cell? ⟨g, k * 17 + 16, none⟩ = some (.bool mk) ∧ okAt W (.pointer (some ⟨g, k * 17, none⟩)) = true ∧ cellsAt W (.pointer (some ⟨g, k * 17, none⟩)) = cs.toArray ∧ freeAt W (.pointer (some ⟨B, 0, none⟩)) = true :=
    ⟨(hbW.cell (p := ⟨nb, 0, none⟩) hlt).trans c0, (hbW.cell (p := ⟨g, k * 17 + 16, none⟩) r1).trans r5, hmW.1, hmW.2, by rw [hB]; exact freeAt_of hnW rfl⟩
  have hK : ∀ w' : World, (w'.cell? ⟨nb, 0, none⟩ = some (.slice (some ⟨g, 0, none⟩) len hc) ∧ w'.cell? ⟨g, k * 17 + 16, none⟩ = some (.bool mk) ∧ okAt w' (.pointer (some ⟨g, k * 17, none⟩)) = true ∧ cellsAt w' (.pointer (some ⟨g, k * 17, none⟩)) = cs.toArray ∧ freeAt w' (.pointer (some ⟨B, 0, none⟩)) = true) →
      ((w'.setCells B 0 cs).cell? ⟨nb, 0, none⟩ = some (.slice (some ⟨g, 0, none⟩) len hc) ∧ (w'.setCells B 0 cs).cell? ⟨g, k * 17 + 16, none⟩ = some (.bool mk) ∧ okAt (w'.setCells B 0 cs) (.pointer (some ⟨g, k * 17, none⟩)) = true ∧ cellsAt (w'.setCells B 0 cs) (.pointer (some ⟨g, k * 17, none⟩)) = cs.toArray ∧ freeAt (w'.setCells B 0 cs) (.pointer (some ⟨B, 0, none⟩)) = true) := fun w' ⟨e1, e2, e3, e4, e5⟩ => by
    have hf := setCells_frame (b := B) cs 0 w'
    have f1 : (w'.setCells B 0 cs).heap[nb]? = w'.heap[nb]? := hf.2.2 nb (by omega)
    have f2 : (w'.setCells B 0 cs).heap[g]? = w'.heap[g]? := hf.2.2 g (by omega)
    have f3 := MsgThere.same ⟨e3, e4⟩ f2
    refine ⟨(World.cell?_of_block f1).trans e1, (World.cell?_of_block f2).trans e2, f3.1, f3.2, ?_⟩
    simp only [freeAt] at e5
    split at e5
    · rename_i zs t fr hb
      simp at e5
      obtain ⟨e6, rfl⟩ := e5
      have := setCells_block cs [] zs.toList w' (t := t) (b := B) (by simpa using hb) (by simp; omega)
      exact freeAt_of (by simpa using this) (by simpa using h16)
    · cases e5
  have hend : ∀ w' : World, w'.heap = W.heap → ((w'.setCells B 0 cs).heap[B]? = some (.cells cs.toArray 40 (0, 0))) ∧ (w'.os = W.os → w'.tape = W.tape → w'.output = W.output → Below B w (w'.setCells B 0 cs)) := fun w' e => by
    have h := setCells_block cs [] (#[.int .i8 0, .int .i64 0, .int .i64 0, .int .i64 0, .int .i64 0, .int .i64 0, .int .i64 0, .int .i64 0, .int .i64 0, .int .i64 0, .int .i64 0, .slice none 0 0, .int .i64 0, .int .i64 0, .string ⟨#[]⟩, .slice none 0 0] : Array Value).toList w' (t := 40) (b := B) (by rw [e, hB]; simpa using hnW) (by rw [h16]; rfl)
    refine ⟨by simpa using h, fun e1 e2 e3 => ?_⟩
    have hf := setCells_frame (b := B) cs 0 w'
    have hb' : Below B w w' := by
      rw [← hB] at hbW
      exact ⟨e1.trans hbW.os, e2.trans hbW.tape, e3.trans hbW.output, by rw [e]; exact hbW.size, fun x hx => by rw [e]; exact hbW.block x hx⟩
    exact hb'.trans (hf.2.1 B (Nat.le_refl _))
  have HS0 := Lib.hid hS0
  have HK := Lib.hid hK
  have HE := Lib.hid hend
  have hi := Lib.hid (show (Try.prog.info? 40).map (·.size) = some cs.toArray.size by rw [List.size_toArray, h16]; kernel_rfl)
  have hk0 : (0 : Int) ≤ (k : Int) := by omega
  have hki : (k : Int) < (len : Int) := by omega
  have HW := Lib.hid hW
  have HB := Lib.hid hB
  have fW : freeAt W.drew (.pointer (some ⟨B, 0, none⟩)) = true := hS0.2.2.2.2
  clear h0 h1 h2 h3 h4 hg hl hbW hnW r1 r2 r3 r4 r5 hk hS0 hK hend c0 hmt hmW hcs hmk hW hlt h16 hB
  go_enter Try.func44, Try.ntmps44
  go_wp2_with fail
  rw [← HB.out, ← HW.out]
  go_region_held3 (fun w' => w'.cell? ⟨nb, 0, none⟩ = some (.slice (some ⟨g, 0, none⟩) len hc) ∧ w'.cell? ⟨g, k * 17 + 16, none⟩ = some (.bool mk) ∧ okAt w' (.pointer (some ⟨g, k * 17, none⟩)) = true ∧ cellsAt w' (.pointer (some ⟨g, k * 17, none⟩)) = cs.toArray ∧ freeAt w' (.pointer (some ⟨B, 0, none⟩)) = true) (first | exact HS0.out | exact HK.out _ ⟨by assumption, by assumption, by assumption, by assumption, by assumption⟩ | exact HK.out _ (by assumption) | (go_keep; done)) (fail)
  all_goals (
    have hfin := HE.out W.drew rfl
    clear fW
    generalize W.drew.setCells B 0 cs = W3 at hfin ⊢
    go_wp2_with fail
    refine bodyPost_ret (results_cell_row2 rfl _ _ B 40 _ (0, 0) _ rfl hfin.1 Try.underlying40 rfl hi.out) rfl ?_
    exact ⟨by rw [hV.out]; rfl, by rw [← HB.out]; exact hfin.2 rfl rfl rfl⟩)

end Go.Proofs.Ytklpafognbodhaa
