/-
  told: it tells true of the messages that lie in the net. No condition but that what it bears lies on.
-/
import Derived.Test.YtklpafognbodhaaAllSeq
import Derived.Test.YtklpafognbodhaaRoundHeld
namespace Go.Proofs.Ytklpafognbodhaa
open Go.RowKit Go.Shelf
attribute [local go_sem] Oper.semAt_some

/-- A row of messages in memory. -/
def MsgsAt (w : World) (S : Nat → Prop) (la : Option Addr) (lm : List Item) : Prop := 0 < lm.length → ∃ g off, la = some ⟨g, off, none⟩ ∧ g < w.heap.size ∧ ∀ k q, lm[k]? = some q → ∃ sa sc ka cap, MsgThere w g (off + k * 16) (msgCells q.1 sa sc ka cap) ∧ MsgIn w S q.1 sa ka
def W4t (w : World) (la : Option Addr) (L lcap : Nat) (leave : Int) : World := (((w.alloc (.cells #[.slice la L lcap] 28)).alloc (.cells #[.int .i64 leave] 3)).alloc (.cells #[.bool false] 4)).alloc (.cells #[.int .i64 0] 3)
theorem W4t_heap (w : World) (la : Option Addr) (L lcap : Nat) (leave : Int) : (W4t w la L lcap leave).heap[w.heap.size]? = some (.cells #[.slice la L lcap] 28 (0, 0)) ∧ (W4t w la L lcap leave).heap[w.heap.size + 1]? = some (.cells #[.int .i64 leave] 3 (0, 0)) ∧ (W4t w la L lcap leave).heap[w.heap.size + 1 + 1]? = some (.cells #[.bool false] 4 (0, 0)) ∧ (W4t w la L lcap leave).heap[w.heap.size + 1 + 1 + 1]? = some (.cells #[.int .i64 0] 3 (0, 0)) ∧ Below w.heap.size w (W4t w la L lcap leave) := by
  unfold W4t
  refine ⟨?_, ?_, ?_, ?_, ?_⟩
  · rw [Below.heap_alloc _ _ _ (by simp only [World.size_alloc]; omega), Below.heap_alloc _ _ _ (by simp only [World.size_alloc]; omega), Below.heap_alloc _ _ _ (by simp only [World.size_alloc]; omega)]; exact heap_alloc_new w _
  · rw [Below.heap_alloc _ _ _ (by simp only [World.size_alloc]; omega), Below.heap_alloc _ _ _ (by simp only [World.size_alloc]; omega)]
    have := heap_alloc_new (w.alloc (.cells #[.slice la L lcap] 28)) (.cells #[.int .i64 leave] 3)
    rw [World.size_alloc] at this; exact this
  · rw [Below.heap_alloc _ _ _ (by simp only [World.size_alloc]; omega)]
    have := heap_alloc_new ((w.alloc (.cells #[.slice la L lcap] 28)).alloc (.cells #[.int .i64 leave] 3)) (.cells #[.bool false] 4)
    rw [World.size_alloc, World.size_alloc] at this; exact this
  · have := heap_alloc_new (((w.alloc (.cells #[.slice la L lcap] 28)).alloc (.cells #[.int .i64 leave] 3)).alloc (.cells #[.bool false] 4)) (.cells #[.int .i64 0] 3)
    rw [World.size_alloc, World.size_alloc, World.size_alloc] at this; exact this
  · exact ((((Below.refl _ w).alloc (Nat.le_refl _) _).alloc (by simp only [World.size_alloc]; omega) _).alloc (by simp only [World.size_alloc]; omega) _).alloc (by simp only [World.size_alloc]; omega) _
def CellsOf (w : World) (b : Nat) : Prop := ∃ o : Obj, w.heap[b]? = some o ∧ o.isCells = true
theorem cellsOf {w : World} {a : Addr} {v : Value} (h : w.cell? a = some v) : CellsOf w a.block := by
  unfold World.cell? at h
  split at h
  · rename_i hh; exact ⟨_, hh, rfl⟩
  · cases h
theorem FoAt.narrow {w : World} {S : Nat → Prop} : ∀ {f : Fo} {a : Option Addr}, FoAt w S f a → FoAt w (fun b => S b ∧ CellsOf w b) f a
  | .nil, _, _ => True.intro
  | .node _ _ k l r, a, h => by
    obtain ⟨b, off, ka, cap, e, hb, h0, h1, h2, h3, hl, hr⟩ := h
    exact ⟨b, off, ka, cap, e, ⟨hb, cellsOf h0⟩, h0, h1, h2, h3, hl.narrow, hr.narrow⟩
theorem StepsAt.narrow {w : World} {S : Nat → Prop} {a : Option Addr} {l : List Stp} (h : StepsAt w S a l) : StepsAt w (fun b => S b ∧ CellsOf w b) a l := fun h0 => by
  obtain ⟨b, off, e, hb, hc⟩ := h h0
  obtain ⟨x0, hx0⟩ : ∃ x, l[0]? = some x := ⟨l[0], List.getElem?_eq_getElem h0⟩
  obtain ⟨_, _, k0, _⟩ := hc 0 x0 hx0
  refine ⟨b, off, e, ⟨hb, cellsOf k0⟩, fun k x hx => ?_⟩
  obtain ⟨ka, cap, c0, c1, c2, c3, c4, c5, c6, c7, c8, hf⟩ := hc k x hx
  exact ⟨ka, cap, c0, c1, c2, c3, c4, c5, c6, c7, c8, hf.narrow⟩
/-- Between two rounds: so many were told, nothing else has turned. -/
def ToldI (w w5 : World) (pre : List (Nat × List Value)) (V : World) : Prop := (V.os = w5.os ∧ V.tape = w5.tape ∧ V.output = w5.output) ∧ w5.heap.size ≤ V.heap.size ∧ (∀ x, x < w5.heap.size → x ≠ w.heap.size + 1 + 1 + 1 → V.heap[x]? = w5.heap[x]?) ∧ V.heap[w.heap.size + 1 + 1 + 1]? = some (.cells #[.int .i64 (pre.length : Int)] 3 (0, 0))
theorem results_cell_bool {P : Program} {fn : Func} {p : Tmp} {ty : TypeId} (h : fn.results = #[.cell p ty]) (tmps : Array Value) (w : World) (a : Addr) (b : Bool) (hp : tmps.getD p undef = .pointer (some a)) (hc : w.cell? a = some (.bool b)) (hu : ∀ w, (isAgg ty).run P w = .ok false w) :
    (results fn tmps).run P w = .ok (.bool b) w := by
  have hp' : tmps[p]?.getD undef = .pointer (some a) := by simpa using hp
  simp [results, h, hp', asAddr, go_sem, hc, hu, Result.andThen]
theorem ToldI.own {w w5 : World} (h4 : w.heap.size + 1 + 1 + 1 < w5.heap.size) : OwnFrom w5.heap.size (ToldI w w5) := fun s A B row hs hg hr => by
  obtain ⟨⟨o1, o2, o3⟩, h1, h2, h3⟩ := hs
  refine ⟨⟨hg.os.trans o1, hg.tape.trans o2, hg.output.trans o3⟩, Nat.le_trans h1 hg.size, fun x hx hne => ?_, ?_⟩
  · exact (hg.block x (by omega) fun e => absurd (hr x e.symm).1 (by omega)).trans (h2 x hx hne)
  · exact (hg.block _ (by omega) fun e => absurd (hr _ e.symm).1 (by omega)).trans h3
theorem tellsK_trans {n₀ l : Nat} {T : Nat → Prop} {A B C : World} (h : TellsK n₀ T l A B) (k : TellsK n₀ T l B C) : TellsK n₀ T l A C := ⟨Nat.le_trans h.1 k.1, fun x o hx hn hl => k.2 x o (h.2 x o hx hn hl) hn hl⟩
theorem tellsK_put {n₀ l : Nat} {T : Nat → Prop} (W : World) (o' : Obj) : TellsK n₀ T l W (W.putObj l o') := ⟨by simp [World.putObj], fun x o hx _ hl => (World.putObj_heap_other hl).trans hx⟩
attribute [local go_sem ↓] storeM wpStoreM inStoreM
attribute [local go_sem] putAt_ptr
set_option linter.unusedSimpArgs false in
set_option maxRecDepth 100000 in
set_option maxHeartbeats 4000000 in
theorem told_any (w : World) (SP T S2 : Nat → Prop) (nb : Nat) (la : Option Addr) (lcap : Nat) (leave : Int) (pl : List PI) (lm : List Item) (hrow : PRowAt w SP nb pl) (hg : Good pl) (hgl : GoodL lm) (hT : ∀ x, T x → x < w.heap.size) (hm : PMatch w T pl lm) (ml : MsgsAt w S2 la lm) (hS2 : ∀ x, S2 x → x < w.heap.size) :
    Calls Try.prog 9 #[.pointer (some ⟨nb, 0, none⟩), .slice la lm.length lcap, .int .i64 leave] w fun e w' => e = .returned (.bool true) ∧ Below w.heap.size w w' := by
  obtain ⟨L, hL⟩ : ∃ L, L = lm.length := ⟨_, rfl⟩
  rw [← hL]
  have hpl := hm.length
  have hb4 : Below w.heap.size w (W4t w la L lcap leave) := (W4t_heap w la L lcap leave).2.2.2.2
  have hrow4 : PRowAt (W4t w la L lcap leave) SP nb pl := hrow.below hb4
  have hall := nall_any _ SP nb pl hrow4 (by have := hgl.1; omega)
  unfold W4t at hall
  have hnf : ∀ (W : World) (D : Nat), (binOp .eql 64 (.func (.func 48) #[] #[.pointer (some ⟨D, 0, none⟩)]) Value.nilFunc).run Try.prog W = .ok (.bool false) W := fun W D => by kernel_rfl
  have HA := Lib.hid hall
  have HL := Lib.hid hL
  clear hall hL
  refine (callsIn_wide (n := 6)).1 ?_
  refine callsIn_of_wp_marks Try.func9 rfl trivial ?_ rfl
  simp only [Try.ntmps9, List.size_toArray, List.length_cons, List.length_nil, Nat.reduceAdd, Nat.reduceSub, Array.replicate_succ, Array.replicate_zero, List.push_toArray, List.append_toArray, List.nil_append, List.cons_append]
  gi_wp2_with (refine ⟨trivial, ?_⟩; gi_at_call 29; refine (callsIn_wide.2 HA.out).mono ?_; rintro e w5 ⟨D, C, rfl, hD, cD, hc, hb5⟩)
  have hw4 : w.heap.size + 1 + 1 + 1 < w5.heap.size := by have := hb5.size; simp at this; omega
  have hI0 := ToldI.own (w := w) hw4
  obtain ⟨g4, g5, g6, g7⟩ : w5.heap[w.heap.size]? = some (.cells #[.slice la L lcap] 28 (0, 0)) ∧ w5.heap[w.heap.size + 1]? = some (.cells #[.int .i64 leave] 3 (0, 0)) ∧ w5.heap[w.heap.size + 1 + 1]? = some (.cells #[.bool false] 4 (0, 0)) ∧ w5.heap[w.heap.size + 1 + 1 + 1]? = some (.cells #[.int .i64 0] 3 (0, 0)) := by
    obtain ⟨a4, a5, a6, a7, a8⟩ := W4t_heap w la L lcap leave
    have hh : ∀ x, x < w.heap.size + 1 + 1 + 1 + 1 → w5.heap[x]? = (W4t w la L lcap leave).heap[x]? := fun x hx => hb5.block x (by simp; omega)
    exact ⟨(hh _ (by omega)).trans a4, (hh _ (by omega)).trans a5, (hh _ (by omega)).trans a6, (hh _ (by omega)).trans a7⟩
  have hcells : ∀ pre V, ToldI w w5 pre V → V.cell? ⟨w.heap.size, 0, none⟩ = some (.slice la L lcap) ∧ V.cell? ⟨w.heap.size + 1, 0, none⟩ = some (.int .i64 leave) ∧ V.cell? ⟨w.heap.size + 1 + 1, 0, none⟩ = some (.bool false) ∧ (∀ j, V.frozen? ⟨w.heap.size + 1 + 1, j, none⟩ = false) ∧ V.cell? ⟨w.heap.size + 1 + 1 + 1, 0, none⟩ = some (.int .i64 (pre.length : Int)) ∧ (∀ j, V.frozen? ⟨w.heap.size + 1 + 1 + 1, j, none⟩ = false) := fun pre V h => by
    have a4 := (h.2.2.1 w.heap.size (by omega) (by omega)).trans g4
    have a5 := (h.2.2.1 (w.heap.size + 1) (by omega) (by omega)).trans g5
    have a6 := (h.2.2.1 (w.heap.size + 1 + 1) (by omega) (by omega)).trans g6
    exact ⟨by rw [cell_of_row _ _ 0 _ _ _ a4]; rfl, by rw [cell_of_row _ _ 0 _ _ _ a5]; rfl, by rw [cell_of_row _ _ 0 _ _ _ a6]; rfl, fun j => frozen_of_row _ _ j _ _ a6, by rw [cell_of_row _ _ 0 _ _ _ h.2.2.2]; rfl, fun j => frozen_of_row _ _ j _ _ h.2.2.2⟩
  have hfin : ∀ (E : Nat) (pre : List (Nat × List Value)) (W3 : World), w5.heap.size ≤ E → ToldI w w5 pre W3 → W3.heap[E]? = some (.deferred (some [])) → (W3.setCell ⟨w.heap.size + 1 + 1, 0, none⟩ (.bool true)).heap[E]? = some (.deferred (some [])) ∧ ((W3.setCell ⟨w.heap.size + 1 + 1, 0, none⟩ (.bool true)).putObj E (.deferred none)).cell? ⟨w.heap.size + 1 + 1, 0, none⟩ = some (.bool true) ∧ Below w.heap.size w ((W3.setCell ⟨w.heap.size + 1 + 1, 0, none⟩ (.bool true)).putObj E (.deferred none)) := fun E pre W3 hE h hK => by
    have ht : Touched W3 (W3.setCell ⟨w.heap.size + 1 + 1, 0, none⟩ (.bool true)) (fun x => x = w.heap.size + 1 + 1) := Touched.setCell (S := fun x => x = w.heap.size + 1 + 1) (a := ⟨w.heap.size + 1 + 1, 0, none⟩) rfl _
    have h6 := (h.2.2.1 (w.heap.size + 1 + 1) (by omega) (by omega)).trans g6
    have h6' := heap_setCell_same W3 (w.heap.size + 1 + 1) 0 _ _ (.bool true) h6
    have hE3 := (Array.getElem?_eq_some_iff.1 hK).1
    have hk1 := (ht.block E hE3 (by omega)).trans hK
    have hk2 : ((W3.setCell ⟨w.heap.size + 1 + 1, 0, none⟩ (.bool true)).putObj E (.deferred none)).heap[w.heap.size + 1 + 1]? = some (.cells #[.bool true] 4 (0, 0)) := (World.putObj_heap_other (by omega)).trans h6'
    refine ⟨hk1, by rw [cell_of_row _ _ 0 _ _ _ hk2]; rfl, ⟨?_, ?_, ?_, ?_, fun x hx => ?_⟩⟩
    · exact h.1.1.trans hb5.os
    · exact h.1.2.1.trans hb5.tape
    · exact h.1.2.2.trans hb5.output
    · have h1 := h.2.1
      have h2 : ((W3.setCell ⟨w.heap.size + 1 + 1, 0, none⟩ (.bool true)).putObj E (.deferred none)).heap.size = W3.heap.size := by simp [World.putObj, World.setCell]
      rw [h2]; omega
    · rw [World.putObj_heap_other (by omega), ht.block x (by have := h.2.1; omega) (by omega), h.2.2.1 x (by omega) (by omega), hb5.block x (by simp; omega)]
      exact hb4.block x hx
  have hbw5 : Below w.heap.size w w5 := hb4.trans (hb5.mono hb4.size)
  have hseq := allseq 5 _ C D (by omega) T pl lm hg hgl w5 (fun x hx => Nat.lt_of_lt_of_le (hT x hx) hbw5.size) (hm.kept fun x hx => ⟨hx, hbw5.block x (hT x hx)⟩) cD hc
  refine range_tells (F := Fence.wide) rfl (by omega) (gf := 48) (lb := #[.pointer (some ⟨D, 0, none⟩)]) rfl trivial (enters_of Try.func48 (by kernel_rfl) rfl) hseq (fun h k => tellsK_trans h k) (fun W o o' _ _ => tellsK_put W o') (Below.refl _ _) (fun _ => rfl)
    (ToldI w w5) (fun c pre V => c = .exit 0 ∧ ((pre.length : Nat) : Int) = leave ∧ ToldI w w5 pre V) hI0 (fun c s A B row hs hg hr => ⟨hs.1, hs.2.1, hI0 s A B row hs.2.2 hg hr⟩) ?start ?round ?done ?stop
  case start => exact ⟨⟨rfl, rfl, rfl⟩, Nat.le_refl _, fun _ _ _ => rfl, g7⟩
  case done =>
    rintro E xs W3 hE hxs hI hK
    obtain ⟨c4, c5, c6, f6, c7, f7⟩ := hcells xs W3 hI
    rw [hxs, ← HL.out] at c7
    obtain ⟨k1, k2, k3⟩ := hfin E xs W3 hE hI hK
    gi_wp2
    refine ⟨by simp, .inl ⟨_, _, rfl, run_takeDeferred k1, ?_⟩⟩
    exact ⟨_, results_cell_bool rfl _ _ ⟨w.heap.size + 1 + 1, 0, none⟩ true rfl k2 (fun _ => by kernel_rfl), rfl, k3⟩
  case stop =>
    rintro E c pre W3 hE _ ⟨rfl, hpl', hI⟩ hK
    obtain ⟨c4, c5, c6, f6, c7, f7⟩ := hcells pre W3 hI
    rw [hpl'] at c7
    obtain ⟨k1, k2, k3⟩ := hfin E pre W3 hE hI hK
    by_cases hkL : leave = (L : Int)
    · gi_wp2
      refine ⟨by simp, .inl ⟨_, _, rfl, run_takeDeferred k1, ?_⟩⟩
      exact ⟨_, results_cell_bool rfl _ _ ⟨w.heap.size + 1 + 1, 0, none⟩ true rfl k2 (fun _ => by kernel_rfl), rfl, k3⟩
    · gi_wp2
      refine ⟨by simp, .inl ⟨_, _, rfl, run_takeDeferred k1, ?_⟩⟩
      exact ⟨_, results_cell_bool rfl _ _ ⟨w.heap.size + 1 + 1, 0, none⟩ true rfl k2 (fun _ => by kernel_rfl), rfl, k3⟩
  case round =>
    intro l2 hl2 pre x V K hI hgd hlen hK
    obtain ⟨ix, cs⟩ := x
    obtain ⟨hix, q, sa, sc, ka, cap, hq, hcs, hin⟩ := hgd
    simp only at hix hq hcs
    subst hix
    have h16 : cs.length = 16 := by rw [hcs]; rfl
    have hnew := heap_alloc_new V (.cells #[.int .i8 0, .int .i64 0, .int .i64 0, .int .i64 0, .int .i64 0, .int .i64 0, .int .i64 0, .int .i64 0, .int .i64 0, .int .i64 0, .int .i64 0, .slice none 0 0, .int .i64 0, .int .i64 0, .string ⟨#[]⟩, .slice none 0 0] 40)
    have hst := store_msg hnew rfl h16
    obtain ⟨V1, hV1⟩ : ∃ V1, V1 = ((V.alloc (.cells #[.int .i8 0, .int .i64 0, .int .i64 0, .int .i64 0, .int .i64 0, .int .i64 0, .int .i64 0, .int .i64 0, .int .i64 0, .int .i64 0, .int .i64 0, .slice none 0 0, .int .i64 0, .int .i64 0, .string ⟨#[]⟩, .slice none 0 0] 40)).setCells V.heap.size 0 cs) := ⟨_, rfl⟩
    rw [← hV1] at hst
    have hb : Below V.heap.size V V1 := ((Below.refl _ _).alloc (Nat.le_refl _) _).trans (hst.2.2.2 _ (Nat.le_refl _))
    have f1 : freeAt (V.alloc (.cells #[.int .i8 0, .int .i64 0, .int .i64 0, .int .i64 0, .int .i64 0, .int .i64 0, .int .i64 0, .int .i64 0, .int .i64 0, .int .i64 0, .int .i64 0, .slice none 0 0, .int .i64 0, .int .i64 0, .string ⟨#[]⟩, .slice none 0 0] 40)) (.pointer (some ⟨V.heap.size, 0, none⟩)) = true := freeAt_of hnew rfl
    have f2 : isMsg (.agg cs.toArray) = true := isMsg_agg h16 (by rw [hcs]; exact msgCells_one q.1 sa sc ka cap)
    have hI1 : ToldI w w5 pre V1 := hI0 pre V V1 none hI ⟨hb.os, hb.tape, hb.output, hb.size, fun k hk _ => hb.block k hk⟩ (fun r e => by cases e)
    obtain ⟨g, off, hla, hgw, hml⟩ := ml (by omega)
    obtain ⟨sb, sd, kb, cd, hmt, hmi⟩ := hml pre.length q hq
    subst hla
    have hsV := hI.2.1
    have hgq := hgl.2 q (List.mem_of_getElem? hq)
    have hHK := Lib.hid hK
    have HV := Lib.hid (And.intro hb (And.intro hI1 (And.intro hV1 hst.1)))
    have HM := Lib.hid (And.intro hcs (And.intro hin (And.intro hmt (And.intro hmi hgq))))
    have HQ := Lib.hid hq
    clear hK hb hI1 hnew hst hml hcs hin hmt hmi hgq hq hV1 hI ml
    gi_wp2
    rw [← HV.out.2.2.1]
    refine hHK.out _ _ ⟨HV.out.1.size, fun k o _ hk _ => (HV.out.1.block k (Array.getElem?_eq_some_iff.1 hk).1).trans hk⟩ ⟨HV.out.1.size, fun x o hx _ _ => (HV.out.1.block x (Array.getElem?_eq_some_iff.1 hx).1).trans hx⟩ HV.out.2.1 fun V2 hV2 => ?_
    obtain ⟨o', e2, o, ho, hoc⟩ := hV2
    have hne : V.heap.size ≠ l2 := fun e => by rw [← e, HV.out.2.2.2] at ho; cases ho; cases hoc
    have hsame : ∀ x, x ≠ l2 → V2.heap[x]? = V1.heap[x]? := fun x hx => by rw [e2]; exact World.putObj_heap_other hx
    have hI2 : ToldI w w5 pre V2 := by rw [e2]; exact hI0 pre V1 _ (some l2) HV.out.2.1 (grownBy_putObj' V1 l2 o') fun r e => by cases e; exact ⟨by omega, o, ho, hoc⟩
    have hdw : Below V2.heap.size V2 V2.drew := ⟨rfl, rfl, rfl, Nat.le_refl _, fun _ _ => rfl⟩
    have hmT := MsgThere.same (msg_there HV.out.2.2.2 h16) (hsame V.heap.size hne)
    have hgw5 : g < w5.heap.size := Nat.lt_of_lt_of_le hgw hbw5.size
    have hgne : g ≠ w.heap.size + 1 + 1 + 1 := by omega
    have hlg : V2.heap[g]? = w.heap[g]? := (hI2.2.2.1 g hgw5 hgne).trans (hbw5.block g hgw)
    have hlT := MsgThere.same HM.out.2.2.1 hlg
    have hszV2 : V.heap.size < V2.heap.size := by have := lt_of_some ((hsame V.heap.size hne).trans HV.out.2.2.2); exact this
    have hF : ∀ X, Below V2.drew.heap.size V2.drew X → X.cell? ⟨w.heap.size + 1 + 1 + 1, 0, none⟩ = some (.int .i64 (pre.length : Int)) ∧ X.cell? ⟨w.heap.size, 0, none⟩ = some (.slice (some ⟨g, off, none⟩) L lcap) ∧ MsgThere X V.heap.size 0 cs ∧ MsgThere X g (off + pre.length * 16) (msgCells q.1 sb sd kb cd) := fun X hX => by
      have hX2 : ∀ x, x < V2.heap.size → X.heap[x]? = V2.heap[x]? := fun x hx => hX.block x hx
      obtain ⟨a4, a5, a6, a6f, a7, a7f⟩ := hcells pre V2 hI2
      have hs5 := hI2.2.1
      have m1 := MsgThere.same hmT (hX2 _ hszV2)
      have m2 := MsgThere.same hlT (hX2 _ (by omega))
      exact ⟨(World.cell?_of_block (hX2 _ (by show w.heap.size + 1 + 1 + 1 < _; omega))).trans a7, (World.cell?_of_block (hX2 _ (by show w.heap.size < _; omega))).trans a4, m1, m2⟩
    have HF := Lib.hid hF
    have hkL : (pre.length : Int) < (L : Int) := by have := HL.out; omega
    have hL10 : (L : Int) ≤ 1024 := by have := HL.out; have := hgl.1; omega
    refine wpIn_block ?_
    refine wpIn_seq ?_
    refine wpIn_seq ?_
    refine wpIn_region_held_round (S := fun X => Below V2.drew.heap.size V2.drew X) (by kernel_rfl) (by rintro ⟨aa, ww, hh⟩; simp only [Exit.then, Exit.inBlock, Left] at hh; rcases hh.2.2 with h | h | ⟨id, h, _⟩ <;> (first | (cases h.1; done) | cases h)) (noDefer (by kernel_rfl)) (Below.refl _ _) (fun hHeld => ?_)
    refine wpAnyH_take (i := 0) (oi := _) (v := .int .i64 (pre.length : Int)) rfl (by kernel_rfl) (by kernel_rfl) (by kernel_rfl) (fun _ _ _ h => h) (Or.inl ⟨by rfl, ?_⟩) (by assumption) ?_
    · clear hHeld; intro X hSw; obtain ⟨s7, s4, sm, sl⟩ := HF.out X hSw; clear hSw; go_simp
    simp only [Act.put, List.getElem_toArray, List.getElem_cons_zero, List.getElem_cons_succ, List.setIfInBounds_toArray, List.set_cons_zero, List.set_cons_succ]
    refine wpAnyH_take (i := 1) (oi := _) (v := .int .i64 (pre.length : Int)) rfl (by kernel_rfl) (by kernel_rfl) (by kernel_rfl) (fun _ _ _ h => h) (Or.inl ⟨by rfl, ?_⟩) (by assumption) ?_
    · clear hHeld; intro X hSw; obtain ⟨s7, s4, sm, sl⟩ := HF.out X hSw; clear hSw; go_simp
    simp only [Act.put, List.getElem_toArray, List.getElem_cons_zero, List.getElem_cons_succ, List.setIfInBounds_toArray, List.set_cons_zero, List.set_cons_succ]
    refine wpAnyH_take (i := 2) (oi := _) (v := .bool false) rfl (by kernel_rfl) (by kernel_rfl) (by kernel_rfl) (fun _ _ _ h => h) (Or.inl ⟨by rfl, ?_⟩) (by assumption) ?_
    · clear hHeld; intro X hSw; obtain ⟨s7, s4, sm, sl⟩ := HF.out X hSw; clear hSw; go_simp
    simp only [Act.put, List.getElem_toArray, List.getElem_cons_zero, List.getElem_cons_succ, List.setIfInBounds_toArray, List.set_cons_zero, List.set_cons_succ]
    refine wpAnyH_take (i := 3) (oi := _) (v := .bool false) rfl (by kernel_rfl) (by kernel_rfl) (by kernel_rfl) (fun _ _ _ h => h) (Or.inl ⟨by rfl, ?_⟩) (by assumption) ?_
    · clear hHeld; intro X hSw; obtain ⟨s7, s4, sm, sl⟩ := HF.out X hSw; clear hSw; go_simp
    simp only [Act.put, List.getElem_toArray, List.getElem_cons_zero, List.getElem_cons_succ, List.setIfInBounds_toArray, List.set_cons_zero, List.set_cons_succ]
    refine wpAnyH_take (i := 4) (oi := _) (v := .int .i64 (pre.length : Int)) rfl (by kernel_rfl) (by kernel_rfl) (by kernel_rfl) (fun _ _ _ h => h) (Or.inl ⟨by rfl, ?_⟩) (by assumption) ?_
    · clear hHeld; intro X hSw; obtain ⟨s7, s4, sm, sl⟩ := HF.out X hSw; clear hSw; go_simp
    simp only [Act.put, List.getElem_toArray, List.getElem_cons_zero, List.getElem_cons_succ, List.setIfInBounds_toArray, List.set_cons_zero, List.set_cons_succ]
    refine wpAnyH_take (i := 5) (oi := _) (v := .slice (some ⟨g, off, none⟩) L lcap) rfl (by kernel_rfl) (by kernel_rfl) (by kernel_rfl) (fun _ _ _ h => h) (Or.inl ⟨by rfl, ?_⟩) (by assumption) ?_
    · clear hHeld; intro X hSw; obtain ⟨s7, s4, sm, sl⟩ := HF.out X hSw; clear hSw; go_simp
    simp only [Act.put, List.getElem_toArray, List.getElem_cons_zero, List.getElem_cons_succ, List.setIfInBounds_toArray, List.set_cons_zero, List.set_cons_succ]
    refine wpAnyH_take (i := 6) (oi := _) (v := .int .i64 (L : Int)) rfl (by kernel_rfl) (by kernel_rfl) (by kernel_rfl) (fun _ _ _ h => h) (Or.inl ⟨by rfl, ?_⟩) (by assumption) ?_
    · clear hHeld; intro X hSw; obtain ⟨s7, s4, sm, sl⟩ := HF.out X hSw; clear hSw; go_simp
    simp only [Act.put, List.getElem_toArray, List.getElem_cons_zero, List.getElem_cons_succ, List.setIfInBounds_toArray, List.set_cons_zero, List.set_cons_succ]
    refine wpAnyH_take (i := 7) (oi := _) (v := .bool false) rfl (by kernel_rfl) (by kernel_rfl) (by kernel_rfl) (fun _ _ _ h => h) (Or.inl ⟨by rfl, ?_⟩) (by assumption) ?_
    · clear hHeld; intro X hSw; obtain ⟨s7, s4, sm, sl⟩ := HF.out X hSw; clear hSw; go_simp; omega
    simp only [Act.put, List.getElem_toArray, List.getElem_cons_zero, List.getElem_cons_succ, List.setIfInBounds_toArray, List.set_cons_zero, List.set_cons_succ]
    refine wpAnyH_take (i := 8) (oi := _) (v := .bool false) rfl (by kernel_rfl) (by kernel_rfl) (by kernel_rfl) (fun _ _ _ h => h) (Or.inl ⟨by rfl, ?_⟩) (by assumption) ?_
    · clear hHeld; intro X hSw; obtain ⟨s7, s4, sm, sl⟩ := HF.out X hSw; clear hSw; go_simp
    simp only [Act.put, List.getElem_toArray, List.getElem_cons_zero, List.getElem_cons_succ, List.setIfInBounds_toArray, List.set_cons_zero, List.set_cons_succ]
    refine wpAnyH_take (i := 9) (oi := _) (v := .bool false) rfl (by kernel_rfl) (by kernel_rfl) (by kernel_rfl) (fun _ _ _ h => h) (Or.inl ⟨by rfl, ?_⟩) (by assumption) ?_
    · clear hHeld; intro X hSw; obtain ⟨s7, s4, sm, sl⟩ := HF.out X hSw; clear hSw; go_simp
    simp only [Act.put, List.getElem_toArray, List.getElem_cons_zero, List.getElem_cons_succ, List.setIfInBounds_toArray, List.set_cons_zero, List.set_cons_succ]
    refine wpAnyH_take (i := 10) (oi := _) (v := .agg cs.toArray) rfl (by kernel_rfl) (by kernel_rfl) (by kernel_rfl) (fun _ _ _ h => h) (Or.inl ⟨by rfl, ?_⟩) (by assumption) ?_
    · clear hHeld; intro X hSw; obtain ⟨s7, s4, sm, sl⟩ := HF.out X hSw; clear hSw; refine (loadM X _ _ _ _ _ _ _ ?_).trans ?_
      · exact sm.1
      · exact congrArg (fun c => Result.ok (Next.value (.agg c)) X) sm.2
    simp only [Act.put, List.getElem_toArray, List.getElem_cons_zero, List.getElem_cons_succ, List.setIfInBounds_toArray, List.set_cons_zero, List.set_cons_succ]
    refine wpAnyH_take (i := 11) (oi := _) (v := .slice (some ⟨g, off, none⟩) L lcap) rfl (by kernel_rfl) (by kernel_rfl) (by kernel_rfl) (fun _ _ _ h => h) (Or.inl ⟨by rfl, ?_⟩) (by assumption) ?_
    · clear hHeld; intro X hSw; obtain ⟨s7, s4, sm, sl⟩ := HF.out X hSw; clear hSw; go_simp
    simp only [Act.put, List.getElem_toArray, List.getElem_cons_zero, List.getElem_cons_succ, List.setIfInBounds_toArray, List.set_cons_zero, List.set_cons_succ]
    refine wpAnyH_take (i := 12) (oi := _) (v := .int .i64 (pre.length : Int)) rfl (by kernel_rfl) (by kernel_rfl) (by kernel_rfl) (fun _ _ _ h => h) (Or.inl ⟨by rfl, ?_⟩) (by assumption) ?_
    · clear hHeld; intro X hSw; obtain ⟨s7, s4, sm, sl⟩ := HF.out X hSw; clear hSw; go_simp
    simp only [Act.put, List.getElem_toArray, List.getElem_cons_zero, List.getElem_cons_succ, List.setIfInBounds_toArray, List.set_cons_zero, List.set_cons_succ]
    refine wpAnyH_take (i := 13) (oi := _) (v := .pointer (some ⟨g, off + pre.length * 16, none⟩)) rfl (by kernel_rfl) (by kernel_rfl) (by kernel_rfl) (fun _ _ _ h => h) (Or.inl ⟨by rfl, ?_⟩) (by assumption) ?_
    · clear hHeld; intro X hSw; obtain ⟨s7, s4, sm, sl⟩ := HF.out X hSw; clear hSw; go_simp
    simp only [Act.put, List.getElem_toArray, List.getElem_cons_zero, List.getElem_cons_succ, List.setIfInBounds_toArray, List.set_cons_zero, List.set_cons_succ]
    refine wpAnyH_take (i := 14) (oi := _) (v := .agg (msgCells q.1 sb sd kb cd).toArray) rfl (by kernel_rfl) (by kernel_rfl) (by kernel_rfl) (fun _ _ _ h => h) (Or.inl ⟨by rfl, ?_⟩) (by assumption) ?_
    · clear hHeld; intro X hSw; obtain ⟨s7, s4, sm, sl⟩ := HF.out X hSw; clear hSw; refine (loadM X _ _ _ _ _ _ _ ?_).trans ?_
      · exact sl.1
      · exact congrArg (fun c => Result.ok (Next.value (.agg c)) X) sl.2
    simp only [Act.put, List.getElem_toArray, List.getElem_cons_zero, List.getElem_cons_succ, List.setIfInBounds_toArray, List.set_cons_zero, List.set_cons_succ]
    refine wpAnyH_ready (rs := [15]) (by kernel_rfl) (by simp) ?_
    refine AllReadyH.cons (o := _) rfl (fun K hK => ?_) AllReadyH.nil
    rw [if_pos (by rfl)]
    simp only [List.getElem_toArray, List.getElem_cons_zero, List.getElem_cons_succ]
    have hS1 : ∀ x, (x < V.heap.size ∧ CellsOf V x) → x < V2.drew.heap.size ∧ V2.drew.heap[x]? = V.heap[x]? := fun x hx => by
      obtain ⟨oo, ho1, ho2⟩ := hx.2
      have hxl : x ≠ l2 := fun e => by
        have h1 := HV.out.1.block x hx.1
        rw [e, ho] at h1
        rw [e, ← h1] at ho1
        cases ho1; rw [hoc] at ho2; cases ho2
      exact ⟨by show x < V2.heap.size; omega, (hsame x hxl).trans (HV.out.1.block x hx.1)⟩
    have hS2' : ∀ x, S2 x → x < V2.drew.heap.size ∧ V2.drew.heap[x]? = w.heap[x]? := fun x hx => by
      have h1 := hS2 x hx
      have h5 := hI2.2.1
      have h55 := hbw5.size
      exact ⟨by show x < V2.heap.size; omega, (hI2.2.2.1 x (by omega) (by omega)).trans (hbw5.block x h1)⟩
    have hcs := same_msg V2.drew (fun x => x < V.heap.size ∧ CellsOf V x) S2 (.agg (msgCells q.1 sa sc ka cap).toArray) (.agg (msgCells q.1 sb sd kb cd).toArray) q.1 HM.out.2.2.2.2.1 (fun x hx => (hS1 x hx).1) (fun x hx => (hS2' x hx).1) ⟨sa, sc, ka, cap, rfl, HM.out.2.1.1.narrow.kept fun x hx => ⟨hx, (hS1 x hx).2⟩, HM.out.2.1.2.narrow.kept fun x hx => ⟨hx, (hS1 x hx).2⟩⟩ ⟨sb, sd, kb, cd, rfl, HM.out.2.2.2.1.1.kept fun x hx => ⟨hx, (hS2' x hx).2⟩, HM.out.2.2.2.1.2.kept fun x hx => ⟨hx, (hS2' x hx).2⟩⟩
    rw [← HM.out.1] at hcs
    have HCS := Lib.hid hcs
    clear hcs e2
    go_wp2_with (go_at_call 18; refine HCS.out.mono ?_; rintro e V3 ⟨rfl, hb3⟩; have HB3 := Lib.hid hb3; clear hb3)
    refine hK.out _ _ HB3.out (fun hh => ?_)
    clear hK K hHeld
    have hHeld := hh
    clear hh
    refine wpAnyH_take (i := 16) (oi := _) (v := .bool false) rfl (by kernel_rfl) (by kernel_rfl) (by kernel_rfl) (fun _ _ _ h => h) (Or.inl ⟨by rfl, ?_⟩) (by assumption) ?_
    · clear hHeld; intro X hSw; clear hSw; go_simp
    simp only [Act.put, List.getElem_toArray, List.getElem_cons_zero, List.getElem_cons_succ, List.setIfInBounds_toArray, List.set_cons_zero, List.set_cons_succ]
    refine wpAnyH_take (i := 17) (oi := _) (v := .bool false) rfl (by kernel_rfl) (by kernel_rfl) (by kernel_rfl) (fun _ _ _ h => h) (Or.inl ⟨by rfl, ?_⟩) (by assumption) ?_
    · clear hHeld; intro X hSw; clear hSw; go_simp
    simp only [Act.put, List.getElem_toArray, List.getElem_cons_zero, List.getElem_cons_succ, List.setIfInBounds_toArray, List.set_cons_zero, List.set_cons_succ]
    refine wpAnyH_done (by kernel_rfl) ?_ _
    clear hHeld
    have hb3 := HB3.out
    have hI2d : ToldI w w5 pre V2.drew := hI2
    have hI3 : ToldI w w5 pre V3 := hI0 pre V2.drew V3 none hI2d ⟨hb3.os, hb3.tape, hb3.output, hb3.size, fun k hk _ => hb3.block k hk⟩ (fun r e => by cases e)
    obtain ⟨a4, a5, a6, a6f, a7, a7f⟩ := hcells pre V3 hI3
    have hstep : ToldI w w5 (pre ++ [(pre.length, cs)]) (V3.setCell ⟨w.heap.size + 1 + 1 + 1, 0, none⟩ (.int .i64 ((pre.length : Int) + 1))) ∧ V2.heap.size ≤ (V3.setCell ⟨w.heap.size + 1 + 1 + 1, 0, none⟩ (.int .i64 ((pre.length : Int) + 1))).heap.size ∧ ∀ x, x < V2.heap.size → x ≠ w.heap.size + 1 + 1 + 1 → (V3.setCell ⟨w.heap.size + 1 + 1 + 1, 0, none⟩ (.int .i64 ((pre.length : Int) + 1))).heap[x]? = V2.heap[x]? := by
      have ht : Touched V3 (V3.setCell ⟨w.heap.size + 1 + 1 + 1, 0, none⟩ (.int .i64 ((pre.length : Int) + 1))) (fun x => x = w.heap.size + 1 + 1 + 1) := Touched.setCell (S := fun x => x = w.heap.size + 1 + 1 + 1) (a := ⟨w.heap.size + 1 + 1 + 1, 0, none⟩) rfl _
      have hs3 : V2.heap.size ≤ V3.heap.size := hb3.size
      have hs4 := ht.size
      obtain ⟨⟨o1, o2, o3⟩, h1, h2, h3⟩ := hI3
      refine ⟨⟨⟨o1, o2, o3⟩, Nat.le_trans h1 hs4, fun x hx hn => (ht.block x (by omega) hn).trans (h2 x hx hn), ?_⟩, by omega, fun x hx hn => (ht.block x (by omega) hn).trans (hb3.block x hx)⟩
      have := heap_setCell_same V3 (w.heap.size + 1 + 1 + 1) 0 _ _ (.int .i64 ((pre.length : Int) + 1)) h3
      rw [this]
      simp [List.length_append]
    have hkeep : KeepsFrom w5.heap.size V2 (V3.setCell ⟨w.heap.size + 1 + 1 + 1, 0, none⟩ (.int .i64 ((pre.length : Int) + 1))) := ⟨hstep.2.1, fun k o hB hk _ => by rw [hstep.2.2 k (Array.getElem?_eq_some_iff.1 hk).1 (by omega)]; exact hk⟩
    have htk : ∀ n₀, w.heap.size + 1 + 1 + 1 < n₀ → TellsK n₀ T l2 V2 (V3.setCell ⟨w.heap.size + 1 + 1 + 1, 0, none⟩ (.int .i64 ((pre.length : Int) + 1))) := fun n₀ hn => ⟨hstep.2.1, fun x o hx hnx _ => by
      rw [hstep.2.2 x (Array.getElem?_eq_some_iff.1 hx).1 (fun e => by rcases hnx with h | h; omega; have := hT x h; omega)]; exact hx⟩
    have HEND := Lib.hid (And.intro hkeep (And.intro htk hstep.1))
    clear hstep hkeep htk hI2d hI3 hb3 hF hI2
    show Code.wpIn _ _ _ _ _ _ _
    by_cases hle : (pre.length : Int) + 1 = leave
    · gi_wp2
      have HE2 := HEND.out
      rw [hle] at HE2
      exact ⟨HE2.1, HE2.2.1 _ (by simp [World.size_alloc]), .inr (.inr ⟨0, rfl, rfl, by rw [← hle]; simp, HE2.2.2⟩)⟩
    · gi_wp2
      exact ⟨HEND.out.1, HEND.out.2.1 _ (by simp [World.size_alloc]), .inl ⟨rfl, HEND.out.2.2⟩⟩
end Go.Proofs.Ytklpafognbodhaa
