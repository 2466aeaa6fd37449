/-
  The function that All hands back: it tells copies of the net's messages, one by one, till it is told 'no more'. No condition but that what it bears lies on.
-/
import Derived.Test.YtklpafognbodhaaPSeq
import Derived.Test.YtklpafognbodhaaHalf2
import Derived.Test.YtklpafognbodhaaCopied
namespace Go.Proofs.Ytklpafognbodhaa
open Go.RowKit Go.Shelf
attribute [local go_sem] Oper.semAt_some

/-- What All's function hands out: the next message of lm, that lies in this world. -/
def TellsG (lm : List Item) (pre : List (Nat × List Value)) (x : Nat × List Value) (W : World) : Prop := x.1 = pre.length ∧ ∃ q sa sc ka cap, lm[x.1]? = some q ∧ x.2 = msgCells q.1 sa sc ka cap ∧ MsgIn W (fun b => b < W.heap.size) q.1 sa ka
/-- What it wants to be kept while others have the word. -/
def TellsK (n₀ : Nat) (T : Nat → Prop) (l : Nat) (V V' : World) : Prop := V.heap.size ≤ V'.heap.size ∧ ∀ x o, V.heap[x]? = some o → (n₀ ≤ x ∨ T x) → x ≠ l → V'.heap[x]? = some o
/-- What lies between two rounds of its own loop. -/
def TellsI (w W : World) (n₀ : Nat) (T : Nat → Prop) (l : Nat) (J : List (Nat × List Value) → World → Prop) (pre : List (Nat × List Value)) (V : World) : Prop :=
  (∃ pre', pre'.length = pre.length ∧ J pre' V) ∧ V.cell? ⟨W.heap.size, 0, none⟩ = some (.func (.yield l) #[] #[]) ∧ (∀ x, (T x ∨ n₀ ≤ x) → x < w.heap.size → V.heap[x]? = w.heap[x]?) ∧ W.heap.size < V.heap.size
theorem TellsI.own {w W : World} {n₀ l : Nat} {T : Nat → Prop} {J : List (Nat × List Value) → World → Prop} (hw : w.heap.size ≤ W.heap.size) (hJ : OwnFrom W.heap.size J) : OwnFrom (W.heap.size + 1) (TellsI w W n₀ T l J) := fun s A B row hs hg hr => by
  obtain ⟨⟨pre', h1, h2⟩, h3, h4, h5⟩ := hs
  refine ⟨⟨pre', h1, hJ pre' A B row h2 hg fun r e => ⟨by have := (hr r e).1; omega, (hr r e).2⟩⟩, ?_, fun x hx hxw => ?_, Nat.lt_of_lt_of_le h5 hg.size⟩
  · exact (World.cell?_of_block (hg.block W.heap.size h5 fun e => absurd (hr W.heap.size e.symm).1 (by omega))).trans h3
  · exact (hg.block x (by omega) fun e => absurd (hr x e.symm).1 (by omega)).trans (h4 x hx hxw)
theorem TellsI.below {w W V V' : World} {n₀ l : Nat} {T : Nat → Prop} {J : List (Nat × List Value) → World → Prop} {pre : List (Nat × List Value)} (hw : w.heap.size ≤ W.heap.size) (hJ : OwnFrom W.heap.size J) (h : TellsI w W n₀ T l J pre V) (hb : Below V.heap.size V V') : TellsI w W n₀ T l J pre V' :=
  TellsI.own hw hJ pre V V' none h ⟨hb.os, hb.tape, hb.output, hb.size, fun k hk _ => hb.block k hk⟩ (fun r e => by cases e)

attribute [local go_sem ↓] storeM wpStoreM inStoreM
attribute [local go_sem] putAt_ptr
set_option maxRecDepth 100000 in
set_option maxHeartbeats 4000000 in
theorem allseq (n n₀ C D : Nat) (hn : 3 ≤ n) (T : Nat → Prop) (pl : List PI) (lm : List Item) (hg : Good pl) (hgl : GoodL lm) (w : World) (hT : ∀ x, T x → x < w.heap.size) (hm : PMatch w T pl lm) (hDc : w.cell? ⟨D, 0, none⟩ = some (.func (.func 60) #[] #[.pointer (some ⟨C, 0, none⟩)])) (hc : RowCell n₀ w C pl) :
    Tells Fence.wide n Try.prog 48 #[.pointer (some ⟨D, 0, none⟩)] (fun x : Nat × List Value => #[.int .i64 (x.1 : Int), .agg x.2.toArray]) (TellsG lm) (TellsK n₀ T) (fun ys => ys.length = lm.length) (fun pre => pre.length ≤ lm.length) lm.length w := by
  intro l J Jx W hW hlw hll hJ hJx hY h0
  have hpl := hm.length
  have hDw := World.block_lt_of_cell? _ _ hDc
  have hsw := hW.size
  obtain ⟨W1, hW1⟩ : ∃ W1, W1 = W.alloc (.cells #[(.func (.yield l) #[] #[])] 82) := ⟨_, rfl⟩
  have hb1 : Below W.heap.size W W1 := by rw [hW1]; exact (Below.refl _ _).alloc (Nat.le_refl _) _
  have hs1 : W1.heap.size = W.heap.size + 1 := by rw [hW1]; simp
  have hbw1 : Below w.heap.size w W1 := hW.trans (hb1.mono hsw)
  have cD : W1.cell? ⟨D, 0, none⟩ = some (.func (.func 60) #[] #[.pointer (some ⟨C, 0, none⟩)]) := (World.cell?_of_block (hbw1.block D hDw)).trans hDc
  have hI0 : TellsI w W n₀ T l J [] W1 := ⟨⟨[], rfl, hJ [] W W1 none h0 ⟨hb1.os, hb1.tape, hb1.output, hb1.size, fun k hk _ => hb1.block k hk⟩ (fun r e => by cases e)⟩, by rw [hW1, cell_of_row _ _ 0 _ _ _ (heap_alloc_new W _)]; rfl, fun x _ hx => hbw1.block x hx, by omega⟩
  have hIown := TellsI.own (w := w) (n₀ := n₀) (l := l) (T := T) hsw hJ
  have hrow := rowseq Fence.wide (n - 1) trivial rfl (by omega) n₀ C pl hg (by have := hgl.1; omega) (fun _ V V' => ∀ x, n₀ ≤ x → x < w.heap.size → V'.heap[x]? = V.heap[x]?) w hc (fun _ _ _ _ h => h)
  refine callsIn_of_wp_marks Try.func48 rfl trivial ?_ rfl
  simp only [Try.ntmps48, List.size_toArray, List.length_cons, List.length_nil, Nat.reduceAdd, Nat.reduceSub, Array.replicate_succ, Array.replicate_zero, List.push_toArray, List.append_toArray, List.nil_append, List.cons_append]
  rw [hW1] at cD
  gi_wp2
  rw [← hW1]
  clear cD
  have HX := Lib.hid (And.intro hT (And.intro hm (And.intro hgl (And.intro hJ (And.intro hJx (And.intro hY hIown))))))
  refine range_tells (F := Fence.wide) rfl (by omega) (gf := 60) (lb := #[.pointer (some ⟨C, 0, none⟩)]) rfl trivial (enters_of Try.func60 (by kernel_rfl) rfl) hrow (fun h k x h1 h2 => (k x h1 h2).trans (h x h1 h2)) (fun V o o' _ _ x _ hx => World.putObj_heap_other (by omega)) hbw1 (fun _ => rfl)
    (TellsI w W n₀ T l J) (fun c pre V => c = .ret ∧ ∃ pre', pre'.length ≤ lm.length ∧ Jx pre' V) (by rw [hs1]; exact hIown)
    (fun c s A B row hs hg hr => ⟨hs.1, by obtain ⟨pre', h1, h2⟩ := hs.2; exact ⟨pre', h1, hJx pre' A B row h2 hg fun r e => ⟨by have := (hr r e).1; omega, (hr r e).2⟩⟩⟩) hI0 ?round ?done ?stop
  case done =>
    rintro E xs W3 hE rfl hI hK
    obtain ⟨⟨pre', h1, h2⟩, _⟩ := hI
    gi_wp2
    refine ⟨by simp, .inl ⟨_, _, rfl, run_takeDeferred hK, ?_⟩⟩
    refine ⟨_, results_none rfl _ _ _, ⟨_, rfl⟩, .inl ⟨pre', by rw [h1, toldL_length, hpl], hJ pre' W3 _ (some E) h2 (grownBy_putObj' W3 E _) fun r e => by cases e; exact ⟨by omega, _, hK, rfl⟩⟩⟩
  case stop =>
    rintro E c pre W3 hE _ ⟨rfl, pre', h1, h2⟩ hK
    gi_wp2
    refine ⟨by simp, .inl ⟨_, _, rfl, run_takeDeferred hK, ?_⟩⟩
    refine ⟨_, results_none rfl _ _ _, ⟨_, rfl⟩, .inr ⟨pre', h1, hJx pre' W3 _ (some E) h2 (grownBy_putObj' W3 E _) fun r e => by cases e; exact ⟨by omega, _, hK, rfl⟩⟩⟩
  case round =>
    intro l2 hl2 pre x V K hI hgd hlen hK
    obtain ⟨ix, cs⟩ := x
    obtain ⟨hix, p, hp, hcs⟩ := hgd
    simp only at hix hp hcs
    subst hix
    obtain ⟨q, hq⟩ : ∃ q, lm[pre.length]? = some q := ⟨lm[pre.length]'(by have := (List.getElem?_eq_some_iff.1 hp).1; omega), List.getElem?_eq_getElem _⟩
    obtain ⟨p', hp', _, sa, sc, ka, cap, e1, hin⟩ := HX.out.2.1.at hq
    rw [hp] at hp'
    cases hp'
    rw [e1] at hcs
    have hgq := HX.out.2.2.1.2 q (List.mem_of_getElem? hq)
    have h16 : cs.length = 16 := by rw [hcs]; rfl
    have hnew := heap_alloc_new V (.cells #[.int .i8 0, .int .i64 0, .int .i64 0, .int .i64 0, .int .i64 0, .int .i64 0, .int .i64 0, .int .i64 0, .int .i64 0, .int .i64 0, .int .i64 0, .slice none 0 0, .int .i64 0, .int .i64 0, .string ⟨#[]⟩, .slice none 0 0] 40)
    have hst := store_msg hnew rfl h16
    obtain ⟨V1, hV1⟩ : ∃ V1, V1 = ((V.alloc (.cells #[.int .i8 0, .int .i64 0, .int .i64 0, .int .i64 0, .int .i64 0, .int .i64 0, .int .i64 0, .int .i64 0, .int .i64 0, .int .i64 0, .int .i64 0, .slice none 0 0, .int .i64 0, .int .i64 0, .string ⟨#[]⟩, .slice none 0 0] 40)).setCells V.heap.size 0 cs) := ⟨_, rfl⟩
    rw [← hV1] at hst
    have hb : Below V.heap.size V V1 := ((Below.refl _ _).alloc (Nat.le_refl _) _).trans (hst.2.2.2 _ (Nat.le_refl _))
    have f1 : freeAt (V.alloc (.cells #[.int .i8 0, .int .i64 0, .int .i64 0, .int .i64 0, .int .i64 0, .int .i64 0, .int .i64 0, .int .i64 0, .int .i64 0, .int .i64 0, .int .i64 0, .slice none 0 0, .int .i64 0, .int .i64 0, .string ⟨#[]⟩, .slice none 0 0] 40)) (.pointer (some ⟨V.heap.size, 0, none⟩)) = true := freeAt_of hnew rfl
    have f2 : isMsg (.agg cs.toArray) = true := isMsg_agg h16 (by rw [hcs]; exact msgCells_one q.1 sa sc ka cap)
    have hI1 := hI.below hsw HX.out.2.2.2.1 hb
    have hsV := hI.2.2.2
    have hC := hc.1
    have hCw : C < w.heap.size := World.block_lt_of_cell? _ _ hc.2.choose_spec.1
    have hbody : ∀ V2 : World, (∃ o', V2 = V1.putObj l2 o' ∧ ∃ o, V1.heap[l2]? = some o ∧ o.isCells = false) → V2.drew.cell? ⟨W.heap.size, 0, none⟩ = some (.func (.yield l) #[] #[]) ∧ okAt V2.drew (.pointer (some ⟨V.heap.size, 0, none⟩)) = true ∧ cellsAt V2.drew (.pointer (some ⟨V.heap.size, 0, none⟩)) = cs.toArray ∧
        Calls Try.prog 33 #[.agg cs.toArray] V2.drew (CopiedC (SameR T q.1) V2.drew) ∧ TellsI w W n₀ T l J pre V2 ∧ V2.heap[V.heap.size]? = some (.cells cs.toArray 40 (0, 0)) := fun V2 ⟨o', e2, o, ho, hoc⟩ => by
      have hne : V.heap.size ≠ l2 := fun e => by rw [← e, hst.1] at ho; cases ho; cases hoc
      have hsame : ∀ x, x ≠ l2 → V2.heap[x]? = V1.heap[x]? := fun x hx => by rw [e2]; exact World.putObj_heap_other hx
      have hI2 : TellsI w W n₀ T l J pre V2 := by rw [e2]; exact HX.out.2.2.2.2.2.2 pre V1 _ (some l2) hI1 (grownBy_putObj' V1 l2 o') fun r e => by cases e; exact ⟨by omega, o, ho, hoc⟩
      have hmt := MsgThere.same (msg_there hst.1 h16) (hsame V.heap.size hne)
      refine ⟨hI2.2.1, hmt.1, hmt.2, ?_, hI2, (hsame V.heap.size hne).trans hst.1⟩
      have hi2 := hin.kept (w' := V2.drew) (S' := T) fun x hx => ⟨hx, hI2.2.2.1 x (Or.inl hx) (HX.out.1 x hx)⟩
      rw [hcs]
      exact copied_any V2.drew T q.1 sa sc ka cap (fun x hx => by have := HX.out.1 x hx; have := hI2.2.2.2; show x < V2.heap.size; omega) hi2.1 hi2.2 hgq.1.1 hgq.2.1
    have HB := Lib.hid hbody
    have HK := Lib.hid hK
    have HV := Lib.hid (And.intro hb hI1)
    have HQ := Lib.hid (And.intro hq hV1)
    have HCS := Lib.hid hl2
    have HC16 : Hid (∃ c0 c1 c2 c3 c4 c5 c6 c7 c8 c9 c10 c11 c12 c13 c14 c15 : Value, cs = [c0, c1, c2, c3, c4, c5, c6, c7, c8, c9, c10, c11, c12, c13, c14, c15]) := Lib.hid ⟨_, _, _, _, _, _, _, _, _, _, _, _, _, _, _, _, hcs⟩
    clear hbody hK hb hI1 hq hin hst hnew hp e1 hgq hI hcs hV1
    gi_wp2
    rw [← HQ.out.2]
    refine HK.out _ _ ⟨HV.out.1.size, fun k o _ hk _ => (HV.out.1.block k (Array.getElem?_eq_some_iff.1 hk).1).trans hk⟩ (fun x _ hx => HV.out.1.block x (by omega)) HV.out.2 fun V2 hV2 => ?_
    obtain ⟨d1, d2, d3, hcp, hI2, hbk⟩ := HB.out V2 hV2
    obtain ⟨⟨pre', hpl', hJ2⟩, _, hT2, hs2⟩ := hI2
    have HC := Lib.hid hcp
    have HT := Lib.hid (And.intro hJ2 (And.intro hT2 hpl'))
    have hnext : ∀ (V3 : World) (cs2 : List Value), SameR T q.1 V2.drew V3 cs2 → Below V2.drew.heap.size V2.drew V3 → YieldAt (Fence.wide.inRound l2) (n - 1 - 1 - 1) Try.prog l #[.int .i64 ((pre.length : Nat) : Int), .agg cs2.toArray] V3 fun e V4 =>
        ∃ b, e = .returned (.bool b) ∧ TellsK n₀ T l V3 V4 ∧ (b = true → J (pre' ++ [(pre.length, cs2)]) V4) ∧ (b = false → Jx (pre' ++ [(pre.length, cs2)]) V4) := fun V3 cs2 ⟨sb, sd, kb, cb, e2, hin2⟩ hb3 => by
      have hs3 : V2.heap.size ≤ V3.heap.size := hb3.size
      have hJ3 := HX.out.2.2.2.1 pre' V2 V3 none hJ2 ⟨hb3.os, hb3.tape, hb3.output, hb3.size, fun k hk _ => hb3.block k hk⟩ (fun r e => by cases e)
      refine YieldAt.mono (YieldAt.anyhow (F := Fence.wide) rfl (n - 1 - 1 - 1) l2 (HX.out.2.2.2.2.2.1 pre' (pre.length, cs2) V3 hJ3 ⟨hpl'.symm, q, sb, sd, kb, cb, HQ.out.1, e2, hin2.kept fun x hx => ⟨?_, rfl⟩⟩ (by omega))) fun e V4 h => ?_
      rotate_left
      · rcases h with ⟨he, h1, h2⟩ | ⟨he, h1, h2⟩
        · exact ⟨true, he, h2, fun _ => h1, fun e => by cases e⟩
        · exact ⟨false, he, h2, fun e => (by cases e), fun _ => h1⟩
      rcases hx with hx | hx
      · have := HX.out.1 x hx; omega
      · exact hx.2
    have hend : ∀ V3 V4 : World, Below V2.drew.heap.size V2.drew V3 → TellsK n₀ T l V3 V4 → KeepsFrom W1.heap.size V2 V4 ∧ (∀ x, n₀ ≤ x → x < w.heap.size → V4.heap[x]? = V2.heap[x]?) ∧ ∀ pre'' y, pre''.length = pre'.length + 1 → J pre'' V4 → TellsI w W n₀ T l J (pre ++ [y]) V4 := fun V3 V4 hb3 ⟨hs4, hk4⟩ => by
      have hs3 : V2.heap.size ≤ V3.heap.size := hb3.size
      have kept : ∀ x, x < V2.heap.size → (n₀ ≤ x ∨ T x) → x ≠ l → V4.heap[x]? = V2.heap[x]? := fun x hx hn hl => by
        have e1 : V3.heap[x]? = V2.heap[x]? := hb3.block x hx
        rw [Array.getElem?_eq_getElem hx] at e1 ⊢
        exact hk4 x _ e1 hn hl
      refine ⟨⟨by omega, fun k o hB hk _ => ?_⟩, fun x h1 h2 => kept x (by omega) (Or.inl h1) (by omega), fun pre'' y h1 h2 => ⟨⟨pre'', by rw [h1, hpl', List.length_append]; rfl, h2⟩, ?_, fun x hx hxw => ?_, by omega⟩⟩
      · rw [kept k (Array.getElem?_eq_some_iff.1 hk).1 (Or.inl (by omega)) (by omega)]; exact hk
      · exact (World.cell?_of_block (kept W.heap.size (by omega) (Or.inl (by omega)) (by omega))).trans d1
      · rw [kept x (by omega) hx.symm (by omega)]; exact hT2 x hx hxw
    have hcl : ∀ V3 : World, Below V2.drew.heap.size V2.drew V3 → V3.cell? ⟨W.heap.size, 0, none⟩ = some (.func (.yield l) #[] #[]) := fun V3 hb3 => (World.cell?_of_block (hb3.block W.heap.size (show W.heap.size < V2.heap.size by omega))).trans d1
    have HN := Lib.hid (And.intro hnext (And.intro hend hcl))
    clear hcp hJ2 hT2 hV2 HV HK HB f1 f2 hnext hend hcl
    obtain ⟨c0, c1, c2, c3, c4, c5, c6, c7, c8, c9, c10, c11, c12, c13, c14, c15, rfl⟩ := HC16.out
    have k0 : V2.cell? ⟨V.heap.size, 0, none⟩ = some c0 := by rw [cell_of_row _ _ 0 _ _ _ hbk]; rfl
    have k1 : V2.cell? ⟨V.heap.size, 1, none⟩ = some c1 := by rw [cell_of_row _ _ 1 _ _ _ hbk]; rfl
    have k2 : V2.cell? ⟨V.heap.size, 2, none⟩ = some c2 := by rw [cell_of_row _ _ 2 _ _ _ hbk]; rfl
    have k3 : V2.cell? ⟨V.heap.size, 3, none⟩ = some c3 := by rw [cell_of_row _ _ 3 _ _ _ hbk]; rfl
    have k4 : V2.cell? ⟨V.heap.size, 4, none⟩ = some c4 := by rw [cell_of_row _ _ 4 _ _ _ hbk]; rfl
    have k5 : V2.cell? ⟨V.heap.size, 5, none⟩ = some c5 := by rw [cell_of_row _ _ 5 _ _ _ hbk]; rfl
    have k6 : V2.cell? ⟨V.heap.size, 6, none⟩ = some c6 := by rw [cell_of_row _ _ 6 _ _ _ hbk]; rfl
    have k7 : V2.cell? ⟨V.heap.size, 7, none⟩ = some c7 := by rw [cell_of_row _ _ 7 _ _ _ hbk]; rfl
    have k8 : V2.cell? ⟨V.heap.size, 8, none⟩ = some c8 := by rw [cell_of_row _ _ 8 _ _ _ hbk]; rfl
    have k9 : V2.cell? ⟨V.heap.size, 9, none⟩ = some c9 := by rw [cell_of_row _ _ 9 _ _ _ hbk]; rfl
    have k10 : V2.cell? ⟨V.heap.size, 10, none⟩ = some c10 := by rw [cell_of_row _ _ 10 _ _ _ hbk]; rfl
    have k11 : V2.cell? ⟨V.heap.size, 11, none⟩ = some c11 := by rw [cell_of_row _ _ 11 _ _ _ hbk]; rfl
    have k12 : V2.cell? ⟨V.heap.size, 12, none⟩ = some c12 := by rw [cell_of_row _ _ 12 _ _ _ hbk]; rfl
    have k13 : V2.cell? ⟨V.heap.size, 13, none⟩ = some c13 := by rw [cell_of_row _ _ 13 _ _ _ hbk]; rfl
    have k14 : V2.cell? ⟨V.heap.size, 14, none⟩ = some c14 := by rw [cell_of_row _ _ 14 _ _ _ hbk]; rfl
    have k15 : V2.cell? ⟨V.heap.size, 15, none⟩ = some c15 := by rw [cell_of_row _ _ 15 _ _ _ hbk]; rfl
    clear hbk d2 d3
    have hmx : Try.prog.follows .mixedOrders = true := by kernel_rfl
    have hd1 : 1 ≤ n - 1 - 1 := by omega
    gi_wp2
    gi_region_with_o (first
      | (refine ⟨trivial, ?_⟩; gi_at_call 33; refine (CallsIn.inRound _ (callsIn_wide.2 HC.out)).mono ?_; rintro e V3 ⟨cs2, rfl, h162, hone, hsr, hb3⟩; obtain ⟨fn, tmps, asg, bdy, hy, hR⟩ := HN.out.1 V3 cs2 hsr hb3; have HR := Lib.hid hR; have d1w := HN.out.2.2 V3 hb3; have HB3 := Lib.hid hb3; clear hR hb3 hsr)
      | (refine HR.out.mono ?_; rintro e V4 ⟨b, rfl, hk4, ht4, hf4⟩; have HK4 := Lib.hid (And.intro hk4 (And.intro ht4 hf4)); clear hk4 ht4 hf4))
    all_goals (
      have HE := Lib.hid (HN.out.2.1 V3 V4 HB3.out HK4.out.1)
      cases b
      · gi_wp2
        exact ⟨(by first | exact HE.out.1 | (rw [← hs1]; exact HE.out.1)), HE.out.2.1, .inr (.inl ⟨rfl, rfl, _, (by rw [List.length_append, hpl']; simp; omega), HK4.out.2.2 (by trivial)⟩)⟩
      · gi_wp2
        exact ⟨(by first | exact HE.out.1 | (rw [← hs1]; exact HE.out.1)), HE.out.2.1, .inl ⟨rfl, HE.out.2.2 _ _ (by rw [List.length_append]; rfl) (HK4.out.2.1 (by trivial))⟩⟩)

end Go.Proofs.Ytklpafognbodhaa
