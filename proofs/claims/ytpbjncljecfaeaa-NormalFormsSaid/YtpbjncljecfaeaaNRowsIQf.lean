/-
  The rows on the way (rows): the iterator's contract. No condition but that the row is not too great, and that ids are numbers of 64 bits.
-/
import Derived.Sort.LoopGhostIn
import Derived.Test.YtpbjncljecfaeaaECloneQf
import Derived.Test.YtpbjncljecfaeaaNRowTQf
namespace Go.Proofs.Ytpbjncljecfaeaa
open Go.RowKit Go.Shelf
attribute [local go_sem] Oper.semAt_some
set_option linter.unusedVariables false
set_option linter.unusedSimpArgs false

/-- The k-th row on the way. -/
def seqK : Nat → List Sf → List Sf
  | 0, l => l
  | k + 1, l => (onceK (seqK k l)).1
def live (k : Nat) (l : List Sf) : Prop := ∀ j, j < k → (onceK (seqK j l)).2 = true
theorem live.succ {k : Nat} {l : List Sf} (h : live k l) (hk : (onceK (seqK k l)).2 = true) : live (k + 1) l := fun j hj => by
  by_cases e : j = k
  · rw [e]; exact hk
  · exact h j (by omega)
theorem live_len {l : List Sf} : ∀ k, live k l → (seqK k l).length + k ≤ l.length
  | 0, _ => Nat.le_refl _
  | k + 1, h => by
    have h1 := live_len k (fun j hj => h j (by omega))
    have h2 := onceK_less (h k (by omega))
    rw [seqK]; omega
/-- No block of nodes. -/
def smallB (V : World) (q : Nat) : Prop := ∀ cs T fr, V.heap[q]? = some (.cells cs T fr) → cs.size < 4
theorem fo_big {V : World} {S : Nat → Prop} : ∀ {f : Fo} {a : Option Addr}, FoAt V S f a → FoAt V (fun q => S q ∧ ¬ smallB V q) f a
  | .nil, _, _ => True.intro
  | .node _ _ k l r, a, h => by
    obtain ⟨b, off, ka, cap, e, hb, h0, h1, h2, h3, hc, hl, hr⟩ := h
    refine ⟨b, off, ka, cap, e, ⟨hb, fun hs => ?_⟩, h0, h1, h2, h3, hc, fo_big hl, fo_big hr⟩
    obtain ⟨cs, T, fr, hh⟩ := cellsB h0
    have h4 := hs cs T fr hh
    rw [cell_of_row _ _ _ _ _ _ hh] at h3
    obtain ⟨h5, _⟩ := Array.getElem?_eq_some_iff.1 h3
    omega
/-- What a body may turn: small blocks that were there before B0. -/
structure TouchS (B0 : Nat) (V V' : World) : Prop where
  os : V'.os = V.os
  tape : V'.tape = V.tape
  output : V'.output = V.output
  size : V.heap.size ≤ V'.heap.size
  block : ∀ q, q < V.heap.size → V'.heap[q]? = V.heap[q]? ∨ (q < B0 ∧ smallB V q)
theorem TouchS.refl (B0 : Nat) (V : World) : TouchS B0 V V := ⟨rfl, rfl, rfl, Nat.le_refl _, fun _ _ => Or.inl rfl⟩
theorem TouchS.trans {B0 : Nat} {V V' V'' : World} (h : TouchS B0 V V') (k : TouchS B0 V' V'') : TouchS B0 V V'' := ⟨k.os.trans h.os, k.tape.trans h.tape, k.output.trans h.output, Nat.le_trans h.size k.size, fun q hq => by
  have hs := h.size
  rcases k.block q (by omega) with h1 | h1
  · rcases h.block q hq with h2 | h2
    · exact Or.inl (h1.trans h2)
    · exact Or.inr h2
  · rcases h.block q hq with h2 | h2
    · refine Or.inr ⟨h1.1, fun cs T fr hc => h1.2 cs T fr (h2.trans hc)⟩
    · exact Or.inr h2⟩
/-- A world's first blocks. -/
def lowW (V : World) (B : Nat) : World := { V with heap := V.heap.extract 0 B }
theorem lowW_size {V : World} {B : Nat} (h : B ≤ V.heap.size) : (lowW V B).heap.size = B := by simp [lowW]; omega
theorem lowW_at {V : World} {B q : Nat} (hq : q < B) : (lowW V B).heap[q]? = V.heap[q]? := by
  simp only [lowW]
  rw [Array.getElem?_extract]
  split
  · simp
  · rename_i h
    have h2 : V.heap.size ≤ q := by omega
    rw [Array.getElem?_eq_none h2]
theorem lowW_below {V : World} {B : Nat} (h : B ≤ V.heap.size) : Below (lowW V B).heap.size (lowW V B) V := ⟨rfl, rfl, rfl, by rw [lowW_size h]; exact h, fun q hq => (lowW_at (by rw [lowW_size h] at hq; exact hq)).symm⟩
/-- The row is as it was, whatever small blocks have turned. -/
theorem RowSt.rebase {w0 V V' : World} {R : Nat} {l : List Sf} (h : RowSt w0 R l V) (ht : TouchS w0.heap.size V V') : ∃ w0', w0'.heap.size = w0.heap.size ∧ RowSt w0' R l V' := by
  obtain ⟨ga, gc, H, ra, rc, gone, rest, hI⟩ := h
  have hs := ht.size
  have hws := hI.below.size
  have hz : (lowW V' w0.heap.size).heap.size = w0.heap.size := lowW_size (by omega)
  have hk : ∀ q, w0.heap.size ≤ q → q < V.heap.size → V'.heap[q]? = V.heap[q]? := fun q h1 h2 => (ht.block q h2).resolve_right (fun h => by omega)
  refine ⟨lowW V' w0.heap.size, hz, ga, gc, H, ra, rc, gone, rest, ⟨⟨?_, ?_, hI.row.gH, ?_, fun i p hp => ?_, hI.row.rcap, ⟨fun p hp => ?_, hI.row.held.apart, hI.row.held.ok⟩, by rw [hz]; exact hI.row.lo⟩, hI.all, hI.no, by have := lowW_below (V := V') (B := w0.heap.size) (by omega); exact this, hI.few, hI.len⟩⟩
  · exact (hk R hI.row.lo.1 (lt_of_heap hI.row.obj)).trans hI.row.obj
  · rw [hz]; exact owns_kept hI.row.grow (fun g cur hg hgo => hk g (owns_bounds hI.row.grow hgo).1 (lt_of_heap hg))
  · obtain ⟨cs, hcs⟩ := hI.row.hblk
    exact ⟨cs, (hk H hI.row.lo.2 (lt_of_heap hcs)).trans hcs⟩
  · obtain ⟨o, h1, h2⟩ := hI.row.hrow i p hp
    obtain ⟨cs, hcs⟩ := hI.row.hblk
    exact ⟨o, h1, (World.cell?_of_block (a := ⟨H, o + i, none⟩) (hk H hI.row.lo.2 (lt_of_heap hcs))).trans h2⟩
  · have hh := hI.row.held.held p hp
    have hkk : ∀ q, p.2.own p.1 q → V'.heap[q]? = V.heap[q]? := fun q hq => hk q (hh.lt q hq).1 (hh.lt q hq).2
    have h1 := hh.kept hkk
    refine ⟨h1.cells, ⟨hh.lies.1, ?_⟩, by rw [hz]; exact h1.texts, h1.nodes, by rw [hz]; exact h1.base, by rw [hz]; exact h1.mbase⟩
    have h2 : FoAt V (fun q => q < w0.heap.size) p.2.x.s.sub.kids p.2.x.a := hh.lies.2.kept fun q hq => ⟨hq, hI.below.block q hq⟩
    refine (fo_big h2).kept fun q hq => ⟨by rw [hz]; exact hq.1, (lowW_at hq.1).trans ?_⟩
    exact (ht.block q (by have := hq.1; omega)).resolve_right (fun h => hq.2 h.2)
/-- The blocks below B are as they were. -/
structure SameLow (B : Nat) (V V' : World) : Prop where
  os : V'.os = V.os
  tape : V'.tape = V.tape
  output : V'.output = V.output
  block : ∀ q, q < B → V'.heap[q]? = V.heap[q]?
theorem RowSt.low {w0 V V' : World} {R R' : Nat} {l l' : List Sf} (h : RowSt w0 R l V) (h' : RowSt w0 R' l' V') : SameLow w0.heap.size V V' := by
  obtain ⟨_, _, _, _, _, _, _, hI⟩ := h
  obtain ⟨_, _, _, _, _, _, _, hI'⟩ := h'
  exact ⟨hI'.below.os.trans hI.below.os.symm, hI'.below.tape.trans hI.below.tape.symm, hI'.below.output.trans hI.below.output.symm, fun q hq => (hI'.below.block q hq).trans (hI.below.block q hq).symm⟩
theorem RowSt.size {w0 V : World} {R : Nat} {l : List Sf} (h : RowSt w0 R l V) : w0.heap.size ≤ V.heap.size := by
  obtain ⟨_, _, _, _, _, _, _, hI⟩ := h
  exact hI.below.size
/-- A row that begins. -/
theorem row_begin {w V W : World} {vs : List SV} {hbs : List Nat} (hl : hbs.length = vs.length) (hrow : V.heap[w.heap.size]? = some (.cells (hbs.map hptr).toArray 43 (0, 0))) (hh : ∀ (i b : Nat) (x : SV), hbs[i]? = some b → vs[i]? = some x → HeldAt w V b (HV.new x)) (hn : hbs.Nodup) (hz : ∀ x ∈ vs, foSize x.s.sub.kids + 1 ≤ 100000) (hw : ∀ x ∈ vs, Wf64 x.s) (hb : Below w.heap.size w V) (hlen : vs.length ≤ 10000) (hW : W = V.alloc (.cells #[.slice none 0 0, .slice (some ⟨w.heap.size, 0, none⟩) hbs.length hbs.length] 77)) : RowSt w V.heap.size (steps vs) W := by
  have hbW : Below V.heap.size V W := by rw [hW]; exact (Below.refl _ _).alloc (Nat.le_refl _) _
  have hzl : (zipH hbs vs).length = hbs.length := by have := congrArg List.length (zipH_fst hbs vs hl); simpa using this
  refine ⟨none, 0, w.heap.size, some ⟨w.heap.size, 0, none⟩, hbs.length, [], zipH hbs vs, ⟨⟨?_, World.ownsRow_nil _ _ _ _, by simp [Value.ownBlock], ⟨_, (hbW.block _ (lt_of_heap hrow)).trans hrow⟩, fun i p hp => ⟨0, rfl, ?_⟩, by rw [hzl]; exact Nat.le_refl _, ?_, ⟨hb.size, Nat.le_refl _⟩⟩, by rw [show sfs [] = [] from rfl, List.nil_append]; exact zipH_sfs _ _ hl, fun j x y h => by simp [sfs] at h, hb.trans (hbW.mono hb.size), fun p hp => ?_, by rw [List.nil_append, hzl]; omega⟩⟩
  · have := heap_alloc_new V (.cells #[.slice none 0 0, .slice (some ⟨w.heap.size, 0, none⟩) hbs.length hbs.length] 77)
    rw [hW, this, hzl]; rfl
  · have h1 : hbs[i]? = some p.1 := by rw [← zipH_fst hbs vs hl, List.getElem?_map, hp]; rfl
    rw [Nat.zero_add, World.cell?_of_block (a := ⟨w.heap.size, i, none⟩) (hbW.block _ (lt_of_heap hrow)), cell_of_row _ _ _ _ _ _ hrow]
    simp [h1]
  · rw [List.nil_append]
    exact (hold_row hl hh hn hz hw).below hbW
  · rw [List.nil_append] at hp ⊢
    obtain ⟨i, x, _, _, h3⟩ := zipH_at _ _ p hp
    rw [h3, hzl]
    show ([] : List SV).length + _ ≤ _
    simp; omega
def REnd (W : World) (l : List Sf) (J : Nat → Nat → World → Prop) (Jx : World → Prop) (V : World) : Prop := (∃ k R w0, w0.heap.size = W.heap.size ∧ live k l ∧ (onceK (seqK k l)).2 = false ∧ RowSt w0 R (seqK k l) V ∧ J (k + 1) R V) ∨ Jx V
def BodyR (P : Program) (m yl B0 : Nat) (l : List Sf) (J : Nat → Nat → World → Prop) (Jx : World → Prop) : Prop :=
  ∀ (k R : Nat) (w0 V : World), w0.heap.size = B0 → live k l → RowSt w0 R (seqK k l) V → J k R V → YieldAt Fence.wide m P yl #[.pointer (some ⟨R, 0, none⟩)] V fun e V' => TouchS B0 V V' ∧ ((e = .returned (.bool true) ∧ J (k + 1) R V') ∨ (e = .returned (.bool false) ∧ Jx V'))
def RI1 (W : World) (l : List Sf) (J : Nat → Nat → World → Prop) (R k : Nat) (V : World) : Prop := ∃ w0, w0.heap.size = W.heap.size ∧ live k l ∧ RowSt w0 R (seqK k l) V ∧ J k R V
set_option maxRecDepth 100000 in
set_option maxHeartbeats 8000000 in
theorem rows1_any {m yl : Nat} {vs : List SV} {J : Nat → Nat → World → Prop} {Jx : World → Prop} (W : World) (NB : Nat) (la : Option Addr) (n c : Nat) (hN : W.cell? ⟨NB, 0, none⟩ = some (.slice la n c)) (hr : RowS W la n c vs) (hn6 : n ≤ 10000) (hz : ∀ x ∈ vs, foSize x.s.sub.kids + 1 ≤ 100000) (hw : ∀ x ∈ vs, Wf64 x.s)
    (hB : BodyR Try.prog m yl W.heap.size (steps vs) J Jx) (hJ : ∀ {k R : Nat} {V V' : World}, J k R V → SameLow W.heap.size V V' → J k R V') (h0 : ∀ R, W.heap.size ≤ R → J 0 R W) :
    Calls Try.prog 35 #[.func (.yield yl) #[] #[], .pointer (some ⟨NB, 0, none⟩)] W (fun e V => (∃ v, e = .returned v) ∧ REnd W (steps vs) J Jx V) := by
  have hho := hold_any W la n c vs hr.len hr.row hn6
  obtain ⟨l, hl⟩ : ∃ l, l = steps vs := ⟨_, rfl⟩
  rw [← hl] at hB ⊢
  have hln : vs.length ≤ 10000 := by rw [← hr.len]; exact hn6
  have HHO := Lib.hid (And.intro hho (And.intro hln (And.intro hz (And.intro hw hl))))
  have HB := Lib.hid hB
  have HJ : Hid (∀ {k R : Nat} {V V' : World}, J k R V → SameLow W.heap.size V V' → J k R V') := Lib.hid hJ
  have H0 := Lib.hid h0
  clear hho hr hz hw hB hJ h0 hln hl hn6
  refine (callsIn_wide (n := 6)).1 ?_
  refine callsIn_of_wp Try.func35 rfl trivial ?_ rfl
  simp only [Try.ntmps35, List.size_toArray, List.length_cons, List.length_nil, Nat.reduceAdd, Nat.reduceSub, Array.replicate_succ, Array.replicate_zero, List.push_toArray, List.append_toArray, List.nil_append, List.cons_append]
  gi_wp2
  refine ⟨trivial, ?_⟩
  refine (callsIn_wide.2 HHO.out.1).mono ?_
  rintro e V ⟨hbs, rfl, hbl, hrow, hheld, hnd, _, hb⟩
  obtain ⟨W2, hW2⟩ : ∃ W2, W2 = V.alloc (.cells #[.slice none 0 0, .slice (some ⟨W.heap.size, 0, none⟩) hbs.length hbs.length] 77) := ⟨_, rfl⟩
  have hst : RowSt W V.heap.size (steps vs) W2 := row_begin hbl hrow hheld hnd HHO.out.2.2.1 HHO.out.2.2.2.1 hb HHO.out.2.1 hW2
  obtain ⟨R, hR⟩ : ∃ R, R = V.heap.size := ⟨_, rfl⟩
  rw [← hR, ← HHO.out.2.2.2.2] at hst
  have hlow : SameLow W.heap.size W W2 := by
    have hbW : Below V.heap.size V W2 := by rw [hW2]; exact (Below.refl _ _).alloc (Nat.le_refl _) _
    have h := hb.trans (hbW.mono hb.size)
    exact ⟨h.os, h.tape, h.output, h.block⟩
  have HI0 : Hid (RI1 W l J R 0 W2) := Lib.hid ⟨W, rfl, fun j hj => by omega, hst, HJ.out (H0.out R (by rw [hR]; exact hb.size)) hlow⟩
  have HW2 := Lib.hid hW2
  have HRE := Lib.hid hR
  obtain ⟨hn, hhn⟩ : ∃ hn, hn = hbs.length := ⟨_, rfl⟩
  rw [← hhn] at hW2 HW2 ⊢
  clear hst hlow hbl hrow hheld hnd hb hhn hR H0 hN hW2
  gi_wp2
  rw [← HW2.out, ← HRE.out]
  clear HW2 HRE
  gi_loopg [4] (l.length + 2) (fun gk more wr => (more = .bool true ∧ ∃ k, gk + k = l.length + 2 ∧ k ≤ l.length ∧ Hid (RI1 W l J R k wr)) ∨ (more = .bool false ∧ gk = 0 ∧ Hid (REnd W l J Jx wr)))
  case atStart => exact Or.inl ⟨rfl, 0, rfl, Nat.zero_le _, HI0⟩
  case round =>
    clear HI0
    rcases hrel with ⟨rfl, k, hgk, hkl, hh⟩ | ⟨rfl, hgk, hh⟩
    · obtain ⟨w0, hw0, hlv, hst, hJ⟩ := hh.out
      obtain ⟨fn, tmps, assign, body, hy, hRR⟩ := YieldAt.anyDepthW 5 (HB.out k R w0 wr hw0 hlv hst hJ)
      have HRR := Lib.hid hRR
      have HK := Lib.hid (And.intro hgk (And.intro hkl (And.intro hw0 (And.intro hlv hst))))
      clear hRR hgk hkl hw0 hlv hst hJ hh
      gi_wp2
      refine HRR.out.mono ?_
      clear HRR hy
      rintro e w2 ⟨htc, (⟨rfl, hj⟩ | ⟨rfl, hx⟩)⟩
      · obtain ⟨hgk, hkl, hw0, hlv, hst⟩ := HK.out
        rw [← hw0] at htc
        obtain ⟨w0', hz', hst'⟩ := hst.rebase htc
        have hsh := shorten_any hst'
        have HSH := Lib.hid (And.intro hsh (And.intro hst' (And.intro (hz'.trans hw0) hj)))
        clear hsh hst' hst hz' hw0 htc hj hgk hkl hlv
        gi_wp2
        refine ⟨trivial, ?_⟩
        refine (callsIn_wide.2 HSH.out.1).mono ?_
        rintro e w3 ⟨rfl, hst3⟩
        obtain ⟨b, hb⟩ : ∃ b, b = (onceK (seqK k l)).2 := ⟨_, rfl⟩
        rw [← hb]
        have hlow := RowSt.low HSH.out.2.1 hst3
        rw [HSH.out.2.2.1] at hlow
        have hj3 := HJ.out HSH.out.2.2.2 hlow
        cases b with
        | true =>
          have hlv2 : live (k + 1) l := HK.out.2.2.2.1.succ hb.symm
          have hN2 : Hid (RI1 W l J R (k + 1) w3) := Lib.hid ⟨w0', HSH.out.2.2.1, hlv2, hst3, hj3⟩
          have hk2 := live_len (k + 1) hlv2
          have hgk := HK.out.1
          clear hlow hj3 hst3 hb hlv2
          gi_wp2
          gi_roundg (gk - 1)
          case measure => omega
          case rel => exact Or.inl ⟨rfl, k + 1, by omega, by omega, hN2⟩
        | false =>
          have hN2 : Hid (REnd W l J Jx w3) := Lib.hid (Or.inl ⟨k, R, w0', HSH.out.2.2.1, HK.out.2.2.2.1, hb.symm, by rw [onceK_not hb.symm] at hst3; exact hst3, hj3⟩)
          have hgk := HK.out.1
          have hkl := HK.out.2.1
          clear hlow hj3 hst3 hb
          gi_wp2
          gi_roundg (0)
          case measure => omega
          case rel => exact Or.inr ⟨rfl, rfl, hN2⟩
      · have HE := Lib.hid hx
        clear hx htc
        gi_wp2
        go_end0
        exact ⟨⟨_, rfl⟩, Or.inr HE.out⟩
    · have HE := hh
      clear hh
      gi_wp2
      refine ⟨fun f h => (by cases h), ?_⟩
      gi_wp2
      go_end0
      exact ⟨⟨_, rfl⟩, HE.out⟩
end Go.Proofs.Ytpbjncljecfaeaa
