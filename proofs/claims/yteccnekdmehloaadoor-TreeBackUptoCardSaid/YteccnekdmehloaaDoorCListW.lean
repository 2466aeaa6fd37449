/-
  A reader of layer 3 reads the nodes below a node, one behind the other. No condition.
  list over nodes: n of them, read one behind the other. No condition.
-/
import Derived.Test.YteccnekdmehloaaDoorCNode
import Derived.Deep.LoopGhost
namespace Go.Proofs.YteccnekdmehloaaDoor
open Go.RowKit
open Extern.Stop (cell)

theorem pList_err {α : Type} {one : Nat → Nat → Got (α × Nat)} {m p k m1 q e : Nat} {l : List α} (h : pList one k m p = .ok ((l, m1), q)) (he : one m1 q = .error e) : ∀ n, k < n → pList one n m p = .error e
  | 0, h0 => by omega
  | n + 1, h0 => by
    by_cases hk : k = n
    · subst hk
      simp only [pList, h, he]
    · simp only [pList, pList_err h he n (by omega)]
theorem foOf_snoc : ∀ (l : List Tr) (t : Tr), foOfC (l ++ [t]) = foSnoc (foOfC l) 0 0 (t.id, t.kind, t.text) t.kids
  | [], _ => rfl
  | x :: l, t => by simp [foOfC, foSnoc, foOf_snoc l t]

/-- Blocks since w, without the row's own. -/
def MidN (w wr : World) (rv : Value) : Nat → Prop := fun x => w.heap.size ≤ x ∧ x < wr.heap.size ∧ rv.ownBlock ≠ some x
def nodeCells (t : Tr) (ka : Option Addr) (cap : Nat) : List Value := [.int .i64 t.id, .int .i64 t.kind, .string t.text, .slice ka (foLen t.kids) cap]
structure LInv (w : World) (nb rb fb b db : Nat) (dv : Value) (s : Rd) (depth : Nat) (rv : Value) (k : Nat) (xs : List Value) (l : List Tr) (mk qk : Nat) (wr : World) : Prop where
  st : NodeSt wr nb rb fb b dv { s with pos := qk } mk
  box : wr.heap[db]? = some (.cells #[.int .i64 (depth : Int)] 3 (0, 0))
  tch : Touched w wr (NbR b nb)
  row : wr.ownsRow w.heap.size 25 4 rv k xs
  fo : FoRow wr (MidN w wr rv) (foOfC l) xs
  len : l.length = k
theorem LInv.next {w wr w2 w3 : World} {nb rb fb b db : Nat} {dv : Value} {s : Rd} {depth : Nat} {rv : Value} {k : Nat} {xs : List Value} {l : List Tr} {mk qk m2 q2 gg cap' : Nat} {t : Tr} {ka : Option Addr} {kcap : Nat} {o : Obj} (h : LInv w nb rb fb b db dv s depth rv k xs l mk qk wr) (hl : LowSt w.heap.size nb rb fb b dv) (hdb : db < w.heap.size) (hdn : db ≠ b ∧ db ≠ nb)
    (hcp : foLen t.kids ≤ kcap) (hk : FoAt w2 (Fresh wr w2) t.kids ka) (hst : NodeSt w2 nb rb fb b dv { s with pos := q2 } m2) (ht : Touched wr w2 (NbR b nb))
    (hrow : w3.ownsRow w.heap.size 25 4 (.slice (some ⟨gg, 0, none⟩) (k + 1) cap') (k + 1) (xs ++ nodeCells t ka kcap)) (hg : (w2.alloc o).grownBy w3 rv.ownBlock) (hat : rv.ownBlock = some gg ∨ gg = w2.heap.size + 1) :
    LInv w nb rb fb b db dv s depth (.slice (some ⟨gg, 0, none⟩) (k + 1) cap') (k + 1) (xs ++ nodeCells t ka kcap) (l ++ [t]) m2 q2 w3 := by
  have hrv : ∀ g, rv.ownBlock = some g → w.heap.size ≤ g ∧ g < wr.heap.size := fun g hg => owns_bounds h.row hg
  have hnr : ∀ x, w.heap.size ≤ x → ¬ NbR b nb x := fun x hx e => by
    have h1 := hl.1
    have h2 := hl.2.1
    rcases e with e | e <;> omega
  have hs1 := h.tch.size
  have hs2 := ht.size
  have hs3 := hg.size
  rw [World.size_alloc] at hs3
  have t3 : Touched w2 w3 (fun x => rv.ownBlock = some x) := ((Touched.refl w2 _).alloc o).trans (S' := fun x => rv.ownBlock = some x) ⟨hg.os, hg.tape, hg.output, hg.size, fun x hx hn => hg.block x hx (fun e => hn e.symm)⟩ (fun x hx => Or.inl hx)
  have tch3 : Touched w w3 (NbR b nb) := (h.tch.trans ht (fun x hx => Or.inl hx)).trans t3 (fun x hx => Or.inr (hrv x hx).1)
  refine ⟨hst.keep t3 (fun e => by have := hrv _ e; have := hl.1; omega) (fun g hg' e => by have := hrv _ e; have := hl.2.2.2.2 g hg'; omega) (fun e => by have := hrv _ e; have := hl.2.1; omega) (fun e => by have := hrv _ e; have := hl.2.2.1; omega) (fun e => by have := hrv _ e; have := hl.2.2.2.1; omega), ?_, tch3, hrow, ?_, by simp [h.len]⟩
  · rw [t3.block db (by omega) (fun e => by have := hrv _ e; omega), ht.block db (by omega) (fun e => by rcases e with e | e; exact hdn.1 e; exact hdn.2 e)]
    exact h.box
  · rw [foOf_snoc]
    have f1 : FoRow w3 (MidN w w3 (.slice (some ⟨gg, 0, none⟩) (k + 1) cap')) (foOfC l) xs := h.fo.kept fun x hx => by
      have hx3 : rv.ownBlock ≠ some x := hx.2.2
      have hxw := hx.1
      have hxr := hx.2.1
      refine ⟨⟨hx.1, by omega, fun e => ?_⟩, ?_⟩
      · simp only [Value.ownBlock, Option.some.injEq] at e
        rcases hat with h' | h'
        · exact hx3 (by rw [h', e])
        · omega
      · rw [t3.block x (by omega) hx3, ht.block x hxr (hnr x hxw)]
    have f2 : FoAt w3 (MidN w w3 (.slice (some ⟨gg, 0, none⟩) (k + 1) cap')) t.kids ka := hk.kept fun x hx => by
      have hx1 := hx.1
      have hx2 := hx.2
      have hne : rv.ownBlock ≠ some x := fun e => by have := hrv x e; omega
      refine ⟨⟨by omega, by omega, fun e => ?_⟩, t3.block x hx2 hne⟩
      simp only [Value.ownBlock, Option.some.injEq] at e
      rcases hat with h' | h'
      · exact hne (by rw [h', e])
      · omega
    exact f1.snoc f2 kcap hcp

def ListOut (w : World) (nb rb fb b : Nat) (dv : Value) (s : Rd) : Got (List Tr × Nat) → Ending → World → Prop
  | .ok ((l, m), q), e, w' => ∃ a n cap, e = .returned (.slice a n cap) ∧ n = l.length ∧ n ≤ cap ∧ FoAt w' (Fresh w w') (foOfC l) a ∧ NodeSt w' nb rb fb b dv { s with pos := q } m ∧ Touched w w' (NbR b nb)
  | .error p, e, w' => e = .panicked fell ∧ RdAt w' b dv { s with pos := p, bad := true } ∧ Touched w w' (NbR b nb)
theorem pNode_le (d : List UInt8) : ∀ (f depth m p : Nat) (t : Tr) (m' q : Nat), pNode d f depth m p = .ok ((t, m'), q) → m' ≤ 200
  | 0, _, _, _, _, _, _, h => by simp [pNode] at h
  | f + 1, depth, m, p, t, m', q, h => by
    unfold pNode at h
    split at h
    · cases h
    · rename_i hc
      have hl : ∀ n mm pp l mm' qq, mm ≤ 200 → pList (fun m' q => pNode d f (depth + 1) m' q) n mm pp = .ok ((l, mm'), qq) → mm' ≤ 200 := by
        intro n
        induction n with
        | zero => intro mm pp l mm' qq h0 h1; simp only [pList] at h1; cases h1; exact h0
        | succ n ih =>
          intro mm pp l mm' qq h0 h1
          simp only [pList] at h1
          cases hp : pList (fun m' q => pNode d f (depth + 1) m' q) n mm pp with
          | error e => rw [hp] at h1; cases h1
          | ok x =>
            obtain ⟨⟨l1, m1⟩, q1⟩ := x
            rw [hp] at h1
            simp only at h1
            cases hq : pNode d f (depth + 1) m1 q1 with
            | error e => rw [hq] at h1; cases h1
            | ok y =>
              obtain ⟨⟨t1, m2⟩, q2⟩ := y
              rw [hq] at h1
              cases h1
              exact pNode_le d f (depth + 1) m1 q1 t1 _ _ hq
      split at h
      · cases h
      · split at h
        · cases h
        · split at h
          · cases h
          · split at h
            · cases h
            · split at h
              · cases h
              · rename_i hll
                cases h
                exact hl _ _ _ _ _ _ (by omega) hll
end Go.Proofs.YteccnekdmehloaaDoor
namespace Go.Proofs.YteccnekdmehloaaDoor
open Go.RowKit
open Extern.Stop (cell)

theorem Tryd.infoNC : (Tryd.prog.info? 25).map (fun i => (i.size, i.bytes, i.zero.map (fun z => z.cells.size))) = some (4, 56, some 4) := by kernel_rfl
theorem pList_le (d : List UInt8) (f depth : Nat) : ∀ n mm pp l mm' qq, mm ≤ 200 → pList (fun m' q => pNode d f depth m' q) n mm pp = .ok ((l, mm'), qq) → mm' ≤ 200 := by
  intro n
  induction n with
  | zero => intro mm pp l mm' qq h0 h1; simp only [pList] at h1; cases h1; exact h0
  | succ n ih =>
    intro mm pp l mm' qq h0 h1
    simp only [pList] at h1
    cases hp : pList (fun m' q => pNode d f depth m' q) n mm pp with
    | error e => rw [hp] at h1; cases h1
    | ok x =>
      obtain ⟨⟨l1, m1⟩, q1⟩ := x
      rw [hp] at h1
      simp only at h1
      cases hq : pNode d f depth m1 q1 with
      | error e => rw [hq] at h1; cases h1
      | ok y =>
        obtain ⟨⟨t1, m2⟩, q2⟩ := y
        rw [hq] at h1
        cases h1
        exact pNode_le d f depth m1 q1 t1 _ _ hq

set_option maxRecDepth 100000 in
set_option maxHeartbeats 2000000 in
theorem list_any (nb rb fb b : Nat) (dv : Value) (d : List UInt8) (f depth db : Nat) (hn : NodeC nb rb fb b dv d f (depth + 1)) (hd40 : depth ≤ 1000) (w : World) (s : Rd) (m : Nat) (hs : s.data = d) (h : NodeSt w nb rb fb b dv s m) (hm : m ≤ 200) (hdb : w.heap[db]? = some (.cells #[.int .i64 (depth : Int)] 3 (0, 0))) (hdn : db ≠ nb) (n : Nat) (hn2 : n ≤ 100000000) :
    Calls Tryd.prog 63 #[.int .i64 (n : Int), .func (.func 64) #[] #[.pointer (some ⟨fb, 0, none⟩), .pointer (some ⟨db, 0, none⟩)]] w (ListOut w nb rb fb b dv s (pList (fun m' q => pNode d f (depth + 1) m' q) n m s.pos)) := by
  have hlow := h.low
  have hdb1 := lt_of_heap hdb
  have hdb2 : db ≠ b := fun e => by
    have h1 := h.rd.here
    rw [← e, hdb] at h1; cases h1
  have H := Lib.hid (And.intro hlow (And.intro hdb1 (And.intro (And.intro hdb2 hdn) (And.intro hs (And.intro hn (And.intro hd40 hm))))))
  obtain ⟨out, hout⟩ : ∃ out, out = pList (fun m' q => pNode d f (depth + 1) m' q) n m s.pos := ⟨_, rfl⟩
  rw [← hout]
  have HO := Lib.hid hout
  have H0 : Hid (LInv w nb rb fb b db dv s depth (.slice none 0 0) 0 [] [] m s.pos w) := Lib.hid ⟨h, hdb, Touched.refl _ _, World.ownsRow_nil _ _ _ _, rfl, rfl⟩
  obtain ⟨i0, z0, hi0, hz0, hz1, hz2, hz3⟩ := info_wideC Tryd.infoNC
  have HI := Lib.hid (And.intro hi0 (And.intro hz0 (And.intro hz1 (And.intro hz2 hz3))))
  clear hlow hdb hdb1 hdb2 hdn hs hn hd40 hm h hout hi0 hz0 hz1 hz2 hz3
  go_enter Tryd.func63, Tryd.ntmps63
  go_wp2_with fail
  go_loopg [5, 7] n (fun gk rv i wr => ∃ (k : Nat) (xs : List Value) (l : List Tr) (mk qk : Nat), k + gk = n ∧ i = .int .i64 (k : Int) ∧ Hid (LInv w nb rb fb b db dv s depth rv k xs l mk qk wr ∧ pList (fun m' q => pNode d f (depth + 1) m' q) k m s.pos = .ok ((l, mk), qk)))
  case atStart => exact ⟨0, [], [], m, s.pos, by omega, rfl, Lib.hid ⟨H0.out, rfl⟩⟩
  case round =>
    obtain ⟨k, xs, l, mk, qk, hkn, rfl, HL⟩ := hrel
    obtain ⟨ra, rc, hrv⟩ := owns_slice HL.out.1.row
    subst hrv
    by_cases hlt : k < n
    · have hkl : (k : Int) < (n : Int) := by omega
      have hsub := sub_any nb rb fb b dv d f depth db H.out.2.2.2.2.1 H.out.2.2.2.2.2.1 wr { s with pos := qk } mk H.out.2.2.2.1 HL.out.1.st (pList_le d f (depth + 1) k m s.pos l mk qk H.out.2.2.2.2.2.2 HL.out.2) HL.out.1.box
      cases hp : pNode d f (depth + 1) mk qk with
      | error p =>
        have hsub2 : Calls Tryd.prog 64 #[.pointer (some ⟨fb, 0, none⟩), .pointer (some ⟨db, 0, none⟩)] wr (NodeOut wr nb rb fb b dv { s with pos := qk } (.error p)) := by rw [← hp]; exact hsub
        have HS := Lib.hid hsub2
        have ho : out = .error p := by rw [HO.out]; exact pList_err HL.out.2 hp n hlt
        subst ho
        clear hsub hsub2 hp HO
        go_wp2_with (go_at_call 64; refine HS.out.mono ?_; rintro e w1 ⟨rfl, h1, h2⟩)
        exact ⟨rfl, rfl, h1, HL.out.1.tch.trans h2 (fun x hx => Or.inl hx)⟩
      | ok x =>
        obtain ⟨⟨t, m2⟩, q2⟩ := x
        have hsub2 : Calls Tryd.prog 64 #[.pointer (some ⟨fb, 0, none⟩), .pointer (some ⟨db, 0, none⟩)] wr (NodeOut wr nb rb fb b dv { s with pos := qk } (.ok ((t, m2), q2))) := by rw [← hp]; exact hsub
        have HS := Lib.hid hsub2
        have hnx : pList (fun m' q => pNode d f (depth + 1) m' q) (k + 1) m s.pos = .ok ((l ++ [t], m2), q2) := by simp only [pList, HL.out.2, hp]
        have HX := Lib.hid hnx
        clear hsub hsub2 hp hnx
        go_wp2_with (first
          | (go_at_call 64; refine HS.out.mono ?_; clear HS; rintro e w2 ⟨v, rfl, ⟨ka, kcap, rfl, hcp, hk⟩, h1, h2⟩; obtain ⟨ln, hln⟩ : ∃ ln, ln = foLen t.kids := ⟨_, rfl⟩; rw [← hln]; have hrow2 := owns_keep HL.out.1.row (fun g hg => h2.block g (owns_lt HL.out.1.row g hg) (fun e => by have h3 := (owns_bounds HL.out.1.row hg).1; have h4 := H.out.1.1; have h5 := H.out.1.2.1; rcases e with e | e <;> omega)); have hsz := HL.out.1.tch.size; have H2 := Lib.hid (And.intro hcp (And.intro hk (And.intro h1 (And.intro h2 (And.intro hln (And.intro hrow2 (Nat.le_trans hsz h2.size))))))); clear hcp hk h1 h2 hln hrow2 hsz)
          | (at_builtin; refine wpList_append_lies _ rfl (.tmp 9) (.tmp 12) _ rfl w.heap.size 25 i0 z0 4 56 Tryd.underlying23 HI.out.1 HI.out.2.1 HI.out.2.2.1 HI.out.2.2.2.1 HI.out.2.2.2.2 (by omega) (.slice ra k rc) k xs rfl (H2.out.2.2.2.2.2.1.alloc _) ⟨w2.heap.size, 0, none⟩ 1 1 [.int .i64 t.id, .int .i64 t.kind, .string t.text, .slice ka ln kcap] rfl rfl (World.news_of_block (cs := #[.int .i64 t.id, .int .i64 t.kind, .string t.text, .slice ka ln kcap]) (t := 25) (fr := (0, 0)) (heap_alloc_new w2 _)) (by simp [Value.oneCell']) (by omega) (by unfold maxLen; omega) (by omega) (by have := H2.out.2.2.2.2.2.2; simp; omega) (w2.heap.size + 1) (by simp) ?_; intro gg cap' w3 hown3 hgrow hat hlt3; have H3 := Lib.hid (And.intro hown3 (And.intro hgrow hat)); clear hown3 hgrow hat hlt3))
        have h5 := H2.out.2.2.2.2.1
        have h6 := H3.out.1
        have h7 := H3.out.2.1
        rw [h5] at h6
        have h8 := LInv.next HL.out.1 H.out.1 H.out.2.1 H.out.2.2.1 H2.out.1 H2.out.2.1 H2.out.2.2.1 H2.out.2.2.2.1 h6 h7 H3.out.2.2
        go_roundg (gk - 1)
        case measure => omega
        case rel => exact ⟨k + 1, _, l ++ [t], m2, q2, by omega, by go_num, Lib.hid ⟨h8, HX.out⟩⟩
    · have hkk : k = n := by omega
      have HKK := Lib.hid hkk
      have hkl : ¬ (k : Int) < (n : Int) := by omega
      have ho : out = .ok ((l, mk), qk) := by rw [HO.out, ← hkk]; exact HL.out.2
      subst ho
      clear hkk HO
      go_wp2_with fail
      go_ret
      have hrow := HL.out.1.row
      refine ⟨ra, k, rc, rfl, HL.out.1.len.symm, ?_, ?_, HL.out.1.st, HL.out.1.tch⟩
      · rcases hrow.2 with ⟨h1, h2⟩ | ⟨g', cap', cur, hv, _, hh, h3, _⟩
        · omega
        · cases hv; exact h3
      · rcases hrow.2 with ⟨h1, h2⟩ | ⟨g', cap', cur, hv, hB, hh, _⟩
        · have h3 : l = [] := List.eq_nil_of_length_eq_zero (by have := HL.out.1.len; omega)
          subst h3
          exact True.intro
        · cases hv
          refine FoRow.lies (g := g') ⟨hB, lt_of_heap hh⟩ 0 (HL.out.1.fo.kept fun x hx => ⟨⟨hx.1, hx.2.1⟩, rfl⟩) fun j u hu => ?_
          rw [Nat.zero_add]
          exact owns_cell hrow rfl j u hu
end Go.Proofs.YteccnekdmehloaaDoor
