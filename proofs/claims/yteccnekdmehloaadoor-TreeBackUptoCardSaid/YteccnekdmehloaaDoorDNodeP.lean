/-
  What the document's node keeps while it reads a node's kids, and its refusing. No condition.
-/
import Derived.Test.YteccnekdmehloaaDoorDChain
import Derived.Deep.LoopGhost
namespace Go.Proofs.YteccnekdmehloaaDoor
open Go.RowKit
open Extern.Stop (cell)

/-- What the document's node answers of a reader that has not failed. -/
def NodeR (w : World) (rb : Nat) (a : Option Addr) (cap : Nat) (s : Rd) (o : Got (Tr × Nat)) (e : Ending) (w' : World) : Prop :=
  ∃ (id kd : Int) (tx : ByteArray) (ka : Option Addr) (kl kc : Nat) (m' : Int), e = .returned (.agg #[.int .i64 id, .int .i64 kd, .string tx, .slice ka kl kc]) ∧
    RfAt w' rb a cap (aft s o) m' ∧ Touched w w' (fun k => k = rb) ∧
    ∀ t mm q, o = .ok ((t, mm), q) → m' = ((mm : Nat) : Int) ∧ TrAt w' (Fresh w w') (.agg #[.int .i64 id, .int .i64 kd, .string tx, .slice ka kl kc]) t
/-- Blocks behind the box, without the row's own. -/
def MidD (xb : Nat) (wr : World) (rv : Value) : Nat → Prop := fun x => xb < x ∧ x < wr.heap.size ∧ rv.ownBlock ≠ some x
structure DInv (w : World) (rb : Nat) (a : Option Addr) (cap : Nat) (s : Rd) (O : Got (Tr × Nat)) (one : Nat → Nat → Got (Tr × Nat)) (m0 q0 xb : Nat) (id kd : Int) (tx : ByteArray) (rv : Value) (k : Nat) (xs : List Value) (sk : Rd) (mk : Int) (wr : World) : Prop where
  rd : RfAt wr rb a cap sk mk
  tch : Touched w wr (fun k => k = rb)
  res : wr.heap[w.heap.size]? = some (.cells zeroN 25 (0, 0))
  box : wr.heap[xb]? = some (.cells #[.int .i64 id, .int .i64 kd, .string tx, rv] 25 (0, 0))
  row : wr.ownsRow (xb + 1) 25 4 rv k xs
  low : rb < w.heap.size ∧ w.heap.size < xb ∧ (0 < s.data.length → ∀ ad, a = some ad → ad.block < w.heap.size)
  state : (sk.bad = true ∧ ∃ e, O = .error e ∧ sk = { s with pos := e, bad := true }) ∨ ∃ l mm qk, sk = { s with pos := qk } ∧ mk = ((mm : Nat) : Int) ∧ pList one k m0 q0 = .ok ((l, mm), qk) ∧ l.length = k ∧ FoRow wr (MidD xb wr rv) (foOfC l) xs
theorem DInv.next {w wr w2 w3 : World} {rb : Nat} {a : Option Addr} {cap : Nat} {s : Rd} {O : Got (Tr × Nat)} {one : Nat → Nat → Got (Tr × Nat)} {m0 q0 xb : Nat} {id kd : Int} {tx : ByteArray} {rv : Value} {k n : Nat} {xs : List Value} {sk : Rd} {mk : Int}
    {l : List Tr} {mm qk gg cap' : Nat} {id2 kd2 : Int} {tx2 : ByteArray} {ka2 : Option Addr} {kl2 kc2 : Nat} {m' : Int} {o1 o2 : Obj}
    (h : DInv w rb a cap s O one m0 q0 xb id kd tx rv k xs sk mk wr) (hb : s.bad = false) (hO : ∀ e, pList one n m0 q0 = .error e → O = .error e) (hkn : k < n)
    (e1 : sk = { s with pos := qk }) (e3 : pList one k m0 q0 = .ok ((l, mm), qk)) (e4 : l.length = k) (e5 : FoRow wr (MidD xb wr rv) (foOfC l) xs)
    (h2 : RfAt w2 rb a cap (aft sk (one mm qk)) m') (t2 : Touched wr w2 (fun k => k = rb))
    (v2 : ∀ t mm' q, one mm qk = .ok ((t, mm'), q) → m' = ((mm' : Nat) : Int) ∧ TrAt w2 (Fresh wr w2) (.agg #[.int .i64 id2, .int .i64 kd2, .string tx2, .slice ka2 kl2 kc2]) t)
    (hrow : w3.ownsRow (xb + 1) 25 4 (.slice (some ⟨gg, 0, none⟩) (k + 1) cap') (k + 1) (xs ++ [.int .i64 id2, .int .i64 kd2, .string tx2, .slice ka2 kl2 kc2])) (hg : ((w2.alloc o1).alloc o2).grownBy w3 rv.ownBlock) (hat : rv.ownBlock = some gg ∨ gg = w2.heap.size + 1 + 1) :
    DInv w rb a cap s O one m0 q0 xb id kd tx (.slice (some ⟨gg, 0, none⟩) (k + 1) cap') (k + 1) (xs ++ [.int .i64 id2, .int .i64 kd2, .string tx2, .slice ka2 kl2 kc2]) (aft sk (one mm qk)) m' (w3.setCell ⟨xb, 3, none⟩ (.slice (some ⟨gg, 0, none⟩) (k + 1) cap')) := by
  obtain ⟨l1, l2, l3⟩ := h.low
  have hrv : ∀ g, rv.ownBlock = some g → xb + 1 ≤ g ∧ g < wr.heap.size := fun g hg => owns_bounds h.row hg
  have hs1 := h.tch.size
  have hs2 := t2.size
  have hs3 := hg.size
  rw [World.size_alloc, World.size_alloc] at hs3
  have hxb := lt_of_heap h.box
  have t3 : Touched w2 w3 (fun x => rv.ownBlock = some x) := (((Touched.refl w2 _).alloc o1).alloc o2).trans (S' := fun x => rv.ownBlock = some x) ⟨hg.os, hg.tape, hg.output, hg.size, fun x hx hn => hg.block x hx (fun e => hn e.symm)⟩ (fun x hx => Or.inl hx)
  have t4 : Touched w3 (w3.setCell ⟨xb, 3, none⟩ (.slice (some ⟨gg, 0, none⟩) (k + 1) cap')) (fun x => x = xb) := Touched.setCell (w := w3) (S := fun x => x = xb) (a := ⟨xb, 3, none⟩) rfl _
  have hsd : (aft sk (one mm qk)).data = s.data := by rw [aft_data, e1]
  have hb3 : w3.heap[xb]? = some (.cells #[.int .i64 id, .int .i64 kd, .string tx, rv] 25 (0, 0)) := by
    rw [t3.block xb (by omega) (fun e => by have := hrv _ e; omega), t2.block xb hxb (by omega)]; exact h.box
  have hgg : xb < gg := by
    rcases hat with e | e
    · have := hrv gg e; omega
    · omega
  have hskip : ∀ x, xb < x → x ≠ gg → x < w2.heap.size → rv.ownBlock ≠ some x → (w3.setCell ⟨xb, 3, none⟩ (.slice (some ⟨gg, 0, none⟩) (k + 1) cap')).heap[x]? = w2.heap[x]? := fun x h1 h2 h3 h4 => by
    rw [t4.block x (by omega) (by omega), t3.block x h3 h4]
  refine ⟨(h2.kept t3 (fun e => by have := hrv _ e; omega) (fun h0 ad ea _ e => by rw [hsd] at h0; have := l3 h0 ad ea; have := hrv _ e; omega)).kept t4 (by omega) (fun h0 ad ea _ e => by rw [hsd] at h0; have := l3 h0 ad ea; omega),
    ((h.tch.trans t2 (fun x hx => Or.inl hx)).trans t3 (fun x hx => Or.inr (by have := hrv x hx; omega))).trans t4 (fun x hx => Or.inr (by omega)), ?_, ?_, ?_, h.low, ?_⟩
  · rw [t4.block _ (by omega) (by omega), t3.block _ (by omega) (fun e => by have := hrv _ e; omega), t2.block _ (by omega) (by omega)]; exact h.res
  · exact heap_setCell_same w3 xb 3 _ _ _ hb3
  · exact owns_keep hrow (fun g hg' => by
      simp only [Value.ownBlock, Option.some.injEq] at hg'
      subst hg'
      exact Below.heap_setCell _ _ _ _ (by show gg ≠ xb; omega))
  · cases ho : one mm qk with
    | error e =>
      rw [aft_err (by rw [e1]; exact hb) rfl]
      exact Or.inl ⟨rfl, e, hO e (pList_err e3 ho n hkn), by rw [e1]⟩
    | ok y =>
      obtain ⟨⟨t, mm'⟩, q⟩ := y
      obtain ⟨f1, ka, kcap, f2, f3, f4⟩ := v2 t mm' q ho
      simp only [Value.agg.injEq, Array.mk.injEq, List.cons.injEq, Value.int.injEq, Value.string.injEq, Value.slice.injEq, and_true, true_and] at f2
      obtain ⟨rfl, rfl, rfl, rfl, rfl, rfl⟩ := f2
      rw [aft_ok (by rw [e1]; exact hb) rfl]
      refine Or.inr ⟨l ++ [t], mm', q, by rw [e1], f1, by simp only [pList, e3, ho], by simp [e4], ?_⟩
      rw [foOf_snoc]
      have fsz : (w3.setCell ⟨xb, 3, none⟩ (.slice (some ⟨gg, 0, none⟩) (k + 1) cap')).heap.size = w3.heap.size := by simp [World.setCell]
      refine FoRow.snoc (f4.kept fun x hx => ?_) kc2 f3 (e5.kept fun x hx => ?_)
      · have hx1 := hx.1
        have hx2 := hx.2
        have hn1 : rv.ownBlock ≠ some x := fun e => by have := hrv x e; omega
        have hn2 : x ≠ gg := fun e => by
          rcases hat with e' | e'
          · exact hn1 (by rw [e', e])
          · omega
        refine ⟨⟨by omega, by rw [fsz]; omega, fun e => ?_⟩, hskip x (by omega) hn2 hx2 hn1⟩
        simp only [Value.ownBlock, Option.some.injEq] at e
        exact hn2 e.symm
      · have hx1 := hx.1
        have hx2 := hx.2.1
        have hn1 := hx.2.2
        have hn2 : x ≠ gg := fun e => by
          rcases hat with e' | e'
          · exact hn1 (by rw [e', e])
          · omega
        refine ⟨⟨hx1, by rw [fsz]; omega, fun e => ?_⟩, (hskip x hx1 hn2 (by omega) hn1).trans (t2.block x hx2 (by omega))⟩
        simp only [Value.ownBlock, Option.some.injEq] at e
        exact hn2 e.symm
theorem RfAt.low {w : World} {rb : Nat} {a : Option Addr} {cap : Nat} {s : Rd} {m : Int} (h : RfAt w rb a cap s m) : 0 < s.data.length → ∀ ad, a = some ad → ad.block < w.heap.size := fun h0 ad e => by
  subst e
  exact h.byt.lt h0
theorem DInv.done {w wr : World} {rb : Nat} {a : Option Addr} {cap : Nat} {s : Rd} {O : Got (Tr × Nat)} {one : Nat → Nat → Got (Tr × Nat)} {m0 q0 xb : Nat} {id kd : Int} {tx : ByteArray} {ra : Option Addr} {rc k n : Nat} {xs : List Value} {sk : Rd} {mk : Int} {z0 z1 z2 z3 : Value}
    (h : DInv w rb a cap s O one m0 q0 xb id kd tx (.slice ra k rc) k xs sk mk wr) (hb : s.bad = false) (hend : sk.bad = true ∨ k = n) (hOk : sk.bad = false → ∀ l m2 q5, pList one n m0 q0 = .ok ((l, m2), q5) → O = .ok ((⟨id, kd, tx, foOfC l⟩, m2), q5)) (e0 : z0 = .int .i64 id) (e1 : z1 = .int .i64 kd) (e2 : z2 = .string tx) (e3 : z3 = .slice ra k rc) :
    NodeR w rb a cap s O (.returned (.agg #[.int .i64 id, .int .i64 kd, .string tx, .slice ra k rc])) ((((wr.setCell ⟨w.heap.size, 0, none⟩ z0).setCell ⟨w.heap.size, 1, none⟩ z1).setCell ⟨w.heap.size, 2, none⟩ z2).setCell ⟨w.heap.size, 3, none⟩ z3) := by
  subst e0 e1 e2 e3
  obtain ⟨l1, l2, l3⟩ := h.low
  obtain ⟨s1, s2, s3⟩ := set4 h.res (.int .i64 id) (.int .i64 kd) (.string tx) (.slice ra k rc)
  generalize ((((wr.setCell ⟨w.heap.size, 0, none⟩ (.int .i64 id)).setCell ⟨w.heap.size, 1, none⟩ (.int .i64 kd)).setCell ⟨w.heap.size, 2, none⟩ (.string tx)).setCell ⟨w.heap.size, 3, none⟩ (.slice ra k rc)) = W at s1 s2 s3 ⊢
  have hsd : sk.data = s.data := by
    rcases h.state with ⟨_, e, _, h2⟩ | ⟨l, mm, qk, h1, _⟩
    · rw [h2]
    · rw [h1]
  have hrd := h.rd.kept s2 (by omega) (fun h0 ad ea _ e => by rw [hsd] at h0; have := l3 h0 ad ea; omega)
  refine ⟨id, kd, tx, ra, k, rc, mk, rfl, ?_, h.tch.trans s2 (fun x hx => Or.inr (by omega)), ?_⟩
  · rcases h.state with ⟨_, e, h1, h2⟩ | ⟨l, mm, qk, h1, h2, h3, h4, h5⟩
    · rw [aft_err hb h1, ← h2]; exact hrd
    · have hkn : k = n := by
        rcases hend with he | he
        · rw [h1, hb] at he; cases he
        · exact he
      rw [aft_ok hb (hOk (by rw [h1, hb]) l mm qk (by rw [← hkn]; exact h3)), ← h1]; exact hrd
  · intro t mm' q ho
    rcases h.state with ⟨_, e, h1, h2⟩ | ⟨l, mm, qk, h1, h2, h3, h4, h5⟩
    · rw [h1] at ho; cases ho
    · have hkn : k = n := by
        rcases hend with he | he
        · rw [h1, hb] at he; cases he
        · exact he
      have := hOk (by rw [h1, hb]) l mm qk (by rw [← hkn]; exact h3)
      rw [this] at ho
      cases ho
      have hrow := h.row
      refine ⟨h2, ra, rc, ?_, ?_, ?_⟩
      · show Value.agg #[_, _, _, _] = .agg #[_, _, _, .slice ra (foLen (foOfC l)) rc]
        rw [foLen_ofC, h4]
      · rw [show (Tr.mk id kd tx (foOfC l)).kids = foOfC l from rfl, foLen_ofC, h4]
        rcases hrow.2 with ⟨h1, h2⟩ | ⟨g', cap', cur, hv, _, hh, h3, _⟩
        · omega
        · cases hv; exact h3
      · rcases hrow.2 with ⟨h1, h2⟩ | ⟨g', cap', cur, hv, hB, hh, _⟩
        · have h3 : l = [] := List.eq_nil_of_length_eq_zero (by omega)
          subst h3
          exact True.intro
        · cases hv
          have hgl := lt_of_heap hh
          refine FoRow.lies (g := g') ⟨by omega, by rw [s3]; exact hgl⟩ 0 (h5.kept fun x hx => ?_) fun j u hu => ?_
          · have hx1 := hx.1
            have hx2 := hx.2.1
            exact ⟨⟨by omega, by rw [s3]; exact hx2⟩, s2.block x hx2 (by omega)⟩
          · rw [Nat.zero_add]
            have hx := owns_cell hrow rfl j u hu
            rw [World.cell?_of_block (a := ⟨g', j, none⟩) (s2.block g' hgl (by omega))]
            exact hx
end Go.Proofs.YteccnekdmehloaaDoor
