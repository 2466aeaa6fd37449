/-
  What was put is read as it was: a tree, a step, a row of steps. No condition but that numbers are such.
  Trees and steps that came in: what is in them are numbers. No condition.
  What 'SameNode' answers of two trees that lie in memory. No condition but that no row of kids is longer than a slice may be.
  What 'SameStep' and 'SameSteps' answer of what is the same; what was put and what is read of it lie in memory alike. No condition but that no row is longer than a slice may be.
  The calls of a reader of layer 3: what Small, Text, Node, Steps and Count tell of any reader. No condition but that a size is at least 1.
  A reader made since w, over the four things put one behind the other: what its calls tell. No condition.
-/
import Derived.Test.YteccnekdmehloaaDoorCFwdN
import Derived.Test.YteccnekdmehloaaDoorCInv
import Derived.Deep.RegionHeld3
import Derived.StillTailTactics
import Derived.Test.YteccnekdmehloaaDoorCToldN
namespace Go.Proofs.YteccnekdmehloaaDoor
open Go.RowKit
open Extern.Stop (cell)

/-- A tree as a reader takes it. -/
def Tr.good (t : Tr) : Prop := okD 1 t ∧ foSize t.kids + 1 ≤ 200
theorem pTree_fwd {d : List UInt8} {t : Tr} {p : Nat} {rest : List UInt8} (hin : t.in64) (hd : d.drop p = encT t ++ rest) :
    (t.good → pTree d p = .ok (nT t, p + (encT t).length)) ∧ (¬ t.good → ∃ e, pTree d p = .error e) := by
  have h := pNode_fwd d 40 1 rfl t 0 p rest hin hd
  simp only [Nat.zero_add] at h
  constructor
  · intro hg
    unfold pTree
    rw [h.1 hg]
  · intro hg
    obtain ⟨e, he⟩ := h.2 hg
    exact ⟨e, by unfold pTree; rw [he]⟩
def Stp.in64 (s : Stp) : Prop := (-128 ≤ s.op ∧ s.op ≤ 127) ∧ inI64 s.id ∧ inI64 s.parent ∧ inI64 s.place ∧ s.text.size ≤ 9223372036854775807 ∧ s.sub.in64
def nS (s : Stp) : Stp := { s with sub := nT s.sub }
end Go.Proofs.YteccnekdmehloaaDoor
namespace Go.Proofs.YteccnekdmehloaaDoor
open Go.ChangeShapes Go.WideShapes Go.ChangeAt Go.RowKit
open Extern.Stop (cell)

def foNum : Fo → Prop
  | .nil => True
  | .node _ _ k l r => (inI64 k.1 ∧ inI64 k.2.1) ∧ foNum l ∧ foNum r
def numT (t : Tr) : Prop := (inI64 t.id ∧ inI64 t.kind) ∧ foNum t.kids
def Fit64 (t : Tr) : Prop := FitsC t ∧ numT t
def FitS64 (s : Stp) : Prop := FitsC s.sub ∧ (-128 ≤ s.op ∧ s.op ≤ 127) ∧ inI64 s.id ∧ inI64 s.parent ∧ inI64 s.place ∧ numT s.sub
theorem foIn_of : ∀ {f : Fo}, foNum f → foFit f → foText f ≤ 9223372036854775807 → foIn f
  | .nil, _, _, _ => True.intro
  | .node _ _ _ _ _, h, g, t => by
    simp only [foText] at t
    exact ⟨⟨h.1.1, h.1.2, by omega, g.1⟩, foIn_of h.2.1 g.2.1 (by omega), foIn_of h.2.2 g.2.2 (by omega)⟩
theorem Fit64.in64 {t : Tr} (h : Fit64 t) (ht : trText t ≤ 9223372036854775807) : t.in64 := by
  unfold trText at ht
  exact ⟨⟨h.2.1.1, h.2.1.2, by omega, h.1.1⟩, foIn_of h.2.2 h.1.2 (by omega)⟩
theorem FitS64.in64 {s : Stp} (h : FitS64 s) (hs : s.text.size ≤ 9223372036854775807) (ht : trText s.sub ≤ 9223372036854775807) : s.in64 :=
  ⟨h.2.1, h.2.2.1, h.2.2.2.1, h.2.2.2.2.1, hs, Fit64.in64 ⟨h.1, h.2.2.2.2.2⟩ ht⟩

section
variable {H : Type} {enc : TypeId × Value → H} {w : World} {base : Nat} {spare : Nat → Bool} {held : Bool}

end

end Go.Proofs.YteccnekdmehloaaDoor
namespace Go.Proofs.YteccnekdmehloaaDoor
open Go.RowKit

def SameCC (t u : Tr) (w : World) (e : Ending) (w' : World) : Prop := e = .returned (.bool (sameT t u)) ∧ Below w.heap.size w w'
theorem SameCC.mk {t u : Tr} {w w' : World} {b : Bool} (h : sameT t u = b) (hb : Below w.heap.size w w') : SameCC t u w (.returned (.bool b)) w' := ⟨by rw [h], hb⟩
end Go.Proofs.YteccnekdmehloaaDoor
namespace Go.Proofs.YteccnekdmehloaaDoor
open Go.RowKit

theorem foLen_nF : ∀ f : Fo, foLen (nF f) = foLen f
  | .nil => rfl
  | .node _ _ _ _ r => by simp [nF, foLen, foLen_nF r]
theorem FoAt.un {w : World} {S : Nat → Prop} : ∀ {f : Fo} {a : Option Addr}, FoAt w S (nF f) a → FoAt w S f a
  | .nil, _, _ => True.intro
  | .node _ _ k l r, a, h => by
    obtain ⟨b, off, ka, cap, e, hb, h0, h1, h2, h3, hc, hl, hr⟩ := h
    rw [foLen_nF] at h3 hc
    exact ⟨b, off, ka, cap, e, hb, h0, h1, h2, h3, hc, hl.un, hr.un⟩
theorem TrAt.un {w : World} {S : Nat → Prop} {v : Value} {t : Tr} (h : TrAt w S v (nT t)) : TrAt w S v t := by
  obtain ⟨ka, cap, e, hc, hk⟩ := h
  have el : foLen (nT t).kids = foLen t.kids := foLen_nF _
  rw [el] at e hc
  exact ⟨ka, cap, e, hc, hk.un⟩
theorem StepsAt.un {w : World} {S : Nat → Prop} {a : Option Addr} {l : List Stp} (h : StepsAt w S a (l.map nS)) : StepsAt w S a l := fun h0 => by
  obtain ⟨b, off, e, hb, hc⟩ := h (by rw [List.length_map]; exact h0)
  refine ⟨b, off, e, hb, fun k x hx => ?_⟩
  obtain ⟨ka, cap, c0, c1, c2, c3, c4, c5, c6, c7, c8, hp, hf⟩ := hc k (nS x) (by rw [List.getElem?_map, hx]; rfl)
  have el : foLen (nS x).sub.kids = foLen x.sub.kids := foLen_nF _
  rw [el] at c8 hp
  exact ⟨ka, cap, c0, c1, c2, c3, c4, c5, c6, c7, c8, hp, hf.un⟩

end Go.Proofs.YteccnekdmehloaaDoor
namespace Go.Proofs.YteccnekdmehloaaDoor
open Go.RowKit
open Extern.Stop (cell)

/-- What a call tells: z, the zero thing, if the reader failed before or fails now. -/
def MethR {α : Type} (z : Value) (V : α → Value → World → Prop) (w : World) (b : Nat) (dv : Value) (s : Rd) (o : Got α) (v : Value) (w' : World) : Prop :=
  if s.bad then v = z ∧ RdAt w' b dv s ∧ Touched w w' (fun k => k = b) else
  match o with
  | .ok (x, q) => V x v w' ∧ RdAt w' b dv { s with pos := q } ∧ Touched w w' (fun k => k = b)
  | .error p => v = z ∧ RdAt w' b dv { s with pos := p, bad := true } ∧ Touched w w' (fun k => k = b)
theorem meth_of {α : Type} {f : FuncId} {args : Array Value} {z : Value} {V : α → Value → World → Prop} {w : World} {b : Nat} {dv : Value} {s : Rd} {o : Got α}
    (hbad : s.bad = true → Calls Tryd.prog f args w (ZeroC z w b dv s))
    (hok : ∀ x q, o = .ok (x, q) → s.bad = false → Calls Tryd.prog f args w (ReadC (fun v w' => V x v w') w b dv { s with pos := q }))
    (herr : ∀ p, o = .error p → s.bad = false → Calls Tryd.prog f args w (ZeroC z w b dv { s with pos := p, bad := true })) :
    Calls Tryd.prog f args w (RetC (MethR z V w b dv s o)) := by
  cases hb : s.bad with
  | true => exact (hbad hb).mono fun e w' ⟨h1, h2, h3⟩ => ⟨z, h1, by unfold MethR; rw [if_pos hb]; exact ⟨rfl, h2, h3⟩⟩
  | false =>
    have hne : ¬ s.bad = true := by rw [hb]; decide
    cases o with
    | error p => exact (herr p rfl hb).mono fun e w' ⟨h1, h2, h3⟩ => ⟨z, h1, by unfold MethR; rw [if_neg hne]; exact ⟨rfl, h2, h3⟩⟩
    | ok x => exact (hok x.1 x.2 rfl hb).mono fun e w' ⟨v, h1, h2, h3, h4⟩ => ⟨v, h1, by unfold MethR; rw [if_neg hne]; exact ⟨h2, h3, h4⟩⟩

set_option maxHeartbeats 1000000 in
theorem Node_any (w : World) (b : Nat) (dv : Value) (s : Rd) (h : RdAt w b dv s) : Calls Tryd.prog 21 #[.pointer (some ⟨b, 0, none⟩)] w (RetC (MethR zeroNV (TreeV w) w b dv s (pTree s.data s.pos))) := by
  have hmf : ∀ (fn : Fn) (first cap : Array Value) (w : World), (Instr.makeFunc fn first cap).run Tryd.prog w = .ok (.func fn first cap) w := fun _ _ _ _ => rfl
  have hlt := lt_of_heap h.here
  have hdl := owns_lt h.owns
  have ht : Calls Tryd.prog 44 #[.pointer (some ⟨b, 0, none⟩), .func (.func 45) #[.pointer (some ⟨b, 0, none⟩)] #[]] (w.alloc (.cells zeroN 25)) (RetC (MethR zeroNV (TreeV (w.alloc (.cells zeroN 25))) (w.alloc (.cells zeroN 25)) b dv s (pTree s.data s.pos))) :=
    meth_of (fun hb => told_node_bad _ b dv s (h.alloc _) hb _)
      (fun x q ho hb => told_node_ok _ b dv s { s with pos := q } x (h.alloc _) hb hb (by have := node_any (WB (w.alloc (.cells zeroN 25)) b) b dv s (((h.alloc _).alloc _).alloc _); rw [ho] at this; exact this))
      (fun p ho hb => told_node_fell _ b dv s (h.alloc _) hb p (by have := node_any (WB (w.alloc (.cells zeroN 25)) b) b dv s (((h.alloc _).alloc _).alloc _); rw [ho] at this; exact this))
  have hform : ∀ v w', MethR zeroNV (TreeV (w.alloc (.cells zeroN 25))) (w.alloc (.cells zeroN 25)) b dv s (pTree s.data s.pos) v w' → (∃ i k t a n c, v = .agg #[.int .i64 i, .int .i64 k, .string t, .slice a n c]) ∧ Touched (w.alloc (.cells zeroN 25)) w' (fun k => k = b) := by
    intro v w' hm
    unfold MethR at hm
    split at hm
    · exact ⟨⟨0, 0, ⟨#[]⟩, none, 0, 0, hm.1⟩, hm.2.2⟩
    · split at hm
      · obtain ⟨⟨ka, kcap, hv, _⟩, _, h3⟩ := hm
        exact ⟨⟨_, _, _, _, _, _, hv⟩, h3⟩
      · exact ⟨⟨0, 0, ⟨#[]⟩, none, 0, 0, hm.1⟩, hm.2.2⟩
  have HT := Lib.hid (And.intro ht (And.intro hform (And.intro hlt hdl)))
  clear ht hform hlt hdl h
  go_enter Tryd.func21, Tryd.ntmps21
  go_wp2_with (go_at_call 44; refine HT.out.1.mono ?_; rintro e w1 ⟨v, rfl, hm⟩; obtain ⟨⟨i, k, t, a, n, c, rfl⟩, h3⟩ := HT.out.2.1 _ _ hm; have hg : w1.heap[w.heap.size]? = some (.cells zeroN 25 (0, 0)) := (h3.block _ (by simp) (by have := HT.out.2.2.1; omega)).trans (heap_alloc_new w _); have d0 : w1.cell? ⟨w.heap.size, 0, none⟩ = some (.int .i64 0) := (by rw [cell_of_row w1 _ 0 _ _ _ hg]; rfl); have d1 : w1.cell? ⟨w.heap.size, 1, none⟩ = some (.int .i64 0) := (by rw [cell_of_row w1 _ 1 _ _ _ hg]; rfl); have d2 : w1.cell? ⟨w.heap.size, 2, none⟩ = some (.string ⟨#[]⟩) := (by rw [cell_of_row w1 _ 2 _ _ _ hg]; rfl); have d3 : w1.cell? ⟨w.heap.size, 3, none⟩ = some (.slice none 0 0) := (by rw [cell_of_row w1 _ 3 _ _ _ hg]; rfl); have df : ∀ j, w1.frozen? ⟨w.heap.size, j, none⟩ = false := (fun j => frozen_of_row w1 _ j _ _ hg); have H1 := Lib.hid (And.intro hg (And.intro hm h3)); clear hg hm h3)
  obtain ⟨g1, g2, g3⟩ := H1.out
  obtain ⟨s1, s2, s3⟩ := set4 g1 (.int .i64 i) (.int .i64 k) (.string t) (.slice a n c)
  refine bodyPost_ret (results_cell_row rfl _ _ w.heap.size 25 _ (0, 0) _ rfl s1 Tryd.underlying25 rfl (by kernel_rfl)) rfl ?_
  have hb := HT.out.2.2.1
  have hd := HT.out.2.2.2
  have tt : ∀ {W : World}, Touched (w.alloc (.cells zeroN 25)) w1 (fun k => k = b) → Touched w1 W (fun k => k = w.heap.size) → Touched w W (fun k => k = b) := fun h1 h2 => (((Touched.refl w _).alloc _).trans h1 (fun k hk => Or.inl hk)).trans h2 (fun k hk => Or.inr (by omega))
  refine ⟨_, rfl, ?_⟩
  unfold MethR at g2 ⊢
  split
  · rename_i hbad
    rw [if_pos hbad] at g2
    exact ⟨g2.1, g2.2.1.kept s2 (by omega) (fun g hg e => by have := hd g hg; omega), tt g3 s2⟩
  · rename_i hbad
    rw [if_neg hbad] at g2
    cases hp : pTree s.data s.pos with
    | error p =>
      rw [hp] at g2
      exact ⟨g2.1, g2.2.1.kept s2 (by omega) (fun g hg e => by have := hd g hg; omega), tt g3 s2⟩
    | ok x =>
      rw [hp] at g2
      obtain ⟨⟨ka, kcap, hv, hcp, hk⟩, g4, _⟩ := g2
      refine ⟨⟨ka, kcap, hv, hcp, hk.kept fun y hy => ?_⟩, g4.kept s2 (by omega) (fun g hg e => by have := hd g hg; omega), tt g3 s2⟩
      have hy1 := hy.1
      rw [World.size_alloc] at hy1
      exact ⟨⟨by omega, by rw [s3]; exact hy.2⟩, s2.block y hy.2 (by omega)⟩
end Go.Proofs.YteccnekdmehloaaDoor
namespace Go.Proofs.YteccnekdmehloaaDoor
open Go.RowKit
open Extern.Stop (cell)

theorem Tr.small.in64 {t : Tr} (h : t.small) (hf : Fit64 t) : t.in64 := hf.in64 (by have := h.2; omega)
theorem Stp.small.in64 {s : Stp} (h : s.small) (hf : FitS64 s) : s.in64 := hf.in64 (by have := h.2; omega) (by have := h.1.2; omega)
section
variable {α : Type} {z : Value} {V : α → Value → World → Prop} {w w' : World} {b : Nat} {dv v : Value} {s : Rd} {o : Got α}
theorem MethR.right {x : α} {q : Nat} (h : MethR z V w b dv s o v w') (hb : s.bad = false) (ho : o = .ok (x, q)) : V x v w' ∧ RdAt w' b dv { s with pos := q } ∧ Touched w w' (fun k => k = b) := by
  subst ho
  unfold MethR at h
  rw [if_neg (by rw [hb]; decide)] at h
  exact h
theorem MethR.wrong {p : Nat} (h : MethR z V w b dv s o v w') (hb : s.bad = false) (ho : o = .error p) : v = z ∧ RdAt w' b dv { s with pos := p, bad := true } ∧ Touched w w' (fun k => k = b) := by
  subst ho
  unfold MethR at h
  rw [if_neg (by rw [hb]; decide)] at h
  exact h
theorem MethR.failed (h : MethR z V w b dv s o v w') (hb : s.bad = true) : v = z ∧ RdAt w' b dv s ∧ Touched w w' (fun k => k = b) := by
  unfold MethR at h
  rw [if_pos hb] at h
  exact h
end
/-- A reader that was made since w; below w nothing has turned. -/
structure RS (w wr : World) (b : Nat) (dv : Value) (s : Rd) : Prop where
  rd : RdAt wr b dv s
  low : w.heap.size ≤ b ∧ ∀ g, dv.ownBlock = some g → w.heap.size ≤ g
  bel : Below w.heap.size w wr
theorem RS.next {w wr w' : World} {b : Nat} {dv : Value} {s s' : Rd} (h : RS w wr b dv s) (hr : RdAt w' b dv s') (ht : Touched wr w' (fun k => k = b)) : RS w w' b dv s' :=
  ⟨hr, h.low, h.bel.trans (ht.below h.bel.size (fun k hk => by have := h.low.1; omega))⟩
theorem RS.alloc {w wr : World} {b : Nat} {dv : Value} {s : Rd} (h : RS w wr b dv s) (o : Obj) : RS w (wr.alloc o) b dv s := ⟨h.rd.alloc o, h.low, h.bel.alloc h.bel.size o⟩
theorem NewC.rs {w wr w' : World} {bs : List UInt8} {e : Ending} (hw : Below w.heap.size w wr) (h : NewC wr bs e w') : ∃ b dv, e = .returned (.pointer (some ⟨b, 0, none⟩)) ∧ RS w w' b dv ⟨bs, 0, false⟩ := by
  obtain ⟨b, dv, rfl, h1, h2, h3, h4⟩ := h
  have hs := hw.size
  exact ⟨b, dv, rfl, h3, ⟨by omega, fun g hg => by have := h2 g hg; omega⟩, hw.trans (h4.mono hs)⟩

section
variable {w wr : World} {b : Nat} {dv : Value} {n : Int} {s : ByteArray} {t : Tr} {l : List Stp}
end
end Go.Proofs.YteccnekdmehloaaDoor
