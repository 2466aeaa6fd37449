/-
  The document's Node. No condition.
  The document's Steps. No condition.
  The document's New and End, and both readers side by side. No condition.
-/
import Derived.Test.YteccnekdmehloaaDoorDNodeP
import Derived.Deep.LoopGhost
import Derived.Test.YteccnekdmehloaaDoorCBackR
import Derived.Test.YteccnekdmehloaaDoorCWakes
namespace Go.Proofs.YteccnekdmehloaaDoor
open Go.RowKit
open Extern.Stop (cell)

/-- What the document's Node answers. -/
def TreeC (w : World) (rb : Nat) (a : Option Addr) (cap : Nat) (s : Rd) (o : Got Tr) (e : Ending) (w' : World) : Prop :=
  ∃ (id kd : Int) (tx : ByteArray) (ka : Option Addr) (kl kc : Nat) (m' : Int), e = .returned (.agg #[.int .i64 id, .int .i64 kd, .string tx, .slice ka kl kc]) ∧
    RfAt w' rb a cap (aft s o) m' ∧ Touched w w' (fun k => k = rb) ∧
    (Fz s o → Value.agg #[.int .i64 id, .int .i64 kd, .string tx, .slice ka kl kc] = zeroNV) ∧
    ∀ t q, s.bad = false → o = .ok (t, q) → TrAt w' (Fresh w w') (.agg #[.int .i64 id, .int .i64 kd, .string tx, .slice ka kl kc]) t
end Go.Proofs.YteccnekdmehloaaDoor
namespace Go.Proofs.YteccnekdmehloaaDoor
open Go.RowKit
open Extern.Stop (cell)

/-- What the document's Steps answers. -/
def StpsC (w : World) (rb : Nat) (a : Option Addr) (cap : Nat) (s : Rd) (o : Got (List Stp)) (e : Ending) (w' : World) : Prop :=
  ∃ (ra : Option Addr) (n rc : Nat) (m' : Int), e = .returned (.slice ra n rc) ∧ RfAt w' rb a cap (aft s o) m' ∧ Touched w w' (fun k => k = rb) ∧
    (Fz s o → ra = none ∧ n = 0 ∧ rc = 0) ∧ ∀ l q, s.bad = false → o = .ok (l, q) → n = l.length ∧ n ≤ rc ∧ StepsAt w' (Fresh w w') ra l
end Go.Proofs.YteccnekdmehloaaDoor
namespace Go.Proofs.YteccnekdmehloaaDoor
open Go.RowKit
open Extern.Stop (cell)

/-- What a reading is worth. -/
def vl {α : Type} (s : Rd) (o : Got α) (z : α) : α := if s.bad then z else match o with
  | .ok (x, _) => x
  | .error _ => z
theorem vl_fz {α : Type} {s : Rd} {o : Got α} {z : α} (h : Fz s o) : vl s o z = z := by
  unfold vl
  rcases h with h | ⟨p, rfl⟩
  · rw [if_pos h]
  · split <;> rfl
theorem vl_ok {α : Type} {s : Rd} {o : Got α} {z x : α} {q : Nat} (hb : s.bad = false) (ho : o = .ok (x, q)) : vl s o z = x := by
  unfold vl; rw [if_neg (by rw [hb]; decide), ho]
section
variable {α : Type} {z v : Value} {x0 : α} {V : α → Value → World → Prop} {w w' : World} {b : Nat} {dv : Value} {s : Rd} {o : Got α} {rb : Nat} {a : Option Addr} {cap : Nat} {m : Int}
theorem MethR.val (hz : V x0 z w') (h : MethR z V w b dv s o v w') : V (vl s o x0) v w' ∧ RdAt w' b dv (aft s o) ∧ Touched w w' (fun k => k = b) := by
  by_cases hf : Fz s o
  · rw [vl_fz hf]
    rcases hf with hb | ⟨p, ho⟩
    · obtain ⟨rfl, h1, h2⟩ := h.failed hb
      exact ⟨hz, by rw [aft_stuck _ hb]; exact h1, h2⟩
    · by_cases hb : s.bad = true
      · obtain ⟨rfl, h1, h2⟩ := h.failed hb
        exact ⟨hz, by rw [aft_stuck _ hb]; exact h1, h2⟩
      · have hb : s.bad = false := by simpa using hb
        obtain ⟨rfl, h1, h2⟩ := h.wrong hb ho
        exact ⟨hz, by rw [aft_err hb ho]; exact h1, h2⟩
  · obtain ⟨hb, x, q, ho⟩ := not_fz hf
    obtain ⟨h0, h1, h2⟩ := h.right hb ho
    rw [vl_ok hb ho, aft_ok hb ho]
    exact ⟨h0, h1, h2⟩
theorem BothC.val {F : α → Value} {e : Ending} (h : BothC F w rb a cap s m o x0 e w') : e = .returned (F (vl s o x0)) ∧ RfAt w' rb a cap (aft s o) m ∧ Touched w w' (fun k => k = rb) := by
  obtain ⟨x, rfl, h1, h2, h3, h4⟩ := h
  refine ⟨?_, h1, h2⟩
  by_cases hf : Fz s o
  · rw [vl_fz hf, h3 hf]
  · obtain ⟨hb, y, q, ho⟩ := not_fz hf
    rw [vl_ok hb ho, h4 y q hb ho]
end
def zeroTC : Tr := ⟨0, 0, ⟨#[]⟩, .nil⟩
theorem zero_tr (w : World) (S : Nat → Prop) : TrAt w S zeroNV zeroTC := ⟨none, 0, rfl, Nat.le_refl _, True.intro⟩
theorem TreeC.val {w w' : World} {rb : Nat} {a : Option Addr} {cap : Nat} {s : Rd} {o : Got Tr} {e : Ending} (h : TreeC w rb a cap s o e w') : ∃ v m', e = .returned v ∧ TrAt w' (Fresh w w') v (vl s o zeroTC) ∧ RfAt w' rb a cap (aft s o) m' ∧ Touched w w' (fun k => k = rb) := by
  obtain ⟨id, kd, tx, ka, kl, kc, m', rfl, h1, h2, h3, h4⟩ := h
  refine ⟨_, m', rfl, ?_, h1, h2⟩
  by_cases hf : Fz s o
  · rw [vl_fz hf, h3 hf]; exact zero_tr _ _
  · obtain ⟨hb, y, q, ho⟩ := not_fz hf
    rw [vl_ok hb ho]; exact h4 y q hb ho
theorem StpsC.val {w w' : World} {rb : Nat} {a : Option Addr} {cap : Nat} {s : Rd} {o : Got (List Stp)} {e : Ending} (h : StpsC w rb a cap s o e w') : ∃ ra n rc m', e = .returned (.slice ra n rc) ∧ n = (vl s o []).length ∧ StepsAt w' (Fresh w w') ra (vl s o []) ∧ RfAt w' rb a cap (aft s o) m' ∧ Touched w w' (fun k => k = rb) := by
  obtain ⟨ra, n, rc, m', rfl, h1, h2, h3, h4⟩ := h
  refine ⟨ra, n, rc, m', rfl, ?_, ?_, h1, h2⟩
  · by_cases hf : Fz s o
    · rw [vl_fz hf, (h3 hf).2.1]; rfl
    · obtain ⟨hb, y, q, ho⟩ := not_fz hf
      rw [vl_ok hb ho]; exact (h4 y q hb ho).1
  · by_cases hf : Fz s o
    · rw [vl_fz hf]; exact fun h0 => by simp at h0
    · obtain ⟨hb, y, q, ho⟩ := not_fz hf
      rw [vl_ok hb ho]; exact (h4 y q hb ho).2.2

/-- Both readers over the same bytes. -/
structure Duo (W : World) (pb : Nat) (dv : Value) (rb : Nat) (a : Option Addr) (cap : Nat) (bs : List UInt8) (sp sd : Rd) (m : Int) (wr : World) : Prop where
  p : RdAt wr pb dv sp
  d : RfAt wr rb a cap sd m
  bel : Below W.heap.size W wr
  out : W.heap.size ≤ pb ∧ W.heap.size ≤ rb ∧ pb ≠ rb ∧ ∀ g, dv.ownBlock = some g → W.heap.size ≤ g ∧ g ≠ rb
  byt : 0 < bs.length → ∀ ad, a = some ad → ad.block < W.heap.size
  dat : sd.data = bs
section
variable {W : World} {pb : Nat} {dv : Value} {rb : Nat} {a : Option Addr} {cap : Nat} {bs : List UInt8} {sp sd s' : Rd} {m m' : Int} {wr w' : World}
theorem Duo.prog (h : Duo W pb dv rb a cap bs sp sd m wr) (hr : RdAt w' pb dv s') (ht : Touched wr w' (fun k => k = pb)) : Duo W pb dv rb a cap bs s' sd m w' := by
  obtain ⟨o1, o2, o3, o4⟩ := h.out
  have hs := h.bel.size
  exact ⟨hr, h.d.kept ht (fun e => o3 e.symm) (fun h0 ad ea _ e => by rw [h.dat] at h0; have := h.byt h0 ad ea; omega), h.bel.trans (ht.below hs (fun k hk => by omega)), h.out, h.byt, h.dat⟩
theorem Duo.calm (h : Duo W pb dv rb a cap bs sp sd m wr) (ht : Touched wr w' (fun _ => False)) : Duo W pb dv rb a cap bs sp sd m w' :=
  ⟨h.p.kept ht id (fun _ _ => id), h.d.kept ht id (fun _ _ _ _ => id), h.bel.trans (ht.below h.bel.size (fun _ hk => hk.elim)), h.out, h.byt, h.dat⟩
theorem Duo.alloc (h : Duo W pb dv rb a cap bs sp sd m wr) (o : Obj) : Duo W pb dv rb a cap bs sp sd m (wr.alloc o) := h.calm ((Touched.refl wr _).alloc o)
end
/-- Trees that are read are small. -/
theorem foLen_le0 : ∀ f : Fo, foLen f ≤ foSize f
  | .nil => Nat.le_refl _
  | .node _ _ _ l r => by have := foLen_le0 r; simp only [foLen, foSize]; omega
theorem fit_small : ∀ f : Fo, foSize f ≤ 9223372036854775807 → foFit f
  | .nil, _ => True.intro
  | .node _ _ _ l r, h => by
    simp only [foSize] at h
    exact ⟨by have := foLen_le0 l; omega, fit_small l (by omega), fit_small r (by omega)⟩
theorem fits_enc {t : Tr} (h : (encT t).length ≤ 9223372036854775807) : FitsC t := by
  rw [encT_length] at h
  exact ⟨by have := foLen_le0 t.kids; omega, fit_small _ (by omega)⟩
theorem Stand.len {d : List UInt8} {p q : Nat} {bs : List UInt8} (h : Stand d p q bs) : bs.length ≤ d.length := by
  have := congrArg List.length h.1
  simp only [List.length_drop, List.length_append] at this
  omega
theorem fits_vl {s : Rd} (hl : s.data.length ≤ 100000000) : FitsC (vl s (pTree s.data s.pos) zeroTC) := by
  by_cases hf : Fz s (pTree s.data s.pos)
  · rw [vl_fz hf]; exact ⟨by simp [zeroTC, foLen], True.intro⟩
  · obtain ⟨hb, y, q, ho⟩ := not_fz hf
    rw [vl_ok hb ho]
    exact fits_enc (by have := (pTree_inv ho).len; omega)
end Go.Proofs.YteccnekdmehloaaDoor
