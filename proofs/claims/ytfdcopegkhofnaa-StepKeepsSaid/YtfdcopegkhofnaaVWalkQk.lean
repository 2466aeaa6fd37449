/-
  Blocks made one behind the other. No condition.
  What 'Great' answers of a tree that lies in memory: where it answers false the tree has at most 2000 nodes. No condition but that no row of kids is longer than a slice may be.
  What 'SameNode' answers of two trees that lie in memory. No condition but that no row of kids is longer than a slice may be.
  What the document's walk over a tree tells, where it is not cut off: its nodes and their depths. No condition but that there are not too many nodes.
  The document's own Ids of a tree. No condition but that there are not too many nodes.
  What a walk over a tree tells, as a row of spots: plain definitions and their laws. No condition.
  The program's own walk over a tree, for whatever body that leaves the tree as it is. No condition but that there are not too many nodes.
  What the document's walk over a tree tells, cut off behind so many: its nodes and their depths. No condition but that no row of kids is longer than a slice may be.
-/
import Derived.Test.YtfdcopegkhofnaaECopyWQk
import Derived.Deep.AppendLies
import Derived.Test.YtfdcopegkhofnaaHPureQk
import Derived.Deep.RegionHeld3
import Derived.StillTailTactics
import Derived.OwnWalk
import Derived.Test.YtfdcopegkhofnaaTreeQk
import Derived.Test.YtfdcopegkhofnaaERevQk
import Derived.RangeFuncNested
import Derived.RangeFuncBound
import Derived.RangeFuncCalls
import Derived.RangeFuncLeaves
import Derived.RangeFuncWrites
import Derived.Shelf.RegionOpen
import Derived.OwnWalkIn
import Derived.TacticsInMore
import Derived.LoopNIn
import Derived.LoopIn
import Derived.OrdersIn
namespace Go.Proofs.Ytfdcopegkhofnaa
open Go.RowKit

def allocs (w : World) (os : List Obj) : World := os.foldl (fun w o => w.alloc o) w
theorem allocs_size : ∀ (os : List Obj) (w : World), (allocs w os).heap.size = w.heap.size + os.length
  | [], _ => rfl
  | o :: os, w => by
    show (allocs (w.alloc o) os).heap.size = _
    rw [allocs_size os, World.size_alloc, List.length_cons]; omega
theorem allocs_below : ∀ (os : List Obj) (w : World), Below w.heap.size w (allocs w os)
  | [], w => Below.refl _ _
  | o :: os, w => ((Below.refl _ w).alloc (Nat.le_refl _) o).trans ((allocs_below os (w.alloc o)).mono (by simp))
theorem allocs_at : ∀ (os : List Obj) (w : World) (i : Nat) (o : Obj), os[i]? = some o → (allocs w os).heap[w.heap.size + i]? = some o
  | [], _, _, _, h => by simp at h
  | o :: os, w, 0, o', h => by
    simp at h; subst h
    show (allocs (w.alloc o) os).heap[w.heap.size]? = _
    rw [(allocs_below os (w.alloc o)).block _ (by simp)]; exact World.alloc_heap_new w o
  | o :: os, w, i + 1, o', h => by
    have := allocs_at os (w.alloc o) i o' (by simpa using h)
    rw [World.size_alloc] at this
    show (allocs (w.alloc o) os).heap[w.heap.size + (i + 1)]? = _
    rw [show w.heap.size + (i + 1) = w.heap.size + 1 + i by omega]; exact this
end Go.Proofs.Ytfdcopegkhofnaa
namespace Go.Proofs.Ytfdcopegkhofnaa
open Go.RowKit

theorem Try.infoSp : (Try.prog.info? 51).map (fun i => (i.size, i.bytes, i.zero.map (fun z => z.cells.size))) = some (5, 64, some 5) := by kernel_rfl

/-- A row of spots of length n. -/
def Spots (w : World) (B : Nat) (rv : Value) (n : Nat) : Prop := ∃ xs, w.ownsRow B 51 5 rv n xs ∧ ∀ i, i < n → ∃ d, xs[i * 5 + 4]? = some (.int .i64 d)
/-- From w to w' the row alone may have been written, and grown into new memory. -/
def Grew (w w' : World) (rv rv' : Value) : Prop := w.grownBy w' rv.ownBlock ∧ (rv'.ownBlock = rv.ownBlock ∨ ∀ g, rv'.ownBlock = some g → w.heap.size < g)
theorem Spots.bounds {w : World} {B : Nat} {rv : Value} {n : Nat} (h : Spots w B rv n) {g : Nat} (hg : rv.ownBlock = some g) : B ≤ g ∧ g < w.heap.size := by
  obtain ⟨xs, ho, _⟩ := h
  exact owns_bounds ho hg
theorem Grew.refl (w : World) (rv : Value) : Grew w w rv rv := ⟨⟨rfl, rfl, rfl, Nat.le_refl _, fun _ _ _ => rfl⟩, Or.inl rfl⟩

theorem Grew.trans {w wr w2 : World} {rv l l2 : Value} (h : Grew w wr rv l) (h2 : Grew wr w2 l l2) : Grew w w2 rv l2 := by
  have hs := h.1.size
  refine ⟨⟨h2.1.os.trans h.1.os, h2.1.tape.trans h.1.tape, h2.1.output.trans h.1.output, Nat.le_trans hs h2.1.size, fun k hk hn => ?_⟩, ?_⟩
  · rw [h2.1.block k (by omega) (fun e => ?_), h.1.block k hk hn]
    rcases h.2 with h' | h'
    · exact hn (e.trans h')
    · have := h' k e.symm; omega
  · rcases h2.2 with h' | h'
    · rw [h']; exact h.2
    · exact Or.inr fun g hg => by have := h' g hg; omega
theorem Grew.box {w : World} {o : Obj} (rv : Value) : Grew w (w.alloc o) rv rv := ⟨⟨rfl, rfl, rfl, by simp, fun k hk _ => Below.heap_alloc w o k hk⟩, Or.inl rfl⟩
theorem Grew.first {w w1 : World} {o1 o2 : Obj} {rv : Value} {gg len cap : Nat} (h : ((w.alloc o1).alloc o2).grownBy w1 rv.ownBlock) (hat : rv.ownBlock = some gg ∨ gg = w.heap.size + 1 + 1) : Grew w w1 rv (.slice (some ⟨gg, 0, none⟩) len cap) :=
  ⟨⟨h.os, h.tape, h.output, by have := h.size; simp at this; omega, fun k hk hn => by rw [h.block k (by simp; omega) hn, Below.heap_alloc _ _ _ (by simp; omega), Below.heap_alloc _ _ _ hk]⟩,
   hat.elim (fun e => Or.inl (by rw [e]; rfl)) (fun e => Or.inr fun g hg => by simp only [Value.ownBlock, Option.some.injEq] at hg; omega)⟩
theorem Spots.box {w : World} {B : Nat} {rv : Value} {n : Nat} (h : Spots w B rv n) (o : Obj) : Spots (w.alloc o) B rv n := by
  obtain ⟨xs, ho, hx⟩ := h
  exact ⟨xs, ho.alloc o, hx⟩
end Go.Proofs.Ytfdcopegkhofnaa
namespace Go.Proofs.Ytfdcopegkhofnaa
open Go.RowKit

def SameC (t u : Tr) (w : World) (e : Ending) (w' : World) : Prop := e = .returned (.bool (sameT t u)) ∧ Below w.heap.size w w'
theorem SameC.mk {t u : Tr} {w w' : World} {b : Bool} (h : sameT t u = b) (hb : Below w.heap.size w w') : SameC t u w (.returned (.bool b)) w' := ⟨by rw [h], hb⟩
theorem two_boxes (w : World) (o o' : Obj) : Below w.heap.size w ((w.alloc o).alloc o') := ((Below.refl _ _).alloc (Nat.le_refl _) _).alloc (by simp) _

end Go.Proofs.Ytfdcopegkhofnaa
namespace Go.Proofs.Ytfdcopegkhofnaa
open Go.RowKit
set_option linter.unusedVariables false

theorem spF_snoc (d : Nat) : ∀ (f : Fo) (b o : Nat) (k : Int × Int × ByteArray) (l : Fo), spF d (foSnoc f b o k l) = spF d f ++ ((d, k, l) :: spF (d + 1) l)
  | .nil, _, _, _, _ => by simp [foSnoc, spF]
  | .node _ _ _ l' r, b, o, k, l => by simp [foSnoc, spF, spF_snoc d r b o k l, List.append_assoc]
def spT (d : Nat) (t : Tr) : List Sp := (d, (t.id, t.kind, t.text), t.kids) :: spF (d + 1) t.kids
theorem spT_root (t : Tr) : spT 1 t = spF 1 (rootF t) := by simp [spT, rootF, spF]
def SpotAt (w : World) (S : Nat → Prop) (xs : List Value) (i : Nat) (x : Sp) : Prop :=
  xs[i * 5]? = some (.int .i64 x.2.1.1) ∧ xs[i * 5 + 1]? = some (.int .i64 x.2.1.2.1) ∧ xs[i * 5 + 2]? = some (.string x.2.1.2.2) ∧ (∃ ka cap, xs[i * 5 + 3]? = some (.slice ka (foLen x.2.2) cap) ∧ foLen x.2.2 ≤ cap ∧ FoAt w S x.2.2 ka) ∧ xs[i * 5 + 4]? = some (.int .i64 (x.1 : Int))
/-- A row of spots. -/
def SpotsN (S : Nat → Prop) (w : World) (B : Nat) (rv : Value) (n : Nat) (T : List Sp) : Prop := T.length = n ∧ ∃ xs, w.ownsRow B 51 5 rv n xs ∧ ∀ i x, T[i]? = some x → SpotAt w S xs i x
theorem SpotAt.kept {w w' : World} {S : Nat → Prop} {xs : List Value} {i : Nat} {x : Sp} (h : SpotAt w S xs i x) (hk : ∀ k, S k → w'.heap[k]? = w.heap[k]?) : SpotAt w' S xs i x := by
  obtain ⟨a, b, c, ⟨ka, cap, e, f, g⟩, z⟩ := h
  exact ⟨a, b, c, ⟨ka, cap, e, f, g.kept fun k hs => ⟨hs, hk k hs⟩⟩, z⟩
theorem SpotsN.bounds {S : Nat → Prop} {w : World} {B : Nat} {rv : Value} {n : Nat} {T : List Sp} (h : SpotsN S w B rv n T) {g : Nat} (hg : rv.ownBlock = some g) : B ≤ g ∧ g < w.heap.size := by
  obtain ⟨_, xs, ho, _⟩ := h
  exact owns_bounds ho hg
theorem Grew.lowN {S : Nat → Prop} {w wr : World} {B n : Nat} {rv l : Value} {T : List Sp} (h : Grew w wr rv l) (hs : SpotsN S w B rv n T) (hB : B ≤ w.heap.size) : ∀ k, k < B → wr.heap[k]? = w.heap[k]? := fun k hk =>
  h.1.block k (by omega) (fun e => by have := (hs.bounds e.symm).1; omega)
theorem spotsN_snoc {w w' : World} {S : Nat → Prop} {xs : List Value} {n : Nat} {T : List Sp} {x : Sp} {ka : Option Addr} {cap : Nat} (hl : xs.length = n * 5) (hT : T.length = n) (hx : ∀ i y, T[i]? = some y → SpotAt w S xs i y) (hk : ∀ k, S k → w'.heap[k]? = w.heap[k]?) (hc : foLen x.2.2 ≤ cap) (hf : FoAt w' S x.2.2 ka) :
    ∀ i y, (T ++ [x])[i]? = some y → SpotAt w' S (xs ++ [.int .i64 x.2.1.1, .int .i64 x.2.1.2.1, .string x.2.1.2.2, .slice ka (foLen x.2.2) cap, .int .i64 (x.1 : Int)]) i y := fun i y hi => by
  by_cases h : i < n
  · rw [List.getElem?_append_left (by omega)] at hi
    obtain ⟨a, b, c, ⟨kb, cb, e, f, g⟩, z⟩ := (hx i y hi).kept hk
    exact ⟨by rw [List.getElem?_append_left (by omega)]; exact a, by rw [List.getElem?_append_left (by omega)]; exact b, by rw [List.getElem?_append_left (by omega)]; exact c, ⟨kb, cb, by rw [List.getElem?_append_left (by omega)]; exact e, f, g⟩, by rw [List.getElem?_append_left (by omega)]; exact z⟩
  · have hil := (List.getElem?_eq_some_iff.1 hi).1
    have : i = n := by simp at hil; omega
    subst this
    rw [List.getElem?_append_right (by omega), hT, Nat.sub_self] at hi
    simp at hi
    subst hi
    refine ⟨?_, ?_, ?_, ⟨ka, cap, ?_, hc, hf⟩, ?_⟩ <;> (rw [List.getElem?_append_right (by omega), hl]; simp)
end Go.Proofs.Ytfdcopegkhofnaa
namespace Go.Proofs.Ytfdcopegkhofnaa
open Go.RowKit
set_option linter.unusedVariables false
set_option linter.unusedSimpArgs false

theorem Try.infoInt : (Try.prog.info? 3).map (fun i => (i.zero, i.size, i.bytes)) = some (some (.int .i64 0), 1, 8) := by kernel_rfl
def intV (n : Int) : Value := .int .i64 n
end Go.Proofs.Ytfdcopegkhofnaa
namespace Go.Proofs.Ytfdcopegkhofnaa
open Go.RowKit
set_option linter.unusedVariables false

theorem info_wideV {P : Program} {e : TypeId} {size bytes : Nat} (h : (P.info? e).map (fun i => (i.size, i.bytes, i.zero.map (fun z => z.cells.size))) = some (size, bytes, some size)) :
    ∃ i z, P.info? e = some i ∧ i.zero = some z ∧ i.size = size ∧ i.bytes = bytes ∧ z.cells.size = size := by
  rw [Option.map_eq_some_iff] at h
  obtain ⟨i, hi, he⟩ := h
  simp only [Prod.mk.injEq, Option.map_eq_some_iff] at he
  obtain ⟨h1, h2, z, hz, h3⟩ := he
  exact ⟨i, z, hi, hz, h1, h2, h3⟩
theorem takeM_more {α : Type} (M : Nat) (A B : List α) : ((A.take M) ++ B).take M = (A ++ B).take M := by
  rw [List.take_append, List.take_append, List.take_take, Nat.min_self, List.length_take]
  congr 2
  omega
theorem spF_mem_size : ∀ (d : Nat) (f : Fo) (x : Sp), x ∈ spF d f → foSize x.2.2 + 1 ≤ foSize f ∧ d ≤ x.1 ∧ x.1 + foSize x.2.2 < d + foSize f
  | _, .nil, x, h => by simp [spF] at h
  | d, .node _ _ k l r, x, h => by
    simp only [spF, List.mem_cons, List.mem_append] at h
    simp only [foSize]
    rcases h with rfl | h | h
    · simp only; omega
    · have := spF_mem_size (d + 1) l x h; omega
    · have := spF_mem_size d r x h; omega
def trOf (x : Sp) : Tr := ⟨x.2.1.1, x.2.1.2.1, x.2.1.2.2, x.2.2⟩
end Go.Proofs.Ytfdcopegkhofnaa
namespace Go.Proofs.Ytfdcopegkhofnaa
open Go.RowKit Go.Shelf
attribute [local go_sem] Oper.semAt_some
set_option linter.unusedVariables false
set_option linter.unusedSimpArgs false

theorem YieldAt.anyDepthV {m : Nat} (m' : Nat) {P : Program} {l : Nat} {args : Array Value} {W : World} {R : Ending → World → Prop} (h : YieldAt Fence.wide m P l args W R) : YieldAt Fence.wide m' P l args W R := by
  obtain ⟨fn, tmps, assign, body, hy, hr⟩ := h
  exact ⟨fn, tmps, assign, body, hy, hr.1, fun c cs _ => hr.2 c cs (room_wide _)⟩
/-- What the body of a loop over such a walk bears. -/
structure PBody (P : Program) (m l n₀ : Nat) (S : Nat → Prop) (tot : List Sp) (J : List Sp → World → Prop) (Jx : World → Prop) : Prop where
  turn : ∀ {pre : List Sp} {V V' : World}, J pre V → Below n₀ V V' → J pre V'
  turnx : ∀ {V V' : World}, Jx V → Below n₀ V V' → Jx V'
  yield : ∀ {pre rest : List Sp} {d : Nat} {key : Int × Int × ByteArray} {k : Fo} {V : World} {b off kc : Nat} {ka : Option Addr}, tot = pre ++ (d, key, k) :: rest → J pre V → n₀ ≤ V.heap.size → S b →
    V.cell? ⟨b, off, none⟩ = some (.int .i64 key.1) → V.cell? ⟨b, off + 1, none⟩ = some (.int .i64 key.2.1) → V.cell? ⟨b, off + 2, none⟩ = some (.string key.2.2) → V.cell? ⟨b, off + 3, none⟩ = some (.slice ka (foLen k) kc) → foLen k ≤ kc → FoAt V S k ka →
    YieldAt Fence.wide m P l #[.int .i64 (d : Int), .pointer (some ⟨b, off, none⟩)] V fun e V' => (V.heap.size ≤ V'.heap.size ∧ (∀ y, S y → V'.heap[y]? = V.heap[y]?)) ∧ ((e = .returned (.bool true) ∧ J (pre ++ [(d, key, k)]) V') ∨ (e = .returned (.bool false) ∧ Jx V'))
def BelowC (S : Nat → Prop) (J : List Sp → World → Prop) (Jx : World → Prop) (pre L : List Sp) (w : World) (e : Ending) (w' : World) : Prop :=
  ∃ bl, e = .returned (.bool bl) ∧ w.heap.size ≤ w'.heap.size ∧ (∀ y, S y → w'.heap[y]? = w.heap[y]?) ∧ (bl = true → J (pre ++ L) w') ∧ (bl = false → Jx w')
theorem spF_split : ∀ (j d : Nat) (f : Fo), spF d f = spF d (foTake j f) ++ spF d (foDrop j f)
  | 0, _, f => by cases f <;> simp [foTake, foDrop, spF]
  | _ + 1, _, .nil => by simp [foTake, foDrop, spF]
  | j + 1, d, .node _ _ k l r => by simp only [foTake, foDrop, spF, List.cons_append, List.append_assoc]; rw [spF_split j d r]
def BelowR (S : Nat → Prop) (J : List Sp → World → Prop) (w : World) (d : Nat) (key : Int × Int × ByteArray) (k : Fo) (pre : List Sp) (j : Nat) (wr : World) : Prop :=
  J (pre ++ (d, key, k) :: spF (d + 1) (foTake j k)) wr ∧ w.heap.size ≤ wr.heap.size ∧ ∀ y, S y → wr.heap[y]? = w.heap[y]?
set_option maxRecDepth 100000 in
set_option maxHeartbeats 4000000 in
theorem below_any {m l n₀ : Nat} {S : Nat → Prop} {tot : List Sp} {J : List Sp → World → Prop} {Jx : World → Prop} (hB : PBody Try.prog m l n₀ S tot J Jx) : ∀ (q d : Nat) (key : Int × Int × ByteArray) (k : Fo) (pre rest : List Sp) (w : World) (b off kc : Nat) (ka : Option Addr), foSize k < q → q ≤ 1000000 → d + q ≤ 2000000 → tot = pre ++ ((d, key, k) :: (spF (d + 1) k ++ rest)) → J pre w → n₀ ≤ w.heap.size → S b →
    w.cell? ⟨b, off, none⟩ = some (.int .i64 key.1) → w.cell? ⟨b, off + 1, none⟩ = some (.int .i64 key.2.1) → w.cell? ⟨b, off + 2, none⟩ = some (.string key.2.2) → w.cell? ⟨b, off + 3, none⟩ = some (.slice ka (foLen k) kc) → foLen k ≤ kc → FoAt w S k ka →
    Calls Try.prog 146 #[.pointer (some ⟨b, off, none⟩), .int .i64 (d : Int), .func (.yield l) #[] #[]] w (BelowC S J Jx pre ((d, key, k) :: spF (d + 1) k) w) := by
  intro q
  induction q with
  | zero => intro d key k pre rest w b off kc ka h; omega
  | succ q ih =>
    intro d key k pre rest w b off kc ka hq hq6 hdq htot hJ hn0 hSb c0 c1 c2 c3 hcp hk
    obtain ⟨fn, tmps, assign, body, hy, hR⟩ := YieldAt.anyDepthV 5 (hB.yield htot hJ hn0 hSb c0 c1 c2 c3 hcp hk)
    obtain ⟨n, hn⟩ : ∃ n, n = foLen k := ⟨_, rfl⟩
    have hn6 : n ≤ 1000000 := by have := foLen_le k; omega
    have hd6 : (d : Int) ≤ 2000000 := by omega
    have hd0 : (0 : Int) ≤ (d : Int) := by omega
    rw [← hn] at c3 hcp
    have H := Lib.hid (And.intro hq (And.intro hq6 (And.intro hdq (And.intro htot (And.intro hn0 (And.intro hSb (And.intro c3 (And.intro hcp (And.intro hk hn)))))))))
    have HR := Lib.hid hR
    have HIH := Lib.hid ih
    clear hq hq6 hdq htot hJ hn0 hSb c0 c1 c2 c3 hcp hk hn hR ih
    refine (callsIn_wide (n := 6)).1 ?_
    refine callsIn_of_wp Try.func146 rfl trivial ?_ rfl
    simp only [Try.ntmps146, List.size_toArray, List.length_cons, List.length_nil, Nat.reduceAdd, Nat.reduceSub, Array.replicate_succ, Array.replicate_zero, List.push_toArray, List.append_toArray, List.nil_append, List.cons_append]
    gi_wp2
    refine HR.out.mono ?_
    clear HR hy
    rintro e w1 ⟨⟨hs1, hS1⟩, (⟨rfl, hJ1⟩ | ⟨rfl, hx1⟩)⟩
    · have p3 : w1.cell? ⟨b, off + 3, none⟩ = some (.slice ka n kc) := (World.cell?_of_block (a := ⟨b, off + 3, none⟩) (hS1 b H.out.2.2.2.2.2.1)).trans H.out.2.2.2.2.2.2.1
      have HS := Lib.hid (show BelowR S J w d key k pre 0 w1 from ⟨by simpa [foTake, spF] using hJ1, hs1, hS1⟩)
      clear hJ1 hs1 hS1
      gi_wp2
      gi_loopw [7, 18] (fun _ i wr => ∃ j : Nat, j ≤ n ∧ i = .int .i64 (j : Int) ∧ Hid (BelowR S J w d key k pre j wr)) (fun _ i _ => n - (intOf i).toNat)
      case atStart => exact ⟨0, Nat.zero_le _, rfl, HS⟩
      case round =>
        obtain ⟨j, hj, rfl, hh⟩ := hrel
        have p3r : wr.cell? ⟨b, off + 3, none⟩ = some (.slice ka n kc) := (World.cell?_of_block (a := ⟨b, off + 3, none⟩) (hh.out.2.2 b H.out.2.2.2.2.2.1)).trans H.out.2.2.2.2.2.2.1
        by_cases hlt : j < n
        · have hk1 : FoAt wr S k ka := H.out.2.2.2.2.2.2.2.2.1.kept fun x hx => ⟨hx, hh.out.2.2 x hx⟩
          obtain ⟨b0, o0, kkey, l', r, hd1', b', off', a1, n1, rfl, hSb', e0, e1, e2, e3, hc1, hl1⟩ := hk1.at j (by have := H.out.2.2.2.2.2.2.2.2.2; omega)
          obtain ⟨_, _, _, _, _, f1, f2, hsz1, htk⟩ := foDrop_node j k (by have := H.out.2.2.2.2.2.2.2.2.2; omega)
          rw [hd1'] at f1; cases f1
          have htot2 : tot = (pre ++ (d, key, k) :: spF (d + 1) (foTake j k)) ++ ((d + 1, kkey, l') :: (spF (d + 1 + 1) l' ++ (spF (d + 1) r ++ rest))) := by
            rw [H.out.2.2.2.1, spF_split j (d + 1) k, hd1']
            simp [spF, List.append_assoc]
          have hcall := HIH.out (d + 1) kkey l' (pre ++ (d, key, k) :: spF (d + 1) (foTake j k)) (spF (d + 1) r ++ rest) wr b' (off' + j * 4) n1 a1 (by have := H.out.1; omega) (by have := H.out.2.1; omega) (by have := H.out.2.2.1; omega) htot2 hh.out.1 (Nat.le_trans H.out.2.2.2.2.1 hh.out.2.1) hSb' e0 e1 e2 e3 hc1 hl1
          have hcast : (((d + 1 : Nat)) : Int) = (d : Int) + 1 := by omega
          rw [hcast] at hcall
          have hnx : (pre ++ (d, key, k) :: spF (d + 1) (foTake j k)) ++ ((d + 1, kkey, l') :: spF (d + 1 + 1) l') = pre ++ (d, key, k) :: spF (d + 1) (foTake (j + 1) k) := by rw [htk, spF_snoc]; simp [List.append_assoc]
          have HC := Lib.hid (And.intro hcall hnx)
          have hji : (j : Int) < (n : Int) := by omega
          clear hk1 hd1' f2 hsz1 htk htot2 hcall hcast hnx e0 e1 e2 e3 hc1 hl1 hSb'
          have hlt5 : (j : Int) + 1 ≤ 1000001 := by omega
          have HLT := Lib.hid hlt
          clear hlt
          gi_wp2_with (refine ⟨trivial, ?_⟩; gi_at_call 146; refine (callsIn_wide.2 HC.out.1).mono ?_; rintro e w2 ⟨bl, rfl, hs2, hS2, hJ2, hx2⟩; have HE := Lib.hid (And.intro hs2 (And.intro hS2 (And.intro hJ2 hx2))); clear hs2 hS2 hJ2 hx2; cases bl)
          · go_ret
            exact ⟨false, rfl, Nat.le_trans hh.out.2.1 HE.out.1, fun y hy => (HE.out.2.1 y hy).trans (hh.out.2.2 y hy), (fun e => by cases e), fun _ => HE.out.2.2.2 (by first | rfl | trivial)⟩
          · refine ⟨⟨j + 1, by have := HLT.out; omega, by go_num, Lib.hid ⟨?_, Nat.le_trans hh.out.2.1 HE.out.1, fun y hy => (HE.out.2.1 y hy).trans (hh.out.2.2 y hy)⟩⟩, by have := HLT.out; simp [intOf]; omega⟩
            have h := HE.out.2.2.1 (by first | rfl | trivial)
            rw [HC.out.2] at h
            exact h
        · have hjn : ¬ (j : Int) < (n : Int) := by omega
          have HJN := Lib.hid (show j = n by omega)
          clear hlt
          gi_wp2
          go_ret
          refine ⟨true, rfl, hh.out.2.1, hh.out.2.2, fun _ => ?_, fun e => by cases e⟩
          have h := hh.out.1
          rw [foTake_all j k (by rw [HJN.out, H.out.2.2.2.2.2.2.2.2.2]; exact Nat.le_refl _)] at h
          exact h
    · have HE := Lib.hid (And.intro hs1 (And.intro hS1 hx1))
      clear hs1 hS1 hx1
      gi_wp2
      go_ret
      exact ⟨false, rfl, HE.out.1, HE.out.2.1, (fun e => by cases e), fun _ => HE.out.2.2⟩
end Go.Proofs.Ytfdcopegkhofnaa
namespace Go.Proofs.Ytfdcopegkhofnaa
open Go.RowKit
set_option linter.unusedVariables false

def RefM (S : Nat → Prop) (w : World) (B : Nat) (rv : Value) (T : List Sp) (M d : Nat) (t : Tr) (e : Ending) (w' : World) : Prop :=
  ∃ rv', e = .returned rv' ∧ SpotsN S w' B rv' ((T ++ spT d t).take M).length ((T ++ spT d t).take M) ∧ Grew w w' rv rv'
/-- What holds at the head of each round. -/
def RefRoundM (S : Nat → Prop) (w : World) (B : Nat) (rv : Value) (T : List Sp) (M : Nat) (x : Sp) (c1 : Array Value) (ks : Fo) (len : Nat) (l i : Value) (wr : World) : Prop :=
  ∃ (k : Nat) (L : List Sp), k ≤ len ∧ i = .int .i64 (k : Nat) ∧ Hid (L = (T ++ (x :: spF (x.1 + 1) (foTake k ks))).take M) ∧ SpotsN S wr B l L.length L ∧ Grew w wr rv l ∧ wr.heap[w.heap.size]? = some (.cells c1 24 (0, 0)) ∧ T.length + 1 ≤ L.length ∧ L.length ≤ M

set_option maxRecDepth 100000 in
set_option maxHeartbeats 1000000 in
theorem rwalkM_any (M : Nat) (hM : M ≤ 2000000) : ∀ (m : Nat) (w : World) (S : Nat → Prop) (v : Value) (t : Tr) (B : Nat) (rv : Value) (n : Nat) (T : List Sp) (d : Nat), foSize t.kids < m → foLen t.kids ≤ 9223372036854775807 → foFit t.kids → (∀ k, S k → k < B) → B ≤ w.heap.size → TrAt w S v t →
    SpotsN S w B rv n T → n ≤ M → d ≤ n + 1 →
    Calls Try.prog 88 #[rv, v, .int .i64 (d : Int), .int .i64 (M : Int)] w (RefM S w B rv T M d t) := by
  intro m
  induction m with
  | zero => intro w S v t B rv n T d h; omega
  | succ m ih =>
    intro w S v t B rv n T d hm hm5 hfit hS hB hv hrow hnM hd1
    obtain ⟨ka, cap, rfl, hcpt, hk⟩ := hv
    obtain ⟨id, kd, tx, ks⟩ := t
    simp only at hk hm hcpt hm5 hfit
    simp only
    obtain ⟨hT, xs, ho, hxs⟩ := hrow
    obtain ⟨ra, rcap, rfl⟩ := owns_slice ho
    obtain ⟨len, hlen⟩ : ∃ len, len = foLen ks := ⟨_, rfl⟩
    have hlen2 : len ≤ 9223372036854775807 := by omega
    rw [← hlen] at hcpt ⊢
    have HN := Lib.hid (And.intro hm hfit)
    have HLEN := Lib.hid (And.intro hlen hcpt)
    have HK := Lib.hid hk
    have HSS := Lib.hid (And.intro hS hB)
    have HIH := Lib.hid ih
    have HO := Lib.hid (And.intro ho hxs)
    have HT := Lib.hid hT
    have HD := Lib.hid hd1
    have hdM : (d : Int) ≤ 2000001 := by omega
    have hd0 : (0 : Int) ≤ (d : Int) := by omega
    have hn5 : n ≤ 2000000 := by omega
    clear hlen hk hm hm5 hfit hS hB ih ho hxs hT hcpt hd1
    by_cases hful : M ≤ n
    · have hMn : (M : Int) ≤ (n : Int) := by omega
      have HF := Lib.hid (show (T ++ spT d ⟨id, kd, tx, ks⟩).take M = T by rw [List.take_append_of_le_length (by rw [HT.out]; exact hful), List.take_of_length_le (by rw [HT.out]; exact hnM)])
      clear hful
      go_enter Try.func88, Try.ntmps88
      go_wp2_with fail
      go_ret
      refine ⟨_, rfl, ?_, Grew.box _⟩
      rw [HF.out, HT.out]
      exact ⟨HT.out, xs, HO.out.1.alloc _, fun i x hi => (HO.out.2 i x hi).kept fun k hk => Below.heap_alloc _ _ _ (Nat.lt_of_lt_of_le (HSS.out.1 k hk) HSS.out.2)⟩
    have hnn : ¬ (M : Int) ≤ (n : Int) := by omega
    have hnM1 : n + 1 ≤ M := by omega
    have HFN := Lib.hid hful
    clear hful
    go_enter Try.func88, Try.ntmps88
    obtain ⟨i0, z0, hi0, hz0, hz1, hz2, hz3⟩ := info_wideV Try.infoSp
    have hnew : ((w.alloc (.cells #[.int .i64 id, .int .i64 kd, .string tx, .slice ka len cap] 24)).alloc (.cells #[.int .i64 id, .int .i64 kd, .string tx, .slice ka len cap, .int .i64 (d : Int)] 51)).heap[w.heap.size + 1]? = some (.cells #[.int .i64 id, .int .i64 kd, .string tx, .slice ka len cap, .int .i64 (d : Int)] 51 (0, 0)) := heap_alloc2_new w _ _
    have HNEW := Lib.hid hnew
    have hBw : B ≤ w.heap.size := HSS.out.2
    clear hnew
    go_wp2_with (at_builtin; refine wpList_append_lies _ rfl (.tmp 15) (.tmp 19) _ rfl B 51 i0 z0 5 64 Try.underlying48 hi0 hz0 hz1 hz2 hz3 (by omega) (.slice ra n rcap) n xs rfl ((HO.out.1.alloc _).alloc _) ⟨w.heap.size + 1, 0, none⟩ 1 1 [.int .i64 id, .int .i64 kd, .string tx, .slice ka len cap, .int .i64 (d : Int)] rfl rfl (World.news_of_block (cs := #[.int .i64 id, .int .i64 kd, .string tx, .slice ka len cap, .int .i64 (d : Int)]) (t := 51) (fr := (0, 0)) HNEW.out) (by simp [Value.oneCell']) (by omega) (by unfold maxLen; omega) (by omega) (by simp; omega) (w.heap.size + 1 + 1) (by simp) ?_; intro gg cap' w1 hown1 hgrow hat hlt1)
    have hg1 : Grew w w1 (.slice ra n rcap) (.slice (some ⟨gg, 0, none⟩) (n + 1) cap') := Grew.first hgrow hat
    have hsp0 : SpotsN S w B (.slice ra n rcap) n T := ⟨HT.out, xs, HO.out⟩
    have hlow1 := hg1.lowN hsp0 hBw
    have hsp1 : SpotsN S w1 B (.slice (some ⟨gg, 0, none⟩) (n + 1) cap') (n + 1) (T ++ [(d, (id, kd, tx), ks)]) := ⟨by rw [List.length_append, HT.out]; rfl, _, hown1, by
      have := spotsN_snoc (x := (d, (id, kd, tx), ks)) (ka := ka) (cap := cap) HO.out.1.1 HT.out HO.out.2 (w' := w1) (fun k hk => hlow1 k (HSS.out.1 k hk)) (by show foLen ks ≤ cap; rw [← HLEN.out.1]; exact HLEN.out.2) (HK.out.kept fun x hx => ⟨hx, hlow1 x (HSS.out.1 x hx)⟩)
      simp only [← HLEN.out.1] at this
      exact this⟩
    have hob : ∀ g, (Value.slice ra n rcap).ownBlock = some g → g < w.heap.size := fun g hg => (owns_bounds HO.out.1 hg).2
    have hbox : w1.heap[w.heap.size]? = some (.cells #[.int .i64 id, .int .i64 kd, .string tx, .slice ka len cap] 24 (0, 0)) := by
      rw [hgrow.block _ (by simp; omega) (fun e => by have := hob _ e.symm; omega)]; exact heap_alloc2_old w _ _
    have HG := Lib.hid (And.intro hg1 (And.intro hsp1 (And.intro hob hbox)))
    clear hg1 hsp1 hob hbox hgrow hown1 hat hsp0 hlow1
    go_loopw [0, 9] (fun l i wr => RefRoundM S w B (.slice ra n rcap) T M (d, (id, kd, tx), ks) #[.int .i64 id, .int .i64 kd, .string tx, .slice ka len cap] ks len l i wr) (fun _ i _ => len - (intOf i).toNat)
    case atStart => exact ⟨0, T ++ [(d, (id, kd, tx), ks)], Nat.zero_le _, rfl, Lib.hid (by simp only [foTake, spF]; rw [List.take_of_length_le (by rw [List.length_append, HT.out]; exact hnM1)]), by rw [List.length_append, HT.out]; exact HG.out.2.1, HG.out.1, HG.out.2.2.2, by simp, by rw [List.length_append, HT.out]; exact hnM1⟩
    case round =>
      obtain ⟨k, L, hk, rfl, HL, hsp, hgr, hbx, hTL, hLM⟩ := hrel
      have p1 : wr.cell? ⟨w.heap.size, 3, none⟩ = some (.slice ka len cap) := by rw [cell_of_row wr _ 3 _ _ _ hbx]; rfl
      have HR := Lib.hid (And.intro hsp (And.intro hgr (And.intro hbx hTL)))
      clear hsp hgr hbx hTL
      by_cases hlt : k < len
      · have hlow := HR.out.2.1.lowN ⟨HT.out, xs, HO.out⟩ hBw
        have hk1 : FoAt wr S ks ka := HK.out.kept fun x hx => ⟨hx, hlow x (HSS.out.1 x hx)⟩
        obtain ⟨b0, o0, ⟨ki, kk, kt⟩, l', r, hd1', b, off, a1, n1, rfl, hSb, c0, c1, c2, c3, hcp, hl1⟩ := hk1.at k (by rw [← HLEN.out.1]; exact hlt)
        obtain ⟨_, _, _, _, _, e1, e2, hsz1, htk⟩ := foDrop_node k ks (by rw [← HLEN.out.1]; exact hlt)
        rw [hd1'] at e1; cases e1
        have hft := foFit_drop k HN.out.2 hd1'
        have hcall := HIH.out wr S (.agg #[.int .i64 ki, .int .i64 kk, .string kt, .slice a1 (foLen l') n1]) ⟨ki, kk, kt, l'⟩ B u0 L.length L (d + 1) (by have := HN.out.1; simp only; omega) hft.1 hft.2 HSS.out.1 (Nat.le_trans hBw HR.out.2.1.1.size) ⟨a1, n1, rfl, hcp, hl1⟩ HR.out.1 hLM (by have := HD.out; have := HR.out.2.2.2; have := HT.out; omega)
        obtain ⟨m1, hm1⟩ : ∃ m, m = foLen l' := ⟨_, rfl⟩
        rw [← hm1] at hcall c3
        simp only at c0 c1 c2
        have hcast : (((d + 1 : Nat)) : Int) = (d : Int) + 1 := by omega
        rw [hcast] at hcall
        have HC := Lib.hid hcall
        have htk2 : spF (d + 1) (foTake (k + 1) ks) = spF (d + 1) (foTake k ks) ++ ((d + 1, (ki, kk, kt), l') :: spF (d + 1 + 1) l') := by rw [htk, spF_snoc]
        have HTK := Lib.hid htk2
        have hkl : (k : Int) < (len : Int) := by omega
        clear hk1 hlow hd1' hcall hm1 htk htk2 hl1 hsz1 hSb e2 hcp hcast hft
        go_wp2_with fail
        refine HC.out.mono ?_
        rintro e w2 ⟨l2, rfl, hsp2, hg2⟩
        have HE := Lib.hid (And.intro hsp2 hg2)
        clear hsp2 hg2
        go_wp2_with fail
        have hne : some w.heap.size ≠ u0.ownBlock := fun e => by
          rcases HR.out.2.1.2 with h | h
          · have := HG.out.2.2.1 _ (h.symm.trans e.symm); omega
          · have := h _ e.symm; omega
        have hLL : (L ++ spT (d + 1) ⟨ki, kk, kt, l'⟩).take M = (T ++ ((d, (id, kd, tx), ks) :: spF (d + 1) (foTake (k + 1) ks))).take M := by
          rw [HL.out, takeM_more, HTK.out]
          simp [spT, List.append_assoc]
        have hle : L.length ≤ ((L ++ spT (d + 1) ⟨ki, kk, kt, l'⟩).take M).length := by
          rw [List.length_take, List.length_append]; omega
        refine ⟨⟨k + 1, (L ++ spT (d + 1) ⟨ki, kk, kt, l'⟩).take M, by omega, by go_num, Lib.hid hLL, HE.out.1, HR.out.2.1.trans HE.out.2, (HE.out.2.1.block _ (lt_of_some HR.out.2.2.1) hne).trans HR.out.2.2.1, by have := HR.out.2.2.2; omega, by rw [List.length_take]; omega⟩, by simp [intOf]; omega⟩
      · have hkk : k = len := by omega
        have HKK := Lib.hid hkk
        have hkl : ¬ (k : Int) < (len : Int) := by omega
        clear hkk
        go_wp2_with fail
        go_ret
        refine ⟨_, rfl, ?_, HR.out.2.1⟩
        have h := HR.out.1
        have hL := HL.out
        rw [foTake_all k ks (by rw [HKK.out, HLEN.out.1]; exact Nat.le_refl _)] at hL
        show SpotsN S _ B _ ((T ++ spT d ⟨id, kd, tx, ks⟩).take M).length ((T ++ spT d ⟨id, kd, tx, ks⟩).take M)
        have e : (T ++ spT d ⟨id, kd, tx, ks⟩).take M = L := hL.symm
        rw [e]
        exact h
/-- The whole walk, cut off behind M. -/
def WalkM (w : World) (S : Nat → Prop) (t : Tr) (M : Nat) (e : Ending) (w' : World) : Prop := ∃ a cap, e = .returned (.slice a ((spF 1 (rootF t)).take M).length cap) ∧ SpotsN S w' w.heap.size (.slice a ((spF 1 (rootF t)).take M).length cap) ((spF 1 (rootF t)).take M).length ((spF 1 (rootF t)).take M) ∧ Below w.heap.size w w'
set_option maxRecDepth 100000 in
set_option maxHeartbeats 1000000 in
theorem walkM_any (M : Nat) (hM : M ≤ 2000000) (w : World) (S : Nat → Prop) (v : Value) (t : Tr) (hlen : foLen t.kids ≤ 9223372036854775807) (hfit : foFit t.kids) (hS : ∀ k, S k → k < w.heap.size) (hv : TrAt w S v t) :
    Calls Try.prog 28 #[v, .int .i64 (M : Int)] w (WalkM w S t M) := by
  obtain ⟨ka, cap, rfl, hcp, hk⟩ := hv
  have hb : Below w.heap.size w (w.alloc (.cells #[.int .i64 t.id, .int .i64 t.kind, .string t.text, .slice ka (foLen t.kids) cap] 24)) := (Below.refl _ _).alloc (Nat.le_refl _) _
  have hc := rwalkM_any M hM _ (w.alloc (.cells #[.int .i64 t.id, .int .i64 t.kind, .string t.text, .slice ka (foLen t.kids) cap] 24)) S _ t w.heap.size (.slice none 0 0) 0 [] 1 (Nat.lt_succ_self _) hlen hfit hS hb.size ⟨ka, cap, rfl, hcp, hk.below hb hS⟩ ⟨rfl, [], World.ownsRow_nil _ _ _ _, fun i p hi => by simp at hi⟩ (Nat.zero_le _) (by omega)
  have HC := Lib.hid (And.intro hc hb)
  clear hc hb hk hS hcp hlen hfit
  obtain ⟨len, hl⟩ : ∃ len, len = foLen t.kids := ⟨_, rfl⟩
  rw [← hl] at HC
  rw [← hl]
  clear hl
  go_enter Try.func28, Try.ntmps28
  go_wp2_with fail
  refine HC.out.1.mono ?_
  rintro e w2 ⟨rv, rfl, hsp, hg⟩
  have hb2 : Below w.heap.size w w2 := HC.out.2.trans ⟨hg.1.os, hg.1.tape, hg.1.output, hg.1.size, fun k hk => hg.1.block k (by have := HC.out.2.size; omega) (by simp [Value.ownBlock])⟩
  have hsp' := hsp
  obtain ⟨hT, xs, ho, _⟩ := hsp
  obtain ⟨a, cap', rfl⟩ := owns_slice ho
  have HE := Lib.hid (And.intro hsp' hb2)
  clear hsp' ho hg hT
  rw [List.nil_append, spT_root] at HE ⊢
  obtain ⟨q, hq⟩ : ∃ q, q = ((spF 1 (rootF t)).take M).length := ⟨_, rfl⟩
  rw [← hq] at HE ⊢
  have HQ := Lib.hid hq
  clear hq
  go_wp2_with fail
  go_ret
  exact ⟨_, _, by rw [← HQ.out]; rfl, by rw [← HQ.out]; exact HE.out.1, HE.out.2⟩
end Go.Proofs.Ytfdcopegkhofnaa
