/-
  Bytes that a call owns, and bytes that a slice tells: plain definitions and their small laws. No condition but that there are not too many of them.
-/
import Derived.Test.YtpceledeeplhlaaSPlain
import Derived.WalkKit
import Derived.WalkSpells
import Derived.WalkLawsBesides
import Derived.Deep.AppendLies
import Derived.Stop.BytesEq
import Derived.Lib.Hide
import Derived.Lib.BufSteps
import Derived.OwnWalk
import Derived.Maps.AppendAt
import Derived.Laws.AppendOwnNone
import Derived.Laws.IdiomStrings
import Derived.Laws.MakeOwn
namespace Go.Proofs.Ytpceledeeplhlaa
open Go.RowKit
open Extern.Stop (cell)

theorem lt_of_heap {w : World} {k : Nat} {o : Obj} (h : w.heap[k]? = some o) : k < w.heap.size := (Array.getElem?_eq_some_iff.1 h).1
theorem owns_keep {w w' : World} {B : Nat} {e : TypeId} {size : Nat} {v : Value} {n : Nat} {xs : List Value} (h : w.ownsRow B e size v n xs) (hk : ∀ g, v.ownBlock = some g → w'.heap[g]? = w.heap[g]?) : w'.ownsRow B e size v n xs := by
  obtain ⟨h1, h2⟩ := h
  refine ⟨h1, ?_⟩
  rcases h2 with h2 | ⟨g, cap, cur, hv, hg, hh, r⟩
  · exact Or.inl h2
  · exact Or.inr ⟨g, cap, cur, hv, hg, (hk g (by rw [hv]; rfl)).trans hh, r⟩
theorem owns_lt {w : World} {B : Nat} {e : TypeId} {size : Nat} {v : Value} {n : Nat} {xs : List Value} (h : w.ownsRow B e size v n xs) (g : Nat) (hg : v.ownBlock = some g) : B ≤ g ∧ g < w.heap.size := by
  rcases h.2 with ⟨h, _⟩ | ⟨g', cap', cur, hv, hB, hh, _⟩
  · subst h; cases hg
  · subst hv; cases hg; exact ⟨hB, lt_of_heap hh⟩

/-- The bytes that a call owns, from block B on. -/
def OwnS (B : Nat) (v : Value) (n : Nat) (xs : List Value) (W0 w : World) : Prop := w.ownsRow B 5 1 v n xs ∧ Below B W0 w ∧ B ≤ w.heap.size
theorem OwnS.buf {B : Nat} {v : Value} {n : Nat} {xs : List Value} {W0 w : World} (h : OwnS B v n xs W0 w) : Lib.OwnBuf B 5 v n xs W0 w := ⟨World.ownsRowF_of h.1, h.2⟩
abbrev OwnB (B : Nat) (v : Value) (bs : List UInt8) (W0 w : World) : Prop := OwnS B v bs.length (bs.map cell) W0 w
theorem OwnS.below {B : Nat} {v : Value} {n : Nat} {xs : List Value} {W0 w : World} (h : OwnS B v n xs W0 w) : Below B W0 w := h.2.1
theorem OwnS.alloc {B : Nat} {v : Value} {n : Nat} {xs : List Value} {W0 w : World} (h : OwnS B v n xs W0 w) (o : Obj) : OwnS B v n xs W0 (w.alloc o) := ⟨owns_keep h.1 (fun g hg => Below.heap_alloc _ _ _ (owns_lt h.1 g hg).2), (Lib.OwnBuf.alloc h.buf o).2⟩
theorem OwnS.grown {B : Nat} {v v' : Value} {n n' : Nat} {xs xs' : List Value} {W0 w w' : World} (h : OwnS B v n xs W0 w) (ho : w'.ownsRow B 5 1 v' n' xs') (hg : w.grownBy w' v.ownBlock) : OwnS B v' n' xs' W0 w' := ⟨ho, (Lib.OwnBuf.grown h.buf (World.ownsRowF_of ho) hg).2⟩
theorem OwnB.none (w : World) : OwnB w.heap.size (.slice none 0 0) [] w w := ⟨World.ownsRow_nil _ _ _ _, Below.refl _ _, Nat.le_refl _⟩
/-- What happens apart from it leaves it. -/
theorem OwnS.more {B : Nat} {v : Value} {n : Nat} {xs : List Value} {W0 w w' : World} (h : OwnS B v n xs W0 w) (hb : Below w.heap.size w w') : OwnS B v n xs W0 w' :=
  ⟨owns_keep h.1 (fun g hg => hb.block g (owns_lt h.1 g hg).2), h.2.1.trans (hb.mono h.2.2), Nat.le_trans h.2.2 hb.size⟩
section
variable {P : Program}
/-- One byte more, which lies in a block that was just laid. -/
theorem wpList_byte {ops : Array Oper} {rest : List Oper} {o : Oper} {a : Act} {Q : Exit → Act → World → Prop} (hgd : o.guard = none) (s x : Operand) (t : TypeId)
    (ho : o.op = .call { callee := .builtin .append, args := #[s, x], argTypes := #[t, t] })
    (B : Nat) (i : TypeInfo) (ht : P.underlying t = some (.slice 5)) (hi : P.info? 5 = some i) (hz : i.zero = some (.int .u8 0)) (hsize : i.size = 1) (hby : i.bytes = 1)
    (v : Value) (n : Nat) (xs : List Value) (hs : a.eval s = v) (W0 w0 : World) (c : Int) (hb : OwnS B v n xs W0 w0)
    (g0 : Nat) (hg0 : g0 = w0.heap.size) (hx : a.eval x = .slice (some ⟨g0, 0, none⟩) 1 1) (hlen : n + 1 ≤ 140737488355328)
    (h : ∀ v' w', OwnS B v' (n + 1) (xs ++ [.int .u8 c]) W0 w' → wpList P ops Q rest (a.put o.dst v') w') : wpList P ops Q (o :: rest) a (w0.alloc (.cells #[.int .u8 c] 5)) := by
  subst hg0
  have hb' := hb.alloc (.cells #[.int .u8 c] 5)
  exact wpList_append_own _ hgd s x t ho B 5 i (.int .u8 0) 1 1 ht hi hz hsize hby rfl (by decide) v n xs hs hb'.1 ⟨w0.heap.size, 0, none⟩ 1 1 [.int .u8 c] hx rfl
    (World.news_of_block (cs := #[.int .u8 c]) (heap_alloc_new w0 _)) (by simp [Value.oneCell']) (by unfold maxLen; omega) (by omega) hb'.2.2 fun v' w' ho' hg _ => h v' w' (hb'.grown ho' hg)
/-- The bytes of a slice behind them. -/
theorem wpList_bytes {ops : Array Oper} {rest : List Oper} {o : Oper} {a : Act} {Q : Exit → Act → World → Prop} {w : World} (hgd : o.guard = none) (sl x : Operand) (t : TypeId)
    (ho : o.op = .call { callee := .builtin .append, args := #[sl, x], argTypes := #[t, t] })
    (B : Nat) (i : TypeInfo) (ht : P.underlying t = some (.slice 5)) (hi : P.info? 5 = some i) (hz : i.zero = some (.int .u8 0)) (hsize : i.size = 1) (hby : i.bytes = 1)
    (v : Value) (n : Nat) (xs : List Value) (hs : a.eval sl = v) (W0 : World) (hb : OwnS B v n xs W0 w) (ad : Addr) (c : Nat) (bs : List UInt8) (hx : a.eval x = .slice (some ad) bs.length c) (hc : ∀ j u, bs[j]? = some u → w.cell? (ad.add j) = some (cell u)) (hlen : n + bs.length ≤ 140737488355328)
    (h : ∀ v' w', OwnS B v' (n + bs.length) (xs ++ bs.map cell) W0 w' → wpList P ops Q rest (a.put o.dst v') w') : wpList P ops Q (o :: rest) a w :=
  wpList_append_own _ hgd sl x t ho B 5 i (.int .u8 0) 1 1 ht hi hz hsize hby rfl (by decide) v n xs hs hb.1 ad bs.length c (bs.map cell) hx (by simp)
    (fun j u hj => by
      rw [List.getElem?_map, Option.map_eq_some_iff] at hj
      obtain ⟨y, hy, rfl⟩ := hj
      exact hc j y hy)
    (fun u hu => by
      obtain ⟨y, _, rfl⟩ := List.mem_map.1 hu
      rfl) (by unfold maxLen; omega) (by omega) hb.2.2 fun v' w' ho' hg _ => h v' w' (hb.grown ho' hg)
end
section
variable {P : Program}
theorem run_append_none (w : World) (base : Nat) (t ty e : TypeId) (i : TypeInfo) (size : Nat) (ht : P.underlying t = some (.slice e)) (hi : P.info? e = some i)
    (v : Value) (n : Nat) (xs : List Value) (hown : w.ownsRowF base e size v n xs) (c : Nat) :
    (Builtin.append_ #[t, t] ty #[v, .slice none 0 c]).run P w = .ok v w := by
  rcases hown.2 with ⟨rfl, rfl⟩ | ⟨g, cap, cur, fz, rfl, _, _, _, hnc, _⟩
  · simp [Builtin.append_, run_underlying ht, sizeOf, typeInfo, hi, Builtin.lenOf, Builtin.firstCells]
  · simp [Builtin.append_, run_underlying ht, sizeOf, typeInfo, hi, Builtin.lenOf, Builtin.firstCells, hnc, storeCells]
/-- No bytes behind them. -/
theorem wpList_none {ops : Array Oper} {rest : List Oper} {o : Oper} {a : Act} {Q : Exit → Act → World → Prop} {w : World} (hgd : o.guard = none) (sl x : Operand) (t : TypeId)
    (ho : o.op = .call { callee := .builtin .append, args := #[sl, x], argTypes := #[t, t] })
    (B : Nat) (i : TypeInfo) (ht : P.underlying t = some (.slice 5)) (hi : P.info? 5 = some i)
    (v : Value) (n : Nat) (xs : List Value) (hs : a.eval sl = v) (W0 : World) (hb : OwnS B v n xs W0 w) (c : Nat) (bs : List UInt8) (h0 : bs = []) (hx : a.eval x = .slice none bs.length c)
    (h : ∀ v' w', OwnS B v' (n + bs.length) (xs ++ bs.map cell) W0 w' → wpList P ops Q rest (a.put o.dst v') w') : wpList P ops Q (o :: rest) a w := by
  subst h0
  refine wpList_plain hgd fun K hK => ?_
  have hrun := run_append_none (P := P) w B t o.type 5 i 1 ht hi v n xs (World.ownsRowF_of hb.1) c
  unfold Oper.wp
  simp [execOp, ho, resolve, invoke, builtin, hs, hx, hrun, Result.andThen]
  exact hK _ _ (h v w (by simpa using hb))
end
def PutC (B : Nat) (bs : List UInt8) (W0 : World) (e : Ending) (w' : World) : Prop := ∃ v', e = .returned v' ∧ OwnB B v' bs W0 w'
theorem Try.infoU : (Try.prog.info? 5).map (fun i => (i.size, i.bytes, i.zero)) = some (1, 1, some (.int .u8 0)) := by kernel_rfl
theorem info_u {P : Program} {e : TypeId} (h : (P.info? e).map (fun i => (i.size, i.bytes, i.zero)) = some (1, 1, some (.int .u8 0))) : ∃ i, P.info? e = some i ∧ i.zero = some (.int .u8 0) ∧ i.size = 1 ∧ i.bytes = 1 := by
  rw [Option.map_eq_some_iff] at h
  obtain ⟨i, hi, he⟩ := h
  simp only [Prod.mk.injEq] at he
  exact ⟨i, hi, he.2.2, he.1, he.2.1⟩

/-- The bytes that a slice tells. -/
def ByAt (w : World) (a : Option Addr) (bs : List UInt8) : Prop := (a = none → bs = []) ∧ ∀ ad, a = some ad → ∀ j u, bs[j]? = some u → w.cell? (ad.add j) = some (cell u)
theorem ByAt.nil (w : World) (a : Option Addr) : ByAt w a [] := ⟨fun _ => rfl, fun _ _ j u h => by simp at h⟩
theorem ByAt.take {w : World} {a : Option Addr} {bs : List UInt8} (h : ByAt w a bs) (n : Nat) : ByAt w a (bs.take n) :=
  ⟨fun e => by rw [h.1 e]; simp, fun ad e j u hj => h.2 ad e j u (by rw [List.getElem?_take] at hj; split at hj; exact hj; cases hj)⟩
theorem ByAt.kept {w w' : World} {a : Option Addr} {bs : List UInt8} (h : ByAt w a bs) (hk : ∀ ad, a = some ad → w'.heap[ad.block]? = w.heap[ad.block]?) : ByAt w' a bs :=
  ⟨h.1, fun ad e j u hj => by
    have h1 := h.2 ad e j u hj
    exact (World.cell?_of_block (a := ad.add j) (by have : (ad.add j).block = ad.block := by unfold Addr.add; split <;> rfl
                                                    rw [this]; exact hk ad e)).trans h1⟩
theorem ByAt.lt {w : World} {ad : Addr} {bs : List UInt8} (h : ByAt w (some ad) bs) (hb : 0 < bs.length) : ad.block < w.heap.size := by
  obtain ⟨u, hu⟩ : ∃ u, bs[0]? = some u := ⟨bs[0], List.getElem?_eq_getElem hb⟩
  have := World.block_lt_of_cell? w _ (h.2 ad rfl 0 u hu)
  have e : (ad.add 0).block = ad.block := by unfold Addr.add; split <;> rfl
  omega
theorem ByAt.below {w w' : World} {a : Option Addr} {bs : List UInt8} (h : ByAt w a bs) (hb : Below w.heap.size w w') : ByAt w' a bs := by
  by_cases h0 : 0 < bs.length
  · exact h.kept fun ad e => hb.block _ (by subst e; exact h.lt h0)
  · rw [List.eq_nil_of_length_eq_zero (by omega : bs.length = 0)]; exact ByAt.nil _ _
/-- What a call owns is a slice of these bytes. -/
theorem OwnB.byAt {B : Nat} {v : Value} {bs : List UInt8} {W0 w : World} (h : OwnB B v bs W0 w) : ∃ a cap, v = .slice a bs.length cap ∧ ByAt w a bs ∧ bs.length ≤ cap ∧ (cap : Int) ≤ 9223372036854775807 := by
  have ho := World.ownsRowF_of h.1
  have hc := fun g hg => World.ownsRowF.cells ho (g := g) hg
  rcases ho.2 with ⟨hv, hn⟩ | ⟨g, cap, cur, fz, hv, _, _, _, h3, h4, _⟩
  · exact ⟨Option.none, 0, by rw [hv, hn], ⟨fun _ => List.eq_nil_of_length_eq_zero hn, fun ad e => by cases e⟩, by omega, by omega⟩
  · subst hv
    exact ⟨_, cap, rfl, ⟨fun e => (by cases e), fun ad e j u hj => by
      cases e
      exact hc g rfl j _ (by rw [List.getElem?_map, hj]; rfl)⟩, h3, by unfold maxLen at h4; omega⟩
/-- Bytes as a text. -/
theorem ByAt.text {w : World} {a : Option Addr} {bs : List UInt8} (h : ByAt w a bs) (cap : Nat) : (convert 22 9 (.slice a bs.length cap)).run Try.prog w = .ok (.string ⟨bs.toArray⟩) w := by
  cases a with
  | none =>
    have hb := h.1 rfl
    subst hb
    show (convert 22 9 (.slice Option.none 0 cap)).run Try.prog w = _
    rw [run_convert_bytes_string w _ _ _ Option.none 0 cap Try.underlying22 Try.underlying5 Try.underlying9]
    simp [Conv.bytesToString]
    rfl
  | some ad =>
    exact run_convert_bytes_back w _ _ _ ad cap bs Try.underlying22 Try.underlying5 Try.underlying9 (fun j hj => h.2 ad rfl j _ (List.getElem?_eq_getElem hj))
theorem OwnB.text {B : Nat} {v : Value} {bs : List UInt8} {W0 w : World} (h : OwnB B v bs W0 w) : (convert 22 9 v).run Try.prog w = .ok (.string ⟨bs.toArray⟩) w := by
  obtain ⟨a, cap, rfl, hb, _⟩ := h.byAt
  exact hb.text cap
theorem byAt_new (w : World) (bs : List UInt8) (t : TypeId) : ByAt (w.alloc (.cells (bs.map cell).toArray t)) (some ⟨w.heap.size, 0, Option.none⟩) bs := by
  refine ⟨fun h => (by cases h), fun ad e j u hj => ?_⟩
  cases e
  have hadd : (⟨w.heap.size, 0, Option.none⟩ : Addr).add j = ⟨w.heap.size, j, Option.none⟩ := by unfold Addr.add; split <;> simp_all
  rw [hadd, cell_of_row _ _ j _ _ _ (heap_alloc_new w _)]
  simp [hj]
end Go.Proofs.Ytpceledeeplhlaa
