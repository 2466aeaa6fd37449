/-
  .
-/
import Derived.Test.YtchccbfljamjnaaGreatRows
import Derived.Laws.BitsAllLaws
import Derived.WalkKit
import Derived.WalkSpells
import Derived.WalkLawsBesides
import Derived.Deep.AppendLies
import Derived.Stop.BytesEq
import Derived.Lib.Hide
import Derived.Lib.BufSteps
import Derived.OwnWalk
import Derived.Maps.AppendAt
import Derived.Laws.AppendOwnNone
import Derived.Laws.IdiomStrings
import Derived.Laws.MakeOwn
import Derived.Test.YtchccbfljamjnaaGreatJPgQm
set_option maxRecDepth 100000
set_option maxHeartbeats 40000000

namespace Go.Proofs.YtchccbfljamjnaaGreat
def step1 (r : Nat) : Nat := if r % 2 = 1 then (r / 2) ^^^ 2197175160 else r / 2
def zW : Nat → Nat → Nat
 | 0, r => r
 | k + 1, r => zW k (step1 r)
def sh8 (r : Nat) : Nat := zW 8 r
def jq (r : Nat) (bs : List UInt8) : Nat := bs.foldl (fun r x => sh8 (r ^^^ x.toNat)) r
def qI (s : Nat) (bs : List UInt8) : Nat := 4294967295 - jq (4294967295 - s) bs
theorem J7 (a b : Nat) : (a ^^^ b) / 2 = a / 2 ^^^ b / 2 := by
 have := Nat.shiftRight_xor_distrib (a := a) (b := b) (i := 1)
 simpa [Nat.shiftRight_eq_div_pow] using this
theorem zaD (a b : Nat) : (a ^^^ b) % 2 = (a + b) % 2 := by
 have h0 := Nat.testBit_xor a b 0
 simp only [Nat.testBit_zero] at h0
 have ha : a % 2 = 0 ∨ a % 2 = 1 := by omega
 have hb : b % 2 = 0 ∨ b % 2 = 1 := by omega
 have hx : (a ^^^ b) % 2 = 0 ∨ (a ^^^ b) % 2 = 1 := by omega
 rcases ha with ha | ha <;> rcases hb with hb | hb <;> rcases hx with hx | hx <;> simp [ha, hb, hx] at h0 <;> omega
theorem Q9 (a b : Nat) : step1 (a ^^^ b) = step1 a ^^^ step1 b := by
 unfold step1
 rw [zaD, J7]
 have ha : a % 2 = 0 ∨ a % 2 = 1 := by omega
 have hb : b % 2 = 0 ∨ b % 2 = 1 := by omega
 generalize 2197175160 = p
 rcases ha with ha | ha <;> rcases hb with hb | hb
 · rw [if_neg (by omega), if_neg (by omega), if_neg (by omega)]
 · rw [if_pos (by omega), if_neg (by omega), if_pos (by omega), Nat.xor_assoc]
 · rw [if_pos (by omega), if_pos (by omega), if_neg (by omega), Nat.xor_assoc, Nat.xor_comm (b / 2) p, ← Nat.xor_assoc]
 · rw [if_neg (by omega), if_pos (by omega), if_pos (by omega), Nat.xor_assoc, Nat.xor_comm p, Nat.xor_assoc, Nat.xor_self, Nat.xor_zero]
theorem Y0 (k : Nat) : ∀ a b, zW k (a ^^^ b) = zW k a ^^^ zW k b := by
 induction k with
 | zero => intro a b; rfl
 | succ k ih => intro a b; show zW k (step1 _) = _; rw [Q9, ih]; rfl
theorem Zp (k : Nat) : step1 (2 * k) = k := by
 unfold step1
 rw [if_neg (by omega)]; omega
theorem Zq (j : Nat) : ∀ k, zW j (2 ^ j * k) = k := by
 induction j with
 | zero => intro k; simp [zW]
 | succ j ih => intro k; show zW j (step1 _) = _; rw [show 2 ^ (j + 1) * k = 2 * (2 ^ j * k) by rw [Nat.pow_succ, Nat.mul_comm (2 ^ j) 2, Nat.mul_assoc], Zp, ih]
theorem Yg (r : Nat) (h : r < 4294967296) : step1 r < 4294967296 := by
 unfold step1
 split
 · exact Nat.xor_lt_two_pow (n := 32) (by omega) (by omega)
 · omega
theorem Ja (k : Nat) : ∀ r, r < 4294967296 → zW k r < 4294967296 := by
 induction k with
 | zero => intro r h; exact h
 | succ k ih => intro r h; exact ih _ (Yg r h)
theorem JZ (r : Nat) (h : r < 4294967296) : sh8 r < 4294967296 := Ja 8 r h
theorem qQ (x : UInt8) : x.toNat < 256 := x.toNat_lt
theorem J6 (a b : Nat) (ha : a < 4294967296) (hb : b < 4294967296) : a ^^^ b < 4294967296 := Nat.xor_lt_two_pow (n := 32) ha hb
theorem Y8 (bs : List UInt8) : ∀ r, r < 4294967296 → jq r bs < 4294967296 := by
 induction bs with
 | nil => intro r h; exact h
 | cons x bs ih => intro r h; exact ih _ (JZ _ (J6 _ _ h (by have := qQ x; omega)))
theorem ZE (a b : List UInt8) (r : Nat) : jq r (a ++ b) = jq (jq r a) b := by simp [jq, List.foldl_append]
theorem kQ (l : List UInt8) (i : Nat) (x : UInt8) (r : Nat) (h : l[i]? = some x) : jq r (l.take (i + 1)) = sh8 (jq r (l.take i) ^^^ x.toNat) := by
 rw [List.take_add_one, h, ZE]; rfl
theorem zaC (x y : Nat) (h : x < 256) : x ^^^ 256 * y = x + 256 * y := by
 have h1 := Nat.two_pow_add_eq_or_of_lt (i := 8) (b := x) h y
 have h2 : (256 * y) ||| x = (256 * y) ^^^ x := by
  apply Nat.eq_of_testBit_eq
  intro i
  rw [Nat.testBit_or, Nat.testBit_xor]
  by_cases hi : i < 8
  · have : (256 * y).testBit i = false := by
     rw [show 256 * y = 2 ^ 8 * y by rfl, Nat.testBit_two_pow_mul]; simp; omega
    simp [this]
  · have : x.testBit i = false := Nat.testBit_lt_two_pow (nL h (by calc 256 = 2 ^ 8 := rfl
     _ ≤ 2 ^ i := Nat.pow_le_pow_right (by decide) (by omega)))
    simp [this]
 rw [Nat.xor_comm, ← h2]
 rw [show (256 : Nat) = 2 ^ 8 by rfl, ← h1]; omega
theorem Q8 (r : Nat) (x : UInt8) : sh8 (r ^^^ x.toNat) = sh8 (r % 256 ^^^ x.toNat) ^^^ r / 256 := by
 have e : r = r % 256 ^^^ 256 * (r / 256) := by rw [zaC _ _ (Nat.mod_lt _ (by decide))]; omega
 have e2 : r ^^^ x.toNat = (r % 256 ^^^ x.toNat) ^^^ 256 * (r / 256) := by
  conv => lhs; rw [e]
  rw [Nat.xor_assoc, Nat.xor_comm (256 * (r / 256)), ← Nat.xor_assoc]
 rw [e2]
 show zW 8 _ = zW 8 _ ^^^ _
 rw [Y0, show 256 * (r / 256) = 2 ^ 8 * (r / 256) by rfl, Zq]
end Go.Proofs.YtchccbfljamjnaaGreat
namespace Go.Proofs.YtchccbfljamjnaaGreat
open Go.RowKit
open Extern.Stop (cell)
theorem Zf {w : World} {k : Nat} {o : Obj} (h : w.heap[k]? = some o) : k < w.heap.size := (Array.getElem?_eq_some_iff.1 h).1
theorem Z5 {w w' : World} {B : Nat} {e : TypeId} {size : Nat} {v : Value} {n : Nat} {xs : List Value} (h : w.ownsRow B e size v n xs) (hk : ∀ g, v.ownBlock = some g → w'.heap[g]? = w.heap[g]?) : w'.ownsRow B e size v n xs := by
 obtain ⟨h1, h2⟩ := h
 refine ⟨h1, ?_⟩
 rcases h2 with h2 | ⟨g, cap, cur, hv, hg, hh, r⟩
 · exact Or.inl h2
 · exact Or.inr ⟨g, cap, cur, hv, hg, (hk g (by rw [hv]; rfl)).trans hh, r⟩
theorem QW {w : World} {B : Nat} {e : TypeId} {size : Nat} {v : Value} {n : Nat} {xs : List Value} (h : w.ownsRow B e size v n xs) (g : Nat) (hg : v.ownBlock = some g) : B ≤ g ∧ g < w.heap.size := by
 rcases h.2 with ⟨h, _⟩ | ⟨g', cap', cur, hv, hB, hh, _⟩
 · subst h; cases hg
 · subst hv; cases hg; exact ⟨hB, Zf hh⟩
def zD (B : Nat) (v : Value) (n : Nat) (xs : List Value) (W0 w : World) : Prop := w.ownsRow B 5 1 v n xs ∧ Below B W0 w ∧ B ≤ w.heap.size
theorem zD.buf {B : Nat} {v : Value} {n : Nat} {xs : List Value} {W0 w : World} (h : zD B v n xs W0 w) : Lib.OwnBuf B 5 v n xs W0 w := ⟨World.ownsRowF_of h.1, h.2⟩
abbrev yQ (B : Nat) (v : Value) (bs : List UInt8) (W0 w : World) : Prop := zD B v bs.length (bs.map cell) W0 w
theorem zD.below {B : Nat} {v : Value} {n : Nat} {xs : List Value} {W0 w : World} (h : zD B v n xs W0 w) : Below B W0 w := h.2.1
theorem zD.alloc {B : Nat} {v : Value} {n : Nat} {xs : List Value} {W0 w : World} (h : zD B v n xs W0 w) (o : Obj) : zD B v n xs W0 (w.alloc o) := ⟨Z5 h.1 (fun g hg => Below.heap_alloc _ _ _ (QW h.1 g hg).2), (Lib.OwnBuf.alloc h.buf o).2⟩
theorem zD.grown {B : Nat} {v v' : Value} {n n' : Nat} {xs xs' : List Value} {W0 w w' : World} (h : zD B v n xs W0 w) (ho : w'.ownsRow B 5 1 v' n' xs') (hg : w.grownBy w' v.ownBlock) : zD B v' n' xs' W0 w' := ⟨ho, (Lib.OwnBuf.grown h.buf (World.ownsRowF_of ho) hg).2⟩
theorem yQ.none (w : World) : yQ w.heap.size (.slice none 0 0) [] w w := ⟨World.ownsRow_nil _ _ _ _, Below.refl _ _, Nat.le_refl _⟩
section
variable {P : Program}
theorem qX {ops : Array Oper} {rest : List Oper} {o : Oper} {a : Act} {Q : Exit → Act → World → Prop} (hgd : o.guard = none) (s x : Operand) (t : TypeId)
 (ho : o.op = .call { callee := .builtin .append, args := #[s, x], argTypes := #[t, t] })
 (B : Nat) (i : TypeInfo) (ht : P.underlying t = some (.slice 5)) (hi : P.info? 5 = some i) (hz : i.zero = some (.int .u8 0)) (hsize : i.size = 1) (hby : i.bytes = 1)
 (v : Value) (n : Nat) (xs : List Value) (hs : a.eval s = v) (W0 w0 : World) (c : Int) (hb : zD B v n xs W0 w0)
 (g0 : Nat) (hg0 : g0 = w0.heap.size) (hx : a.eval x = .slice (some ⟨g0, 0, none⟩) 1 1) (hlen : n + 1 ≤ 140737488355328)
 (h : ∀ v' w', zD B v' (n + 1) (xs ++ [.int .u8 c]) W0 w' → wpList P ops Q rest (a.put o.dst v') w') : wpList P ops Q (o :: rest) a (w0.alloc (.cells #[.int .u8 c] 5)) := by
 subst hg0
 have hb' := hb.alloc (.cells #[.int .u8 c] 5)
 exact wpList_append_own _ hgd s x t ho B 5 i (.int .u8 0) 1 1 ht hi hz hsize hby rfl (by decide) v n xs hs hb'.1 ⟨w0.heap.size, 0, none⟩ 1 1 [.int .u8 c] hx rfl
  (World.news_of_block (cs := #[.int .u8 c]) (heap_alloc_new w0 _)) (by simp [Value.oneCell']) (by unfold maxLen; omega) (by omega) hb'.2.2 fun v' w' ho' hg _ => h v' w' (hb'.grown ho' hg)
theorem qN {ops : Array Oper} {rest : List Oper} {o : Oper} {a : Act} {Q : Exit → Act → World → Prop} {w : World} (hgd : o.guard = none) (sl x : Operand) (t : TypeId)
 (ho : o.op = .call { callee := .builtin .append, args := #[sl, x], argTypes := #[t, t] })
 (B : Nat) (i : TypeInfo) (ht : P.underlying t = some (.slice 5)) (hi : P.info? 5 = some i) (hz : i.zero = some (.int .u8 0)) (hsize : i.size = 1) (hby : i.bytes = 1)
 (v : Value) (n : Nat) (xs : List Value) (hs : a.eval sl = v) (W0 : World) (hb : zD B v n xs W0 w) (ad : Addr) (c : Nat) (bs : List UInt8) (hx : a.eval x = .slice (some ad) bs.length c) (hc : ∀ j u, bs[j]? = some u → w.cell? (ad.add j) = some (cell u)) (hlen : n + bs.length ≤ 140737488355328)
 (h : ∀ v' w', zD B v' (n + bs.length) (xs ++ bs.map cell) W0 w' → wpList P ops Q rest (a.put o.dst v') w') : wpList P ops Q (o :: rest) a w :=
 wpList_append_own _ hgd sl x t ho B 5 i (.int .u8 0) 1 1 ht hi hz hsize hby rfl (by decide) v n xs hs hb.1 ad bs.length c (bs.map cell) hx (by simp)
  (fun j u hj => by
    rw [List.getElem?_map, Option.map_eq_some_iff] at hj
    obtain ⟨y, hy, rfl⟩ := hj
    exact hc j y hy)
  (fun u hu => by
    obtain ⟨y, _, rfl⟩ := List.mem_map.1 hu
    rfl) (by unfold maxLen; omega) (by omega) hb.2.2 fun v' w' ho' hg _ => h v' w' (hb.grown ho' hg)
end
section
variable {P : Program}
theorem jr (w : World) (base : Nat) (t ty e : TypeId) (i : TypeInfo) (size : Nat) (ht : P.underlying t = some (.slice e)) (hi : P.info? e = some i)
 (v : Value) (n : Nat) (xs : List Value) (hown : w.ownsRowF base e size v n xs) (c : Nat) :
 (Builtin.append_ #[t, t] ty #[v, .slice none 0 c]).run P w = .ok v w := by
 rcases hown.2 with ⟨rfl, rfl⟩ | ⟨g, cap, cur, fz, rfl, _, _, _, hnc, _⟩
 · simp [Builtin.append_, run_underlying ht, sizeOf, typeInfo, hi, Builtin.lenOf, Builtin.firstCells]
 · simp [Builtin.append_, run_underlying ht, sizeOf, typeInfo, hi, Builtin.lenOf, Builtin.firstCells, hnc, storeCells]
theorem jm {ops : Array Oper} {rest : List Oper} {o : Oper} {a : Act} {Q : Exit → Act → World → Prop} {w : World} (hgd : o.guard = none) (sl x : Operand) (t : TypeId)
 (ho : o.op = .call { callee := .builtin .append, args := #[sl, x], argTypes := #[t, t] })
 (B : Nat) (i : TypeInfo) (ht : P.underlying t = some (.slice 5)) (hi : P.info? 5 = some i)
 (v : Value) (n : Nat) (xs : List Value) (hs : a.eval sl = v) (W0 : World) (hb : zD B v n xs W0 w) (c : Nat) (bs : List UInt8) (h0 : bs = []) (hx : a.eval x = .slice none bs.length c)
 (h : ∀ v' w', zD B v' (n + bs.length) (xs ++ bs.map cell) W0 w' → wpList P ops Q rest (a.put o.dst v') w') : wpList P ops Q (o :: rest) a w := by
 subst h0
 refine wpList_plain hgd fun K hK => ?_
 have hrun := jr (P := P) w B t o.type 5 i 1 ht hi v n xs (World.ownsRowF_of hb.1) c
 unfold Oper.wp
 simp [execOp, ho, resolve, invoke, builtin, hs, hx, hrun, Result.andThen]
 exact hK _ _ (h v w (by simpa using hb))
end
def Jk (B : Nat) (bs : List UInt8) (W0 : World) (e : Ending) (w' : World) : Prop := ∃ v', e = .returned v' ∧ yQ B v' bs W0 w'
theorem Tryz.Qd : (Tryz.prog.info? 5).map (fun i => (i.size, i.bytes, i.zero)) = some (1, 1, some (.int .u8 0)) := by kernel_rfl
theorem ZU {P : Program} {e : TypeId} (h : (P.info? e).map (fun i => (i.size, i.bytes, i.zero)) = some (1, 1, some (.int .u8 0))) : ∃ i, P.info? e = some i ∧ i.zero = some (.int .u8 0) ∧ i.size = 1 ∧ i.bytes = 1 := by
 rw [Option.map_eq_some_iff] at h
 obtain ⟨i, hi, he⟩ := h
 simp only [Prod.mk.injEq] at he
 exact ⟨i, hi, he.2.2, he.1, he.2.1⟩
def zx (w : World) (a : Option Addr) (bs : List UInt8) : Prop := (a = none → bs = []) ∧ ∀ ad, a = some ad → ∀ j u, bs[j]? = some u → w.cell? (ad.add j) = some (cell u)
theorem zx.nil (w : World) (a : Option Addr) : zx w a [] := ⟨fun _ => rfl, fun _ _ j u h => by simp at h⟩
theorem zx.take {w : World} {a : Option Addr} {bs : List UInt8} (h : zx w a bs) (n : Nat) : zx w a (bs.take n) :=
 ⟨fun e => by rw [h.1 e]; simp, fun ad e j u hj => h.2 ad e j u (by rw [List.getElem?_take] at hj; split at hj; exact hj; cases hj)⟩
theorem zx.kept {w w' : World} {a : Option Addr} {bs : List UInt8} (h : zx w a bs) (hk : ∀ ad, a = some ad → w'.heap[ad.block]? = w.heap[ad.block]?) : zx w' a bs :=
 ⟨h.1, fun ad e j u hj => by
  have h1 := h.2 ad e j u hj
  exact (World.cell?_of_block (a := ad.add j) (by have : (ad.add j).block = ad.block := (by unfold Addr.add; split <;> rfl); rw [this]; exact hk ad e)).trans h1⟩
theorem zx.lt {w : World} {ad : Addr} {bs : List UInt8} (h : zx w (some ad) bs) (hb : 0 < bs.length) : ad.block < w.heap.size := by
 obtain ⟨u, hu⟩ : ∃ u, bs[0]? = some u := ⟨bs[0], List.getElem?_eq_getElem hb⟩
 have := World.block_lt_of_cell? w _ (h.2 ad rfl 0 u hu)
 have e : (ad.add 0).block = ad.block := by unfold Addr.add; split <;> rfl
 omega
theorem zx.below {w w' : World} {a : Option Addr} {bs : List UInt8} (h : zx w a bs) (hb : Below w.heap.size w w') : zx w' a bs := by
 by_cases h0 : 0 < bs.length
 · exact h.kept fun ad e => hb.block _ (by subst e; exact h.lt h0)
 · rw [List.eq_nil_of_length_eq_zero (by omega : bs.length = 0)]; exact zx.nil _ _
theorem yQ.zbu {B : Nat} {v : Value} {bs : List UInt8} {W0 w : World} (h : yQ B v bs W0 w) : ∃ a cap, v = .slice a bs.length cap ∧ zx w a bs ∧ bs.length ≤ cap ∧ (cap : Int) ≤ 9223372036854775807 := by
 have ho := World.ownsRowF_of h.1
 have hc := fun g hg => World.ownsRowF.cells ho (g := g) hg
 rcases ho.2 with ⟨hv, hn⟩ | ⟨g, cap, cur, fz, hv, _, _, _, h3, h4, _⟩
 · exact ⟨Option.none, 0, by rw [hv, hn], ⟨fun _ => List.eq_nil_of_length_eq_zero hn, fun ad e => by cases e⟩, by omega, by omega⟩
 · subst hv
   exact ⟨_, cap, rfl, ⟨fun e => (by cases e), fun ad e j u hj => by
    cases e
    exact hc g rfl j _ (by rw [List.getElem?_map, hj]; rfl)⟩, h3, by unfold maxLen at h4; omega⟩
theorem zx.text {w : World} {a : Option Addr} {bs : List UInt8} (h : zx w a bs) (cap : Nat) : (convert 45 9 (.slice a bs.length cap)).run Tryz.prog w = .ok (.string ⟨bs.toArray⟩) w := by
 cases a with
 | none =>
   have hb := h.1 rfl
   subst hb
   show (convert 45 9 (.slice Option.none 0 cap)).run Tryz.prog w = _
   rw [run_convert_bytes_string w _ _ _ Option.none 0 cap Tryz.underlying45 Tryz.underlying5 Tryz.underlying9]
   simp [Conv.bytesToString]
   rfl
 | some ad =>
   exact run_convert_bytes_back w _ _ _ ad cap bs Tryz.underlying45 Tryz.underlying5 Tryz.underlying9 (fun j hj => h.2 ad rfl j _ (List.getElem?_eq_getElem hj))
end Go.Proofs.YtchccbfljamjnaaGreat
