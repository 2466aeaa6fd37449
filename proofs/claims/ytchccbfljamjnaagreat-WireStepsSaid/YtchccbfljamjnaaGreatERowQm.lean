/-
  .
-/
import Derived.Test.YtchccbfljamjnaaGreatRWalkQm
import Derived.Test.YtchccbfljamjnaaGreatGRiseQm
import Derived.Test.YtchccbfljamjnaaGreatEHeldQm
import Derived.Deep.LoopGhost
import Derived.Laws.EntriesVeiled
import Derived.Deep.RegionLaw
import Derived.Laws.OwnMore
import Derived.IntWalk
import Derived.BigQuiet
import Derived.Deep.Quiet
import Derived.Test.YtchccbfljamjnaaGreatJPgQm
set_option maxRecDepth 100000
set_option maxHeartbeats 40000000
set_option linter.unusedVariables false
set_option linter.unusedSimpArgs false
namespace Go.Proofs.YtchccbfljamjnaaGreat
open Go.RowKit
def zac (w : World) (t : Tr) (e : Ending) (w' : World) : Prop := ∃ a n cap, e = .returned (.slice a n cap) ∧ qC w' w.heap.size (.slice a n cap) n ∧ Below w.heap.size w w' ∧ (2001 ≤ n ∨ n = zb t.kids + 1) ∧ n ≤ 2001
theorem J5 (w : World) (S : Nat → Prop) (v : Value) (t : Tr) (hlen : foLen t.kids ≤ 9223372036854775807) (hfit : qf t.kids) (hS : ∀ k, S k → k < w.heap.size) (hv : qj w S v t) :
 Calls Tryz.prog 36 #[v, .int .i64 2001] w (zac w t) := by
 obtain ⟨ka, cap, rfl, hcp, hk⟩ := hv
 have hb : Below w.heap.size w (w.alloc (.cells #[.int .i64 t.id, .int .i64 t.kind, .string t.text, .slice ka (foLen t.kids) cap] 35)) := (Below.refl _ _).alloc (Nat.le_refl _) _
 have hc := Q6 _ (w.alloc (.cells #[.int .i64 t.id, .int .i64 t.kind, .string t.text, .slice ka (foLen t.kids) cap] 35)) S _ t w.heap.size (.slice none 0 0) 0 1 (Nat.lt_succ_self _) hlen hfit hS hb.size ⟨ka, cap, rfl, hcp, hk.below hb hS⟩ ⟨[], World.ownsRow_nil _ _ _ _, fun i hi => by omega⟩ (by omega) (by omega) (by omega)
 have HC := hH (aN hc hb)
 clear hc hb hk hfit hS
 obtain ⟨len, hl⟩ : ∃ len, len = foLen t.kids := ⟨_, rfl⟩
 rw [← hl] at HC
 rw [← hl]
 clear hl
 go_enter Tryz.func36, Tryz.ntmps36
 go_wp2_with fail
 refine HC.out.1.mono ?_
 rintro e w2 ⟨rv, n, rfl, hsp, hg, hn, hn2, _⟩
 have hb2 : Below w.heap.size w w2 := HC.out.2.trans ⟨hg.1.os, hg.1.tape, hg.1.output, hg.1.size, fun k hk => hg.1.block k (by have := HC.out.2.size; omega) (by simp [Value.ownBlock])⟩
 have hsp' := hsp
 obtain ⟨xs, ho, _⟩ := hsp
 obtain ⟨a, cap', rfl⟩ := zO ho
 have HE := hH (aN hsp' (aN hb2 (show 2001 ≤ n ∨ n = zb t.kids + 1 by omega)))
 clear hsp' ho hg hn hb2
 go_wp2_with fail
 go_ret
 exact ⟨_, _, _, rfl, HE.out.1, HE.out.2.1, HE.out.2.2, hn2⟩
def zaO (w : World) (t : Tr) (e : Ending) (w' : World) : Prop := ∃ b, e = .returned (.bool b) ∧ (b = false → zb t.kids + 1 ≤ 2000) ∧ Below w.heap.size w w'
theorem jN (w : World) (S : Nat → Prop) (v : Value) (t : Tr) (hlen : foLen t.kids ≤ 9223372036854775807) (hfit : qf t.kids) (hS : ∀ k, S k → k < w.heap.size) (hv : qj w S v t) :
 Calls Tryz.prog 26 #[v] w (zaO w t) := by
 obtain ⟨ka, cap, rfl, hcp, hk⟩ := hv
 have hb : Below w.heap.size w (w.alloc (.cells #[.int .i64 t.id, .int .i64 t.kind, .string t.text, .slice ka (foLen t.kids) cap] 35)) := (Below.refl _ _).alloc (Nat.le_refl _) _
 have hc := J5 (w.alloc (.cells #[.int .i64 t.id, .int .i64 t.kind, .string t.text, .slice ka (foLen t.kids) cap] 35)) S _ t hlen hfit (fun k hk => nL (hS k hk) hb.size) ⟨ka, cap, rfl, hcp, hk.below hb hS⟩
 have HC := hH (aN hc hb)
 clear hc hb hk hfit hS
 obtain ⟨len, hl⟩ : ∃ len, len = foLen t.kids := ⟨_, rfl⟩
 rw [← hl] at HC
 rw [← hl]
 clear hl
 go_enter Tryz.func26, Tryz.ntmps26
 go_wp2_with fail
 refine HC.out.1.mono ?_
 rintro e w2 ⟨a, n, cap', rfl, ⟨xs, ho, hx⟩, hb2, hn, hn2⟩
 have HB : Hid (Below w.heap.size w w2) := show Below w.heap.size w w2 from HC.out.2.trans (hb2.mono HC.out.2.size)
 clear hb2
 by_cases hg : 2000 < n
 · have hg2 : (2000 : Int) < (n : Int) := by omega
   clear hn
   go_wp2_with fail
   go_ret
   exact ⟨true, rfl, (fun e => by cases e), HB.out⟩
 · have hg2 : ¬ (2000 : Int) < (n : Int) := by omega
   have HS : Hid (zb t.kids + 1 ≤ 2000) := show zb t.kids + 1 ≤ 2000 by omega
   have HO := hH (aN ho hx)
   clear hn ho hx
   go_wp2_with fail
   go_loop [4] (fun i => ∃ k : Nat, k ≤ n ∧ i = .int .i64 k) (fun i => n - (intOf i).toNat)
   case atStart => exact ⟨0, Nat.zero_le _, rfl⟩
   case round =>
    obtain ⟨k, hk, rfl⟩ := hrel
    by_cases hlt : k < n
    · obtain ⟨d, hd⟩ := HO.out.2 k hlt
      have ho := HO.out.1
      have hgg : ∃ g, a = some ⟨g, 0, none⟩ := by
       rcases ho.2 with ⟨hv, h0⟩ | ⟨g, cap2, cur, hv, _⟩
       · omega
       · cases hv; exact ⟨g, rfl⟩
      obtain ⟨g, rfl⟩ := hgg
      have c4 : w2.cell? ⟨g, k * 5 + 4, none⟩ = some (.int .i64 d) := zK ho rfl _ _ hd
      have hkl : (k : Int) < (n : Int) := by omega
      clear ho hd
      by_cases hdd : 2000 < d
      · go_wp2_with fail
        go_ret
        exact ⟨true, rfl, (fun e => by cases e), HB.out⟩
      · go_wp2_with fail
        exact ⟨⟨k + 1, by omega, by go_num⟩, by simp [intOf]; omega⟩
    · have hkl : ¬ (k : Int) < (n : Int) := by omega
      go_wp2_with fail
      go_ret
      exact ⟨false, rfl, fun _ => HS.out, HB.out⟩
theorem QO (t : Tr) : vw (spF 1 (zX t)) = (zb t.kids : Int) + 1 := by
 rw [vw, yz, yx]; omega
end Go.Proofs.YtchccbfljamjnaaGreat
namespace Go.Proofs.YtchccbfljamjnaaGreat
open Go.RowKit Go.Shelf
attribute [local go_sem] Oper.semAt_some
def Jn (w : World) (et : TypeId) (size : Nat) (f : Sp → List Value) (l : List Sp) (e : Ending) (w' : World) : Prop := ∃ v, e = .returned v ∧ w'.ownsRow w.heap.size et size v l.length (l.flatMap f) ∧ Below w.heap.size w w'
structure jD (w : World) (st et ft : TypeId) (size LB OB g cap : Nat) (fv : Value) (f : Sp → List Value) (pre : List Sp) (V : World) : Prop where
 cell : V.heap[LB]? = some (.cells #[.slice (some ⟨g, 0, none⟩) pre.length cap] st (0, 0))
 of_ : V.heap[OB]? = some (.cells #[fv] ft (0, 0))
 own : V.ownsRow w.heap.size et size (.slice (some ⟨g, 0, none⟩) pre.length cap) pre.length (pre.flatMap f)
 below : Below w.heap.size w V
theorem jD.keep {w V V' : World} {st et ft : TypeId} {size LB OB g cap : Nat} {fv : Value} {f : Sp → List Value} {pre : List Sp} (h : jD w st et ft size LB OB g cap fv f pre V) (ho : V'.os = V.os ∧ V'.tape = V.tape ∧ V'.output = V.output ∧ V.heap.size ≤ V'.heap.size) (M : Nat) (hL : LB < M) (hO : OB < M) (hg : g < M) (hw : w.heap.size ≤ M) (hk : ∀ x, x < M → x < V.heap.size → V'.heap[x]? = V.heap[x]?) : jD w st et ft size LB OB g cap fv f pre V' :=
 ⟨(hk _ hL (lt_of_heap h.cell)).trans h.cell, (hk _ hO (lt_of_heap h.of_)).trans h.of_, zw h.own (fun g' cur hc hg' => by cases hg'; exact hk _ hg (lt_of_heap hc)), ho.1.trans h.below.os, ho.2.1.trans h.below.tape, ho.2.2.1.trans h.below.output, Nat.le_trans h.below.size ho.2.2.2, fun x hx => (hk x (by omega) (by have := h.below.size; omega)).trans (h.below.block x hx)⟩
section
variable {n : Nat} {P : Program}
theorem kP {ops : Array Oper} {Q : Exit → Act → World → Prop} {md : Region.Mode} {S : World → Prop} {i j : Nat} {o o' : Oper} {fuel : Nat} {listed : Array Bool} {a : Act} {w : World} (hr : Region.ready md ops listed = [i, j]) (ho : ops[i]? = some o) (ho' : ops[j]? = some o')
 (h : ∀ K : Act → World → Prop, (∀ a' w', S w' → yC n P md ops Q S fuel (listed.setIfInBounds i true) a' w' → K a' w') → if Region.wanted o (yielded ops a.tmps) = true then Oper.wpIn Fence.wide n P o a w K Q else K (a.put o.dst undef) w)
 (h' : ∀ K : Act → World → Prop, (∀ a' w', S w' → yC n P md ops Q S fuel (listed.setIfInBounds j true) a' w' → K a' w') → if Region.wanted o' (yielded ops a.tmps) = true then Oper.wpIn Fence.wide n P o' a w K Q else K (a.put o'.dst undef) w) : yC n P md ops Q S (fuel + 1) listed a w := by
 have one : ∀ (k : Nat) (o : Oper), ops[k]? = some o → (∀ K : Act → World → Prop, (∀ a' w', S w' → yC n P md ops Q S fuel (listed.setIfInBounds k true) a' w' → K a' w') → if Region.wanted o (yielded ops a.tmps) = true then Oper.wpIn Fence.wide n P o a w K Q else K (a.put o.dst undef) w) → wpOpIn Fence.wide n P ops Q k (fun a' w' => S w' ∧ yC n P md ops Q S fuel (listed.setIfInBounds k true) a' w') a w := fun k o ho h => by
  unfold wpOpIn
  rw [ho]
  have := h (fun a' w' => S w' ∧ yC n P md ops Q S fuel (listed.setIfInBounds k true) a' w') (fun a' w' h1 h2 => ⟨h1, h2⟩)
  show if Region.wanted o (yielded ops a.tmps) = true then _ else _
  split
  · rename_i hw; rw [if_pos hw] at this; exact this
  · rename_i hw; rw [if_neg hw] at this; exact ⟨fun _ _ => trivial, this⟩
 refine ⟨fun h0 => (by rw [hr] at h0; cases h0), fun k hk => ?_⟩
 rw [hr] at hk
 simp only [List.mem_cons, List.not_mem_nil, or_false] at hk
 rcases hk with rfl | rfl
 · exact one _ _ ho h
 · exact one _ _ ho' h'
theorem yJ (w : World) {o : Oper} {a : Act} {K : Act → World → Prop} {Q : Exit → Act → World → Prop} (s x : Operand) (t : TypeId) (hop : o.op = Op.call { callee := Callee.builtin Builtin.append, args := #[s, x], argTypes := #[t, t] })
 (base : Nat) (e : TypeId) (i : TypeInfo) (size : Nat) (h1 : P.underlying t = some (.slice e)) (h2 : P.info? e = some i) (h4 : i.size = size)
 (g k cap : Nat) (xs : List Value) (hs : a.eval s = .slice (some ⟨g, 0, none⟩) k cap) (hown : w.ownsRow base e size (.slice (some ⟨g, 0, none⟩) k cap) k xs) (ad : Addr) (m c : Nat) (news : List Value) (hx : a.eval x = .slice (some ad) m c) (hn : news.length = m * size)
 (hc : ∀ j u, news[j]? = some u → w.cell? (ad.add j) = some u) (h1c : ∀ u ∈ news, u.oneCell' = true) (b1 : k + m ≤ cap)
 (hK : ∀ w', w'.ownsRow base e size (.slice (some ⟨g, 0, none⟩) (k + m) cap) (k + m) (xs ++ news) → w.grownBy w' (some g) → K (a.put o.dst (.slice (some ⟨g, 0, none⟩) (k + m) cap)) w') : Oper.wpIn Fence.wide n P o a w K Q := by
 obtain ⟨w', hrun, r1, r2⟩ := run_append_fits (P := P) w base t o.type e i size h1 h2 h4 g k cap xs hown ad m c news hn hc h1c b1
 unfold Oper.wpIn
 refine ⟨?_, ?_⟩
 · simp [Oper.about, hop, resolve, Target.leads, Sem.run_pure]
 · rw [Oper.semAt_plain Fence.wide _ _ (by rw [hop]; intro c hc'; cases hc')]
   simp [execOp, hop, resolve, invoke, builtin, hs, hx, hrun, Result.andThen]
   exact hK w' r1 r2
end
theorem Zn {w V1 V2 w4 : World} {st et ft : TypeId} {size LB OB g cap : Nat} {fv : Value} {f : Sp → List Value} {pre : List Sp} {x : Sp} {o : Obj} (hR : jD w st et ft size LB OB g cap fv f pre V1) (hb : Below V1.heap.size V1 V2) (hown : w4.ownsRow w.heap.size et size (.slice (some ⟨g, 0, none⟩) (pre.length + 1) cap) (pre.length + 1) (pre.flatMap f ++ f x))
 (hgr : (V2.alloc o).grownBy w4 (some g)) (hLg : LB ≠ g) (hOg : OB ≠ g) (hLO : LB ≠ OB) (hwL : w.heap.size ≤ LB) (hwg : w.heap.size ≤ g) :
 ∃ V5, V5 = w4.setCell ⟨LB, 0, none⟩ (.slice (some ⟨g, 0, none⟩) (pre.length + 1) cap) ∧ jD w st et ft size LB OB g cap fv f (pre ++ [x]) V5 ∧ (∀ y, y < V1.heap.size → y ≠ g → y ≠ LB → V5.heap[y]? = V1.heap[y]?) ∧ V1.heap.size ≤ V5.heap.size ∧ w4.frozen? ⟨LB, 0, none⟩ = false := by
 have hs := hb.size
 have hs4 := hgr.size
 rw [World.size_alloc] at hs4
 have h4 : ∀ y, y < V1.heap.size → y ≠ g → w4.heap[y]? = V1.heap[y]? := fun y hy hg => by
  rw [hgr.block y (by rw [World.size_alloc]; omega) (by simpa using hg), Below.heap_alloc V2 _ _ (by omega), hb.block y hy]
 have h5 : ∀ y, y ≠ LB → (w4.setCell ⟨LB, 0, none⟩ (.slice (some ⟨g, 0, none⟩) (pre.length + 1) cap)).heap[y]? = w4.heap[y]? := fun y hy => Below.heap_setCell _ _ _ _ hy
 have hL4 := (h4 LB (lt_of_heap hR.cell) hLg).trans hR.cell
 have hO4 := (h4 OB (lt_of_heap hR.of_) hOg).trans hR.of_
 have hbl := hR.below
 refine ⟨_, rfl, ⟨?_, (h5 _ hLO.symm).trans hO4, ?_, ?_⟩, fun y hy h1 h2 => (h5 y h2).trans (h4 y hy h1), by simp [World.setCell]; omega, frozen_of_row _ _ 0 _ _ hL4⟩
 · rw [heap_setCell_same _ LB 0 _ _ _ hL4]; simp
 · have := zw hown (w' := w4.setCell ⟨LB, 0, none⟩ (.slice (some ⟨g, 0, none⟩) (pre.length + 1) cap)) (fun g' cur hc hg' => by cases hg'; exact h5 _ hLg.symm)
   simpa using this
 · exact ⟨hgr.os.trans (hb.os.trans hbl.os), hgr.tape.trans (hb.tape.trans hbl.tape), hgr.output.trans (hb.output.trans hbl.output), by have := hbl.size; simp [World.setCell]; omega, fun y hy => by
    have := hbl.size
    rw [h5 y (by omega), h4 y (by omega) (by omega)]; exact hbl.block y hy⟩
end Go.Proofs.YtchccbfljamjnaaGreat
namespace Go.Proofs.YtchccbfljamjnaaGreat
open Go.RowKit Go.Shelf
attribute [local go_sem] Oper.semAt_some
theorem Zl {n : Nat} {P : Program} {ops : Array Oper} {Q : Exit → Act → World → Prop} {S : World → Prop} {id : Nat} {a : Act} {w : World} (hm : P.follows .mixedOrders = true) (h : yC n P .any ops Q S ops.size (Array.replicate ops.size false) a w.drew) : (Code.region id ops true).wpIn Fence.wide n P Q a w :=
 wpIn_region_any hm (qF _ _ _ _ h)
theorem Zk {n : Nat} {P : Program} {ops : Array Oper} {Q : Exit → Act → World → Prop} {S : World → Prop} {id : Nat} {a : Act} {w : World} (hm : P.follows .mixedOrders = true) (h : yC n P .any ops (fun e a w => e = .normal ∧ Q .normal a w) S ops.size (Array.replicate ops.size false) a w.drew) : (Code.region id ops true).wpIn Fence.wide n P Q a w :=
 wpIn_mono (Zl hm h) (fun e a w h => by obtain ⟨rfl, h⟩ := h; exact h)
end Go.Proofs.YtchccbfljamjnaaGreat
