/-
  .
-/
import Derived.OrdersIn
import Derived.OrdersHeld
import Derived.RangeFuncNested
import Derived.RangeFuncCalls
import Derived.Deep.RegionHeld
import Derived.TacticsInMore
import Derived.OwnWalkIn
import Derived.Test.YtonapijgfalpaaaGreatHWalkPQw
import Derived.Test.YtonapijgfalpaaaGreatKDelQw
import Derived.Test.YtonapijgfalpaaaGreatJPgQw
set_option maxRecDepth 100000
set_option maxHeartbeats 40000000
set_option linter.unusedVariables false
set_option linter.unusedSimpArgs false
namespace Go.Proofs.YtonapijgfalpaaaGreat
open Go.RowKit
section
variable {n : Nat} {P : Program} {ops : Array Oper} {Q : Exit → Act → World → Prop} {md : Region.Mode} {S : World → Prop}
theorem jM {i : Nat} {o : Oper} {v : Value} {a : Act} (hi : ops[i]? = some o) (hy : YieldsIf P ops S o v a) {K : Act → World → Prop} {w : World} (hS : S w) (h : K (a.put o.dst v) w) : wpOpIn Fence.wide n P ops Q i K a w := by
 unfold wpOpIn
 simp only [hi]
 rcases hy with ⟨hw, hv⟩ | ⟨hw, rfl⟩
 · simp only [hw, if_true, Oper.wpIn, show Fence.wide.round = none from rfl, Oper.semAt_none, hv w hS, Oper.uponIn]
   exact ⟨fun _ _ => trivial, h⟩
 · simp only [hw, Bool.false_eq_true, if_false]
   exact ⟨fun _ _ => trivial, h⟩
theorem JY {j : Nat} {oi oj : Oper} {v : Value} (hj : ops[j]? = some oj) (hap : oi.apart ops oj = true) (hsi : ∀ cs b, oi.op ≠ .select cs b) (hsj : ∀ cs b, oj.op ≠ .select cs b)
 (hQ : ∀ c a w, Q (.panic c) (a.put oi.dst v) w → Q (.panic c) a w) {K : Act → World → Prop} {a : Act} {w : World} (hy : YieldsIf P ops S oi v a) (h : wpOpIn Fence.wide n P ops Q j K (a.put oi.dst v) w) :
 wpOpIn Fence.wide n P ops Q j (fun a' w' => YieldsIf P ops S oi v a' ∧ K (a'.put oi.dst v) w') a w := by
 obtain ⟨h1, h2, h3⟩ := Oper.apart_spec hap
 have keep : ∀ (a : Act), YieldsIf P ops S oi v a → ∀ u, YieldsIf P ops S oi v (a.put oj.dst u) := fun a hy u =>
  hy.of_same (execOp_put oi hsi a oj.dst u h3) (wanted_put oi a oj.dst u h3)
 have keepD : ∀ d, YieldsIf P ops S oi v { a with defers := d :: a.defers } := fun d => hy.of_same rfl rfl
 unfold wpOpIn at *
 simp only [hj] at *
 rw [wanted_put oj a oi.dst v h1] at h
 split
 · rename_i hw
   simp only [hw, if_true] at h
   unfold Oper.wpIn at *
   refine ⟨fun _ _ => trivial, ?_⟩
   have h := h.2
   rw [show Fence.wide.round = none from rfl, Oper.semAt_none, execOp_put oj hsj a oi.dst v h1] at h
   rw [show Fence.wide.round = none from rfl, Oper.semAt_none]
   generalize (execOp a.eval oj).run P w = r at *
   cases r with
   | ok x w' =>
     cases x <;> simp only [Oper.uponIn] at h ⊢
     case value u => exact ⟨keep a hy u, by rw [← Act.put_comm a v u h2]; exact h⟩
     case skip => exact ⟨keep a hy _, by rw [← Act.put_comm a v undef h2]; exact h⟩
     case defer d =>
      refine ⟨keep _ (keepD d) _, ?_⟩
      rw [← Act.put_comm _ v undef h2, ← Act.put_defers]
      exact h
     case enter f args =>
      refine ⟨h.1, CallsIn.mono h.2 fun e w'' he => ?_⟩
      cases e with
      | returned u => exact ⟨keep a hy u, by rw [← Act.put_comm a v u h2]; exact he⟩
      | panicked c => exact hQ _ _ _ he
      | outgrown => exact he
     case row row args => exact ⟨h.1, RowsIn.mono h.2 fun u w'' he => ⟨keep a hy u, by rw [← Act.put_comm a v u h2]; exact he⟩⟩
     case round l f tmps assign body =>
      refine ⟨h.1, RoundIn.mono h.2 fun e w'' he => ?_⟩
      cases e with
      | returned u => exact ⟨keep a hy u, by rw [← Act.put_comm a v u h2]; exact he⟩
      | panicked c => exact hQ _ _ _ he
      | outgrown => exact he
   | halt x w' =>
     cases x <;> simp only [Oper.uponIn] at h ⊢
     case panic u => exact hQ _ _ _ h
 · rename_i hw
   simp only [hw] at h
   exact ⟨fun _ _ => trivial, keep a hy _, by rw [← Act.put_comm a v undef h2]; exact h.2⟩
def qi (n : Nat) (P : Program) (md : Region.Mode) (ops : Array Oper) (Q : Exit → Act → World → Prop) (S : World → Prop) : Nat → Array Bool → Act → World → Prop
 | 0, listed, a, w => Region.ready md ops listed = [] ∧ Q .normal a w
 | fuel + 1, listed, a, w => (Region.ready md ops listed = [] → Q .normal a w) ∧ ∀ i ∈ Region.ready md ops listed, wpOpIn Fence.wide n P ops Q i (fun a' w' => S w' ∧ qi n P md ops Q S fuel (listed.setIfInBounds i true) a' w') a w
theorem vU : ∀ (fuel : Nat) (listed : Array Bool) (a : Act) (w : World), qi n P md ops Q S fuel listed a w → wpAnyIn Fence.wide n P md ops Q fuel listed a w
 | 0, _, _, _, h => h
 | fuel + 1, _, _, _, h => ⟨h.1, fun i hi => wpOpIn_mono (fun a' w' h' => vU fuel _ a' w' h'.2) (h.2 i hi)⟩
theorem zaH {i : Nat} {oi : Oper} {v : Value} (hi : ops[i]? = some oi) (hsel : ∀ (j : Nat) (o : Oper) cs b, ops[j]? = some o → o.op ≠ .select cs b) (hQ : ∀ c a w, Q (.panic c) (a.put oi.dst v) w → Q (.panic c) a w) :
 ∀ (fuel : Nat) (listed : Array Bool) (a : Act) (w : World), (∀ j oj, ops[j]? = some oj → j ≠ i → listed.getD j true = false → (∀ e ∈ oj.after, Region.binds md e = true → e.on ≠ i) → oi.apart ops oj = true) →
  i ∈ Region.ready md ops listed → YieldsIf P ops S oi v a → S w → qi n P md ops Q S fuel (listed.setIfInBounds i true) (a.put oi.dst v) w → qi n P md ops Q S (fuel + 1) listed a w := by
 intro fuel
 induction fuel with
 | zero =>
   intro listed a w _ hr hy hS H
   refine ⟨fun h => (by rw [h] at hr; cases hr), fun j hj => ?_⟩
   by_cases hji : j = i
   · subst hji; exact jM hi hy hS ⟨hS, H⟩
   · have := ready_mono hj hji
     rw [H.1] at this
     cases this
 | succ fuel ih =>
   intro listed a w hfree hr hy hS H
   refine ⟨fun h => (by rw [h] at hr; cases hr), fun j hj => ?_⟩
   by_cases hji : j = i
   · subst hji; exact jM hi hy hS ⟨hS, H⟩
   · have h1 := H.2 j (ready_mono hj hji)
     obtain ⟨hjun, oj, hoj, hall⟩ := mem_ready.1 hj
     have hnot : ∀ e ∈ oj.after, Region.binds md e = true → e.on ≠ i := fun e he hb heq => by
      have h1 := hall e he hb
      have h0 := (mem_ready.1 hr).1
      rw [heq] at h1
      rcases Nat.lt_or_ge i listed.size with h' | h'
      · simp [h'] at h0 h1; rw [h0] at h1; cases h1
      · simp [Array.getElem?_eq_none h'] at h1
     have h2 := JY hoj (hfree j oj hoj hji hjun hnot) (fun cs b => hsel i oi cs b hi) (fun cs b => hsel j oj cs b hoj) hQ hy h1
     have hfree' : ∀ k ok, ops[k]? = some ok → k ≠ i → (listed.setIfInBounds j true).getD k true = false → (∀ e ∈ ok.after, Region.binds md e = true → e.on ≠ i) → oi.apart ops ok = true := fun k ok hk hki hun hno => by
      refine hfree k ok hk hki ?_ hno
      by_cases hjk : j = k
      · subst hjk; exact hjun
      · rw [getD_set_ne true hjk] at hun; exact hun
     refine wpOpIn_mono (fun a' w' h3 => ⟨h3.2.1, ih (listed.setIfInBounds j true) a' w' hfree' (ready_mono hr (Ne.symm hji)) h3.1 h3.2.1 ?_⟩) h2
     rw [Array.setIfInBounds_comm _ _ hji]
     exact h3.2.2
theorem zl {i : Nat} {oi : Oper} {v : Value} {fuel : Nat} {listed : Array Bool} {a : Act} {w : World} (hi : ops[i]? = some oi) (hs : Region.noSelect ops = true) (hf : Region.free md ops listed i = true) (hr : (Region.ready md ops listed).contains i = true)
 (hQ : ∀ c a w, Q (.panic c) (a.put oi.dst v) w → Q (.panic c) a w) (hy : YieldsIf P ops S oi v a) (hS : S w) (h : qi n P md ops Q S fuel (listed.setIfInBounds i true) (a.put oi.dst v) w) : qi n P md ops Q S (fuel + 1) listed a w :=
 zaH hi (Region.noSelect_spec hs) hQ fuel listed a w (Region.free_spec hi hf) (by simpa using hr) hy hS h
theorem zQ {i : Nat} {o : Oper} {fuel : Nat} {listed : Array Bool} {a : Act} {w : World} (hr : Region.ready md ops listed = [i]) (ho : ops[i]? = some o)
 (h : ∀ K : Act → World → Prop, (∀ a' w', S w' → qi n P md ops Q S fuel (listed.setIfInBounds i true) a' w' → K a' w') → if Region.wanted o (yielded ops a.tmps) = true then Oper.wpIn Fence.wide n P o a w K Q else K (a.put o.dst undef) w) : qi n P md ops Q S (fuel + 1) listed a w := by
 refine ⟨fun h0 => (by rw [hr] at h0; cases h0), fun j hj => ?_⟩
 rw [hr, List.mem_singleton] at hj
 subst hj
 unfold wpOpIn
 rw [ho]
 have := h (fun a' w' => S w' ∧ qi n P md ops Q S fuel (listed.setIfInBounds j true) a' w') (fun a' w' h1 h2 => ⟨h1, h2⟩)
 show if Region.wanted o (yielded ops a.tmps) = true then _ else _
 split
 · rename_i hw; rw [if_pos hw] at this; exact this
 · rename_i hw; rw [if_neg hw] at this; exact ⟨fun _ _ => trivial, this⟩
theorem yI {listed : Array Bool} {a : Act} {w : World} (hr : Region.ready md ops listed = []) (h : Q .normal a w) : ∀ fuel, qi n P md ops Q S fuel listed a w
 | 0 => ⟨hr, h⟩
 | _ + 1 => ⟨fun _ => h, by rw [hr]; simp⟩
theorem zbl {l i : Nat} {K : Act → World → Prop} {a : Act} {w : World} (hd : ∀ (j : Nat) (o : Oper) c, ops[j]? = some o → o.op ≠ .defer c) (h : wpOpIn Fence.wide n P ops Q i K a w) : wpOpIn (Fence.wide.inRound l) n P ops Q i K a w := by
 unfold wpOpIn at h ⊢
 cases ho : ops[i]? with
 | none => simpa only [ho] using h
 | some o =>
   simp only [ho] at h ⊢
   split
   · rename_i hw
     rw [if_pos hw] at h
     refine ⟨fun _ _ => trivial, ?_⟩
     rw [show (Fence.wide.inRound l).round = some l from rfl, Oper.semAt_some l _ o (fun c => hd i o c ho)]
     have h := h.2
     rw [show Fence.wide.round = none from rfl, Oper.semAt_none] at h
     generalize (execOp a.eval o).run P w = r at h ⊢
     cases r with
     | ok x w' => cases x <;> exact h
     | halt x w' => cases x <;> exact h
   · rename_i hw
     rw [if_neg hw] at h
     exact ⟨fun _ _ => trivial, h.2⟩
theorem Ye {l : Nat} (hd : ∀ (j : Nat) (o : Oper) c, ops[j]? = some o → o.op ≠ .defer c) : ∀ (fuel : Nat) (listed : Array Bool) (a : Act) (w : World), wpAnyIn Fence.wide n P md ops Q fuel listed a w → wpAnyIn (Fence.wide.inRound l) n P md ops Q fuel listed a w
 | 0, _, _, _, h => h
 | fuel + 1, _, _, _, h => ⟨h.1, fun i hi => zbl hd (wpOpIn_mono (fun a' w' h' => Ye hd fuel _ a' w' h') (h.2 i hi))⟩
theorem JX {ops : Array Oper} (h : (ops.toList.all fun o => match o.op with | .defer _ => false | _ => true) = true) (j : Nat) (o : Oper) (c) (hj : ops[j]? = some o) : o.op ≠ .defer c := fun e => by
 have := List.all_eq_true.1 h o (List.mem_of_getElem? (l := ops.toList) (i := j) (by simpa using hj))
 rw [e] at this; cases this
theorem jI {id l : Nat} {a : Act} {w : World} (hm : P.follows .mixedOrders = true) (hd : ∀ (j : Nat) (o : Oper) c, ops[j]? = some o → o.op ≠ .defer c) (h : qi n P .any ops Q S ops.size (Array.replicate ops.size false) a w.drew) : (Code.region id ops true).wpIn (Fence.wide.inRound l) n P Q a w :=
 wpIn_region_any hm (Ye hd _ _ _ _ (vU _ _ _ _ h))
end
end Go.Proofs.YtonapijgfalpaaaGreat
namespace Go.Proofs.YtonapijgfalpaaaGreat
open Go.RowKit Go.Shelf
attribute [local go_sem] Oper.semAt_some
structure zd1 (P : Program) (m l : Nat) (t : Tr) (S : Nat → Prop) (J : (Nat → Prop) → List Fr → World → Prop) (Jx : (Nat → Prop) → World → Prop) : Prop where
 turn : ∀ {T T' : Nat → Prop} {L : List Fr} {w w' : World}, J T L w → zi w w' T → vB T T' w w' → J T' L w'
 yield : ∀ {T : Nat → Prop} {rv : Value} {x : Fr} {r : List Fr} {u : Tr} {w : World}, qw w S t T rv (x :: r) → zH x.f x.p.toNat = some u → J T (x :: r) w →
  YieldAt Fence.wide m P l #[rv] w fun e w' => Kept T w w' ∧ (∀ y, S y → w'.heap[y]? = w.heap[y]?) ∧ ((e = .returned (.bool true) ∧ ∀ a c, J T (zW (⟨a, c, u.kids, -1⟩ :: x :: r)) w') ∨ (e = .returned (.bool false) ∧ Jx T w'))
def zfc (S : Nat → Prop) (t : Tr) (J : (Nat → Prop) → List Fr → World → Prop) (gk : Nat) (rv : Value) (wr : World) : Prop := ∃ T L, qw wr S t T rv L ∧ J T L wr ∧ gk = vC L
def zbq (J : (Nat → Prop) → List Fr → World → Prop) (Jx : (Nat → Prop) → World → Prop) (e : Ending) (V : World) : Prop := (∃ v, e = .returned v) ∧ ((∃ T, J T [] V) ∨ ∃ T, Jx T V)
theorem zeW {α β : Type} (p : Nat → α → β → Prop) : ∃ ms : α → β → Nat, ∀ x y, (∃ n, p n x y) → p (ms x y) x y ∧ ∀ n, p n x y → ms x y ≤ n := by
 refine Classical.axiomOfChoice (β := fun _ => β → Nat) (r := fun x f => ∀ y, (∃ n, p n x y) → p (f y) x y ∧ ∀ n, p n x y → f y ≤ n) fun x => ?_
 refine Classical.axiomOfChoice (β := fun _ => Nat) (r := fun y k => (∃ n, p n x y) → p k x y ∧ ∀ n, p n x y → k ≤ n) fun y => ?_
 by_cases h : ∃ n, p n x y
 · obtain ⟨n, hn⟩ := h
   induction n using Nat.strongRecOn with
   | ind n ih =>
     by_cases hm : ∃ m, m < n ∧ p m x y
     · obtain ⟨m, hm, hp⟩ := hm
       exact ih m hm hp
     · exact ⟨n, fun _ => ⟨hn, fun m hp => by
        rcases Nat.lt_or_ge m n with h | h
        · exact absurd ⟨m, h, hp⟩ hm
        · exact h⟩⟩
 · exact ⟨0, fun h' => absurd h' h⟩
theorem Tryz.zeG : (Tryz.prog.info? 187).map (fun i => (i.size, i.bytes, i.zero.map (fun z => z.cells.size))) = some (2, 32, some 2) := by kernel_rfl
theorem zbT {P : Program} {m l : Nat} {t : Tr} {S : Nat → Prop} {J : (Nat → Prop) → List Fr → World → Prop} {Jx : (Nat → Prop) → World → Prop} {W W2 : World} {ka : Option Addr} {cap : Nat} (hB : zd1 P m l t (fun y => S y ∨ y = W.heap.size) J Jx) (hS : ∀ y, S y → y < W.heap.size) (hk : zF W S t.kids ka) (hc : zb t.kids ≤ cap)
 (hJ : J (fun _ => False) (zW [⟨some ⟨W.heap.size, 0, none⟩, 1, zm t, -1⟩]) W)
 (hW2 : W2 = (W.alloc (.cells #[.int .i64 t.id, .int .i64 t.kind, .string t.text, .slice ka (zb t.kids) cap] 37)).alloc (.cells #[.slice (some ⟨W.heap.size, 0, none⟩) 1 1, .int .i64 (-1)] 187)) :
 zeY W2 (fun y => S y ∨ y = W.heap.size) t (fun y => y = W.heap.size + 1) (.slice (some ⟨W.heap.size + 1, 0, none⟩) 1 1) [⟨some ⟨W.heap.size, 0, none⟩, 1, zm t, -1⟩] ∧ J (fun y => y = W.heap.size + 1) (zW [⟨some ⟨W.heap.size, 0, none⟩, 1, zm t, -1⟩]) W2 := by
 have hsz : W2.heap.size = W.heap.size + 2 := by rw [hW2]; simp
 have hb : ∀ y, y < W.heap.size → W2.heap[y]? = W.heap[y]? := fun y hy => by rw [hW2, Below.heap_alloc _ _ _ (by simp; omega), Below.heap_alloc _ _ _ hy]
 have h0 : W2.heap[W.heap.size]? = some (.cells #[.int .i64 t.id, .int .i64 t.kind, .string t.text, .slice ka (zb t.kids) cap] 37 (0, 0)) := by rw [hW2, Below.heap_alloc _ _ _ (by simp)]; exact heap_alloc_new W _
 have h1 : W2.heap[W.heap.size + 1]? = some (.cells #[.slice (some ⟨W.heap.size, 0, none⟩) 1 1, .int .i64 (-1)] 187 (0, 0)) := by
  have := heap_alloc_new (W.alloc (.cells #[.int .i64 t.id, .int .i64 t.kind, .string t.text, .slice ka (zb t.kids) cap] 37)) (.cells #[.slice (some ⟨W.heap.size, 0, none⟩) 1 1, .int .i64 (-1)] 187)
  rw [World.size_alloc] at this; rw [hW2]; exact this
 have hl := kF (S := S) (fun x hx => hb x (hS x hx)) hc hk h0
 refine ⟨⟨?_, fun g hg => ?_, fun y hy => ?_, fun y hy => (by cases hy), fun y hy => ?_, rfl, fun y hy => ?_, ?_, fun y hy => ?_⟩, ?_⟩
 · exact ⟨by simp [Fr.cells], Or.inr ⟨_, 1, _, rfl, by omega, h1, by simp, by unfold maxLen; omega, by simp, by simp [Fr.cells, zm, zb]⟩⟩
 · simp [Value.ownBlock] at hg; exact hg.symm
 · rw [List.mem_singleton] at hy; subst hy; exact ⟨by simp, by simp only; omega⟩
 · rw [List.mem_singleton] at hy; subst hy; exact ⟨hl, by simp [zm, zb]⟩
 · refine ⟨by omega, fun h => ?_⟩
   rcases h with h | h
   · have := hS y h; omega
   · omega
 · simp [ZA, Fr.nx, qA, zI]; omega
 · rcases hy with hy | hy
   · have := hS y hy; omega
   · omega
 · refine hB.turn hJ ⟨by rw [hW2]; rfl, by rw [hW2]; rfl, by rw [hW2]; rfl, by omega, fun y hy _ => hb y hy⟩ fun y hy => Or.inr ⟨by omega, by omega⟩
theorem zc0 {w2 w3 w6 : World} {S T : Nat → Prop} {t : Tr} {rv v' : Value} {x : Fr} {r : List Fr} {u : Tr} {kb : Option Addr} {k v kc : Nat} {o : Obj} (hf : qw w2 S t T rv (x :: r)) (hu : zH x.f x.p.toNat = some u) (hk : k = r.length) (hv : v = zb u.kids) (hku : zF w2 S u.kids kb) (hkk : v ≤ kc) (hb : Below w2.heap.size w2 w3)
 (ho : w6.ownsRow 0 187 2 v' (k + 1 + 1) ((x :: r).reverse.flatMap Fr.cells ++ [.slice kb v kc, .int .i64 (-1)])) (hg : (w3.alloc o).grownBy w6 rv.ownBlock) (hat : v'.ownBlock = rv.ownBlock ∨ v'.ownBlock = some (w3.alloc o).heap.size) :
 ∃ T3, zeY w6 S t T3 v' (⟨kb, kc, u.kids, -1⟩ :: x :: r) ∧ zi w2 w6 T ∧ vB T T3 w2 w6 := by
 have h1 := hb.size
 have h2 := hg.size
 rw [World.size_alloc] at h2
 have hblk : ∀ y, y < w2.heap.size → rv.ownBlock ≠ some y → w6.heap[y]? = w2.heap[y]? := fun y hy hn => by
  rw [hg.block y (by rw [World.size_alloc]; omega) (fun e => hn e.symm), Below.heap_alloc _ _ _ (by omega), hb.block y hy]
 have hS : ∀ y, S y → w6.heap[y]? = w2.heap[y]? := fun y hy => hblk y (hf.sl y hy) (fun e => (hf.apart y (hf.own y e)).2 hy)
 subst hk
 subst hv
 refine ⟨fun y => T y ∨ (w2.heap.size ≤ y ∧ y < w6.heap.size), hf.push hu hku hkk (by omega) hS ho (fun g hg' => ?_) (fun y hy => ?_), ⟨?_, ?_, ?_, by omega, fun y hy hn => hblk y hy (fun e => hn (hf.own y e))⟩, fun y hy => hy⟩
 · rcases hat with e | e
   · exact Or.inl (hf.own g (e ▸ hg'))
   · have h3 := zq ho hg'
     rw [e] at hg'; cases hg'
     rw [World.size_alloc] at h3 ⊢
     exact Or.inr ⟨by omega, h3.2⟩
 · rcases hy with hy | hy
   · have := hf.apart y hy; exact ⟨by omega, this.2⟩
   · exact ⟨hy.2, fun h => by have := hf.sl y h; omega⟩
 · exact hg.os.trans hb.os
 · exact hg.tape.trans hb.tape
 · exact hg.output.trans hb.output
theorem zbq.mk0 {J : (Nat → Prop) → List Fr → World → Prop} {Jx : (Nat → Prop) → World → Prop} {T : Nat → Prop} {V : World} {v : Value} (h : J T [] V) : zbq J Jx (.returned v) V := ⟨⟨v, rfl⟩, Or.inl ⟨T, h⟩⟩
theorem zbq.mkx {J : (Nat → Prop) → List Fr → World → Prop} {Jx : (Nat → Prop) → World → Prop} {T : Nat → Prop} {V : World} {v : Value} (h : Jx T V) : zbq J Jx (.returned v) V := ⟨⟨v, rfl⟩, Or.inr ⟨T, h⟩⟩
theorem zcH {m l : Nat} {t : Tr} {S : Nat → Prop} {J : (Nat → Prop) → List Fr → World → Prop} {Jx : (Nat → Prop) → World → Prop} (W : World) (hB : zd1 Tryz.prog m l t (fun y => S y ∨ y = W.heap.size) J Jx) (NB : Nat) (ka : Option Addr) (cap : Nat) (hS : ∀ y, S y → y < W.heap.size) (hk : zF W S t.kids ka) (hc : zb t.kids ≤ cap) (hsz : ze t.kids ≤ 400000)
 (hNB : W.heap[NB]? = some (.cells #[.int .i64 t.id, .int .i64 t.kind, .string t.text, .slice ka (zb t.kids) cap] 37 (0, 0))) (hJ : J (fun _ => False) (zW [⟨some ⟨W.heap.size, 0, none⟩, 1, zm t, -1⟩]) W) :
 Calls Tryz.prog 155 #[.func (.yield l) #[] #[], .pointer (some ⟨NB, 0, none⟩)] W (zbq J Jx) := by
 obtain ⟨W2, hW2⟩ : ∃ W2, W2 = (W.alloc (.cells #[.int .i64 t.id, .int .i64 t.kind, .string t.text, .slice ka (zb t.kids) cap] 37)).alloc (.cells #[.slice (some ⟨W.heap.size, 0, none⟩) 1 1, .int .i64 (-1)] 187) := ⟨_, rfl⟩
 obtain ⟨hpre, hJ2⟩ := zbT hB hS hk hc hJ hW2
 have hnext := zaI W2 _ _ hpre.rows (by simp) (fun x hx => by rw [List.mem_singleton] at hx; subst hx; simp)
 obtain ⟨n, hn⟩ : ∃ n, n = zb t.kids := ⟨_, rfl⟩
 rw [← hn] at hNB hW2
 have n0 : W.cell? ⟨NB, 0, none⟩ = some (.int .i64 t.id) := by rw [cell_of_row _ _ 0 _ _ _ hNB]; rfl
 have n1 : W.cell? ⟨NB, 1, none⟩ = some (.int .i64 t.kind) := by rw [cell_of_row _ _ 1 _ _ _ hNB]; rfl
 have n2 : W.cell? ⟨NB, 2, none⟩ = some (.string t.text) := by rw [cell_of_row _ _ 2 _ _ _ hNB]; rfl
 have n3 : W.cell? ⟨NB, 3, none⟩ = some (.slice ka n cap) := by rw [cell_of_row _ _ 3 _ _ _ hNB]; rfl
 obtain ⟨ms, hms⟩ := zeW (fun gk rv wr => zfc (fun y => S y ∨ y = W.heap.size) t J gk rv wr)
 have HP := hH (aN hpre (aN hJ2 (aN hnext hn)))
 have HW2 := hH hW2
 have HMS := hH hms
 have HSZ := hH hsz
 clear hpre hJ2 hnext hn hk hc hJ hNB hW2 hms hsz
 obtain ⟨i0, z0, hi0, hz0, hz1, hz2, hz3⟩ := yC Tryz.zeG
 have HI := hH (aN hi0 (aN hz0 (aN hz1 (aN hz2 hz3))))
 clear hi0 hz0 hz1 hz2 hz3
 refine (callsIn_wide (n := 6)).1 ?_
 refine callsIn_of_wp Tryz.func155 rfl trivial ?_ rfl
 simp only [Tryz.ntmps155, List.size_toArray, List.length_cons, List.length_nil, Nat.reduceAdd, Nat.reduceSub, Array.replicate_succ, Array.replicate_zero, List.push_toArray, List.append_toArray, List.nil_append, List.cons_append]
 gi_wp2
 refine ⟨trivial, ?_⟩
 rw [← HW2.out]
 refine (callsIn_wide.2 HP.out.2.2.1).mono ?_
 rintro e W3 ⟨rv, rfl, r1, r2, r3⟩
 have HST : Hid (∃ gk, zfc (fun y => S y ∨ y = W.heap.size) t J gk rv W3) := hH ⟨_, _, _, HP.out.1.next r1 r2 r3, hB.turn HP.out.2.1 (r3.mono (fun y hy => HP.out.1.own y hy)) (fun y hy => Or.inl hy), rfl⟩
 clear r1 r2 r3 n0 n1 n2 n3
 gi_wp2
 gi_loopw [3] (fun rv wr => Hid (∃ gk, zfc (fun y => S y ∨ y = W.heap.size) t J gk rv wr)) (fun rv wr => ms rv wr)
 case atStart => exact HST
 case round =>
  clear HST
  obtain ⟨T, L, hf, hJ3, hgk⟩ := (HMS.out _ _ hrel.out).1
  have HG := hH hgk
  clear hrel hgk
  cases L with
  | nil =>
    obtain ⟨ra, rc, rfl⟩ := zw hf.rows
    have HE := hH (zbq.mk0 (Jx := Jx) (v := .tuple #[]) hJ3)
    clear hf hJ3
    simp only [List.length_nil]
    gi_wp2
    refine ⟨fun f hf => (by cases hf), ?_⟩
    gi_wp2
    go_end0
    exact HE.out
  | cons x r =>
    obtain ⟨g, rc, k, p, u, b, off, kb, kc, rfl, hk, hkN, hkc, hTg, c0, c1, hxp, hpl, hpN, hu, hxa, hSb, d0, d3, hkk, hku⟩ := hf.here
    obtain ⟨fn, tmps, assign, body, hy, hR⟩ := YieldAt.ZK 5 (hB.yield hf hu hJ3)
    have hk0 : (0 : Int) < (k : Int) + 1 := by omega
    have HR := hH hR
    obtain ⟨q, hq⟩ : ∃ q, q = zb x.f := ⟨_, rfl⟩
    obtain ⟨v, hv⟩ : ∃ v, v = zb u.kids := ⟨_, rfl⟩
    rw [← hq] at c0 hpl hpN
    rw [← hv] at d3 hkk
    have HF := hH (aN hf (aN hu (aN hk (aN hxp (aN hq (aN hv (aN hTg (aN hSb (aN hkk hku)))))))))
    have HC := hH (aN c0 (aN c1 d3))
    have hxa' := hxa
    clear hf hu hk hJ3 hR c0 c1 d0 d3 hxp hq hv hTg hSb hkk hku
    gi_wp2
    refine HR.out.mono ?_
    clear HR hy
    rintro e w2 ⟨hkT, hkS, (⟨rfl, hJ4⟩ | ⟨rfl, hJ4⟩)⟩
    · obtain ⟨f1, f2, f3, f4, f5, f6, f7, f8, f9, f10⟩ := HF.out
      have c0 : w2.cell? ⟨g, k * 2, none⟩ = some (.slice (some ⟨b, off, none⟩) q x.cap) := by rw [← hxa]; exact (World.cell?_of_block (hkT.2 g f7)).trans HC.out.1
      have c1 : w2.cell? ⟨g, k * 2 + 1, none⟩ = some (.int .i64 (p : Int)) := (World.cell?_of_block (hkT.2 g f7)).trans HC.out.2.1
      have d3 : w2.cell? ⟨b, off + p * 4 + 3, none⟩ = some (.slice kb v kc) := (World.cell?_of_block (hkS b f8)).trans HC.out.2.2
      have hf2 := f1.kept hkT.1 hkT.2 hkS
      have hnode := zaC w2 b off q x.cap p hpl (by have := HSZ.out; omega)
      have hkl : (k : Int) < (k : Int) + 1 := by omega
      have hk00 : (0 : Int) ≤ (k : Int) := by omega
      have hkb : k ≤ 1000000 := by have := HSZ.out; omega
      have hpb : p ≤ 1000000 := by have := HSZ.out; omega
      have hkw : IntKind.i64.wrap ((k : Int) + 1 - 1) = (k : Int) := by rw [IntWalk.i64_in _ (by omega)]; omega
      have hbl := World.block_lt_of_cell? _ _ d3
      have HN := hH hnode
      have HR3 : Hid (∀ w3, Below w2.heap.size w2 w3 → w3.ownsRow 0 187 2 (.slice (some ⟨g, 0, none⟩) (k + 1) rc) (k + 1) ((x :: r).reverse.flatMap Fr.cells)) := hH fun w3 hb => by
       have h9 := yV.kept (w' := w3) hf2.rows (fun g' hg' => hb.block g' (hf2.apart g' (hf2.own g' hg')).1)
       unfold yV at h9
       rw [List.length_cons, ← f3] at h9
       exact h9
      have HJ := hH (aN hJ4 (aN hf2 hkS))
      clear hnode hJ4 hf2 hkT hkS f1 f2 f3 f4 f5 f6 f7 f8 f9 f10 HC
      gi_wp2_with (first
       | (refine ⟨trivial, ?_⟩; gi_at_call 150; refine (callsIn_wide.2 HN.out).mono ?_; rintro e w3 ⟨rfl, hb3⟩; have d3' := (hb3.cell (p := ⟨b, off + p * 4 + 3, none⟩) hbl).trans d3; have HB3 := hH hb3; clear hb3; have hrow3 := HR3.out w3 HB3.out)
       | (gi_at_builtin; refine qp _ rfl (.tmp 28) (.tmp 31) _ rfl 0 187 i0 z0 2 32 Tryz.underlying184 HI.out.1 HI.out.2.1 HI.out.2.2.1 HI.out.2.2.2.1 HI.out.2.2.2.2 (by omega) (.slice (some ⟨g, 0, none⟩) (k + 1) rc) (k + 1) _ rfl (hrow3.alloc _) ⟨w3.heap.size, 0, none⟩ 1 1 [.slice kb v kc, .int .i64 (-1)] rfl rfl (World.news_of_block (heap_alloc_new w3 _)) (by simp [Value.oneCell']) (by unfold maxLen; omega) (by omega) (by simp) ?_; intro v' w6 hown6 hgrow hat; obtain ⟨T3, hpre, ht3, hw3⟩ := zc0 HJ.out.2.1 HF.out.2.1 HF.out.2.2.1 HF.out.2.2.2.2.2.1 (HF.out.2.2.2.2.2.2.2.2.2.kept (w' := w2) fun y hy => ⟨hy, HJ.out.2.2 y hy⟩) HF.out.2.2.2.2.2.2.2.2.1 HB3.out hown6 hgrow hat; have HPRE := hH (aN hpre (aN ht3 hw3)); clear hpre ht3 hw3 hown6 hgrow hat)
       | (refine ⟨trivial, ?_⟩; gi_at_call 156; refine (callsIn_wide.2 (zaI w6 v' _ HPRE.out.1.rows (by have h9 := HPRE.out.1.few; have := HSZ.out; simp only [List.length_cons] at *; omega) (fun y hy => ⟨(HPRE.out.1.p y hy).1, by have h9 := (HPRE.out.1.p y hy).2; have h8 := jJ _ HPRE.out.1.chain y hy; rw [zI] at h8; have := HSZ.out; omega⟩))).mono ?_; rintro e w7 ⟨rv7, rfl, r1, r2, r3⟩; have HNX := hH (aN r1 (aN r2 r3)); clear r1 r2 r3))
      have hwf := HPRE.out.1.next HNX.out.1 HNX.out.2.1 HNX.out.2.2
      have hj := hB.turn (HJ.out.1 kb kc) HPRE.out.2.1 HPRE.out.2.2
      have hj2 := hB.turn hj (HNX.out.2.2.mono (fun y hy => HPRE.out.1.own y hy)) (fun y hy => Or.inl hy)
      have hinv : zfc (fun y => S y ∨ y = W.heap.size) t J (vC (zW (⟨kb, kc, u.kids, -1⟩ :: x :: r))) rv7 w7 := ⟨_, _, hwf, hj2, rfl⟩
      refine ⟨hH ⟨_, hinv⟩, ?_⟩
      have q1 := (HMS.out _ _ ⟨_, hinv⟩).2 _ hinv
      have q2 := Zg (⟨kb, kc, u.kids, -1⟩ :: x :: r) (fun y hy => (HPRE.out.1.p y hy).1)
      have q3 := YK (a := kb) (c := kc) (r := r) (HF.out.1.ok x (by simp)) HF.out.2.1
      have q4 := HG.out
      omega
    · have HE := hH (zbq.mkx (J := J) (v := .tuple #[]) hJ4)
      clear hkT hkS hJ4 HF HC
      gi_wp2
      go_end0
      exact HE.out
end Go.Proofs.YtonapijgfalpaaaGreat
namespace Go.Proofs.YtonapijgfalpaaaGreat
open Go.RowKit Go.Shelf
def zen (B : Nat) (T S : Nat → Prop) (I : (Nat → Prop) → List Fr → World → Prop) (Ix : Code → (Nat → Prop) → World → Prop) (x : Fr) (r : List Fr) (u : Tr) (W : World) (e : Exit) (_ : Act) (V : World) : Prop :=
 KeepsFrom B W V ∧ Kept T W V ∧ (∀ y, S y → V.heap[y]? = W.heap[y]?) ∧ ((e = .normal ∧ ∀ a c, I T (zW (⟨a, c, u.kids, -1⟩ :: x :: r)) V) ∨ (e = .ret ∧ Ix .ret T V) ∨ ∃ id, e = .exit id ∧ Ix (.exit id) T V)
theorem zce {n : Nat} {g : Operand} {ps : Array Tmp} {assign body : Code} {Q : Exit → Act → World → Prop} {a : Act} {w : World} (h1 : 1 ≤ n) {NB : Nat} (hg : a.eval g = .func (.func 155) #[] #[.pointer (some ⟨NB, 0, none⟩)])
 (t : Tr) (ka : Option Addr) (cap : Nat) (S : Nat → Prop) (hS : ∀ y, S y → y < w.heap.size) (hk : zF w S t.kids ka) (hc : zb t.kids ≤ cap) (hsz : ze t.kids ≤ 400000) (hNB : w.heap[NB]? = some (.cells #[.int .i64 t.id, .int .i64 t.kind, .string t.text, .slice ka (zb t.kids) cap] 37 (0, 0))) (hps : ps.size = 1)
 (I : (Nat → Prop) → List Fr → World → Prop) (Ix : Code → (Nat → Prop) → World → Prop)
 (hI : ∀ {T T' : Nat → Prop} {L : List Fr} {V V' : World}, I T L V → zi V V' (fun x => T x ∨ (w.heap.size ≤ x ∧ yF V x)) → vB T T' V V' → I T' L V')
 (hIx : ∀ {c : Code} {T : Nat → Prop} {V : World} (o o' : Loop), Ix c T V → (∀ x, T x → w.heap.size + 2 ≤ x) → V.heap[w.heap.size + 1]? = some (.loop o) → Ix c T (V.putObj (w.heap.size + 1) (.loop o')))
 (h0 : I (fun _ => False) (zW [⟨some ⟨w.heap.size + 2, 0, none⟩, 1, zm t, -1⟩]) w)
 (hround : ∀ (l : Nat), l = w.heap.size + 1 → ∀ (T : Nat → Prop) (rv : Value) (x : Fr) (r : List Fr) (u : Tr) (V : World), (∀ y, T y → w.heap.size + 2 ≤ y) → w.heap.size + 2 ≤ V.heap.size → qw V (fun y => S y ∨ y = w.heap.size + 2) t T rv (x :: r) → zH x.f x.p.toNat = some u → I T (x :: r) V →
   ∀ (K : Act → World → Prop), (∀ a₁, (∀ V', (∃ o', V' = V.putObj l o' ∧ ∃ o, V.heap[l]? = some o ∧ o.isCells = false) → body.wpIn (Fence.wide.inRound l) (n - 1 - 1) Tryz.prog (zen w.heap.size T (fun y => S y ∨ y = w.heap.size + 2) I Ix x r u V') a₁ V') → K a₁ V) →
    assign.wpIn (Fence.wide.inRound l) (n - 1 - 1) Tryz.prog (Exit.then K (fun _ _ _ => False)) { tmps := (ps.zip #[rv]).foldl (fun t (p, v) => t.setIfInBounds p v) a.tmps, defers := [] } V)
 (hdone : ∀ (D : Nat) (T : Nat → Prop) (V : World), w.heap.size ≤ D → I T [] V → V.heap[D]? = some (.deferred (some [])) → Q .normal { a with defers := { target := .collected D, args := #[] } :: a.defers } V)
 (hstop : ∀ (D : Nat) (c : Code) (T : Nat → Prop) (V : World), D = w.heap.size → (∀ x, T x → w.heap.size + 2 ≤ x) → Ix c T V → V.heap[D]? = some (.deferred (some [])) → c.wpIn Fence.wide n Tryz.prog Q { a with defers := { target := .collected D, args := #[] } :: a.defers } V) :
 (Code.rangeFunc g ps assign body).wpIn Fence.wide n Tryz.prog Q a w := by
 obtain ⟨B, hB⟩ : ∃ B, w.heap.size = B := ⟨_, rfl⟩
 simp only [hB] at hI hIx hround hdone hstop h0
 refine wpIn_rangeFunc fun fn hfn => ?_
 obtain ⟨rec, hrec⟩ : ∃ rec : LoopState → Option Code → Loop, rec = fun st pe => { state := st, pending := pe, fn, tmps := a.tmps, params := ps, assign, body, defers := B } := ⟨_, rfl⟩
 obtain ⟨W1, hW1⟩ : ∃ W1, W1 = (w.alloc (.deferred (some []))).alloc (.loop (rec .ready none)) := ⟨_, rfl⟩
 have hsz1 : W1.heap.size = B + 2 := by rw [hW1]; simp [hB]
 have hblk : ∀ x, x < B → W1.heap[x]? = w.heap[x]? := fun x hx => by rw [hW1, Below.heap_alloc _ _ _ (by simp; omega), Below.heap_alloc _ _ _ (by omega)]
 have hbk : Book B (rec .ready none) W1 := by
  rw [hW1, ← hB]
  refine ⟨?_, (Below.heap_alloc _ _ _ (by simp)).trans (World.alloc_heap_new w _)⟩
  have := World.alloc_heap_new (w.alloc (.deferred (some []))) (.loop (rec .ready none))
  rwa [World.size_alloc] at this
 have hb1 : zi w W1 (fun _ => False) := by rw [hW1]; exact ((zi.refl w _).alloc _).alloc _
 have hI1 : I (fun _ => False) (zW [⟨some ⟨B + 2, 0, none⟩, 1, zm t, -1⟩]) W1 := hI h0 (hb1.mono (fun _ h => h.elim)) (fun x hx => Or.inl hx)
 have hNBl := lt_of_heap hNB
 have hNB1 := (hblk NB (by omega)).trans hNB
 refine ⟨B + 1, [{ target := .collected B, args := #[] }], W1, { target := .fn (.func 155) #[.pointer (some ⟨NB, 0, none⟩)], args := #[.func (.yield (B + 1)) #[] #[]] }, W1, 155, #[.func (.yield (B + 1)) #[] #[]] ++ #[.pointer (some ⟨NB, 0, none⟩)], W1, ?_, ?_, ?_, ?_, fun _ => h1, ?_⟩
 · rw [hW1, hrec, ← hB]; exact run_enterLoop_outer _ _ _ _ _
 · simp only [resolve, hg]
   simp [go_sem]
 · intro f' hf'; simp [Target.leads] at hf'; subst hf'; exact trivial
 · simp [invoke, go_sem]
 · obtain ⟨J, hJ⟩ : ∃ J : (Nat → Prop) → List Fr → World → Prop, J = fun T L V => I T L V ∧ Book B (rec .ready none) V ∧ ∀ x, T x → B + 2 ≤ x := ⟨_, rfl⟩
   obtain ⟨Jx, hJx⟩ : ∃ Jx : (Nat → Prop) → World → Prop, Jx = fun T V => ∃ c, Ix c T V ∧ Book B (rec .done (some c)) V ∧ ∀ x, T x → B + 2 ≤ x := ⟨_, rfl⟩
   have hS1 : ∀ y, S y → y < W1.heap.size := fun y hy => by have := hS y hy; omega
   have hbody : zd1 Tryz.prog (n - 1 - 1) (B + 1) t (fun y => S y ∨ y = W1.heap.size) J Jx := by
    rw [hsz1]
    subst hJ hJx
    refine ⟨?_, ?_⟩
    · rintro T T' L V V' ⟨j1, j2, j3⟩ ht hw
      have hs := lt_of_heap j2.1
      exact ⟨hI j1 (ht.mono (fun x hx => Or.inl hx)) hw, j2.touched ht j3, fun x hx => (hw x hx).elim (j3 x) (fun h => by omega)⟩
    · rintro T rv x r u V hf hu ⟨j1, j2, j3⟩
      have hr := hround (B + 1) rfl T rv x r u V j3 (by have := lt_of_heap j2.1; omega) hf hu j1
      have hTl : ¬ T (B + 1) := fun h => by have := j3 _ h; omega
      have hSl : ¬ (S (B + 1) ∨ B + 1 = B + 2) := fun h => by
       rcases h with h | h
       · have := hS _ h; omega
       · omega
      have hy := run_yield (P := Tryz.prog) (args := #[rv]) j2.1 (by rw [hrec]; exact hps.symm)
      rw [hrec] at hy
      refine ⟨fn, _, assign, body, hy, roundIn_of_wpIn hfn (hr _ fun a₁ hb => ?_)⟩
      refine ⟨_, run_beginRound j2.1 (by rw [hrec]), ?_⟩
      have hb2 : Book B { rec .ready none with state := .busy } (V.putObj (B + 1) (.loop { rec .ready none with state := .busy })) := j2.put
      refine wpIn_mono (hb _ ⟨_, rfl, _, j2.1, rfl⟩) ?_
      rintro e3 a3 U ⟨hkU, hkT, hkS, hp⟩
      have hb3 := hb2.kept hkU
      have fin := fun jump => run_endRound (P := Tryz.prog) jump hb3.1
      rw [hrec] at fin hb3
      have hall : ∀ o', Kept T V (U.putObj (B + 1) o') := fun o' => ((Zt _ hTl).trans hkT).trans (Zt _ hTl)
      have hallS : ∀ o' y, (S y ∨ y = B + 2) → (U.putObj (B + 1) o').heap[y]? = V.heap[y]? := fun o' y hy => by
       have hne : y ≠ B + 1 := fun e => hSl (e ▸ hy)
       rw [World.putObj_heap_other hne, hkS y hy, World.putObj_heap_other hne]
      have htp : ∀ o', zi U (U.putObj (B + 1) o') (fun x => T x ∨ (B ≤ x ∧ yF U x)) := fun o' => (yu o' hb3.1).mono (fun x hx => Or.inr ⟨by omega, by rw [hx]; exact ⟨_, hb3.1, rfl⟩⟩)
      rcases hp with ⟨rfl, hi3⟩ | ⟨rfl, hi3⟩ | ⟨id, rfl, hi3⟩
      · refine ⟨_, _, fin none, hall _, hallS _, .inl ⟨rfl, fun a c => ⟨hI (hi3 a c) (htp _) (fun x hx => Or.inl hx), ?_, j3⟩⟩⟩
        rw [hrec]; exact hb3.put
      · refine ⟨_, _, fin (some .ret), hall _, hallS _, .inr ⟨rfl, .ret, hIx _ _ hi3 j3 hb3.1, ?_, j3⟩⟩
        rw [hrec]; exact hb3.put
      · refine ⟨_, _, fin (some (.exit id)), hall _, hallS _, .inr ⟨rfl, .exit id, hIx _ _ hi3 j3 hb3.1, ?_, j3⟩⟩
        rw [hrec]; exact hb3.put
   have hstart : J (fun _ => False) (zW [⟨some ⟨W1.heap.size, 0, none⟩, 1, zm t, -1⟩]) W1 := by rw [hJ, hsz1]; exact ⟨hI1, hbk, fun _ h => h.elim⟩
   refine (callsIn_wide.2 (zcH W1 hbody NB ka cap hS1 (hk.kept fun y hy => ⟨hy, hblk y (by have := hS y hy; omega)⟩) hc hsz hNB1 hstart)).mono ?_
   rintro e W2 ⟨⟨v, rfl⟩, (⟨T, hj⟩ | ⟨T, hj⟩)⟩
   · rw [hJ] at hj
     obtain ⟨hi, hb, hT⟩ := hj
     have := run_endLoop (P := Tryz.prog) hb.1 (by rw [hrec]; simp)
     rw [hrec] at this
     refine ⟨none, _, this, hdone B T _ (Nat.le_refl _) (hI hi ((yu _ hb.1).mono (fun x hx => Or.inr ⟨by omega, by rw [hx]; exact ⟨_, hb.1, rfl⟩⟩)) (fun x hx => Or.inl hx)) ((World.putObj_heap_other (by omega)).trans hb.2)⟩
   · rw [hJx] at hj
     obtain ⟨c, hi, hb, hT⟩ := hj
     have := run_endLoop (P := Tryz.prog) hb.1 (by rw [hrec]; simp)
     rw [hrec] at this
     exact ⟨some c, _, this, hstop B c T _ rfl hT (hIx _ _ hi hT hb.1) ((World.putObj_heap_other (by omega)).trans hb.2)⟩
theorem ze1 (w : World) (id kd : Int) (tx : ByteArray) (ka : Option Addr) (n c : Nat) : Calls Tryz.prog 149 #[.agg #[.int .i64 id, .int .i64 kd, .string tx, .slice ka n c]] w fun e w' => e = .returned (.func (.func 155) #[] #[.pointer (some ⟨w.heap.size, 0, none⟩)]) ∧ w' = w.alloc (.cells #[.int .i64 id, .int .i64 kd, .string tx, .slice ka n c] 37) := by
 have hmf : ∀ (fn : Fn) (first cap : Array Value) (w : World), (Instr.makeFunc fn first cap).run Tryz.prog w = .ok (.func fn first cap) w := fun _ _ _ _ => rfl
 go_enter Tryz.func149, Tryz.ntmps149
 go_wp2_with fail
 go_ret
 exact ⟨rfl, rfl⟩
end Go.Proofs.YtonapijgfalpaaaGreat
