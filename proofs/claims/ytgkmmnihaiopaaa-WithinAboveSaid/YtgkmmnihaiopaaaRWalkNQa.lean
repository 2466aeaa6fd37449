/-
  .
-/
import Derived.OrdersIn
import Derived.OrdersHeld
import Derived.RangeFuncNested
import Derived.RangeFuncCalls
import Derived.Deep.RegionHeld
import Derived.TacticsInMore
import Derived.OwnWalkIn
import Derived.Test.YtgkmmnihaiopaaaECopyWQa
import Derived.Deep.AppendLies
import Derived.Test.YtgkmmnihaiopaaaECountNQa
import Derived.Deep.RegionHeld3
import Derived.StillTailTactics
import Derived.Test.YtgkmmnihaiopaaaJPgQa
set_option maxRecDepth 100000
set_option maxHeartbeats 40000000
set_option linter.unusedVariables false
set_option linter.unusedSimpArgs false
namespace Go.Proofs.Ytgkmmnihaiopaaa
open Go.RowKit
section
variable {n : Nat} {P : Program} {ops : Array Oper} {Q : Exit → Act → World → Prop} {md : Region.Mode} {S : World → Prop}
theorem ko {i : Nat} {o : Oper} {v : Value} {a : Act} (hi : ops[i]? = some o) (hy : YieldsIf P ops S o v a) {K : Act → World → Prop} {w : World} (hS : S w) (h : K (a.put o.dst v) w) : wpOpIn Fence.wide n P ops Q i K a w := by
 unfold wpOpIn
 simp only [hi]
 rcases hy with ⟨hw, hv⟩ | ⟨hw, rfl⟩
 · simp only [hw, if_true, Oper.wpIn, show Fence.wide.round = none from rfl, Oper.semAt_none, hv w hS, Oper.uponIn]
   exact ⟨fun _ _ => trivial, h⟩
 · simp only [hw, Bool.false_eq_true, if_false]
   exact ⟨fun _ _ => trivial, h⟩
theorem zao {j : Nat} {oi oj : Oper} {v : Value} (hj : ops[j]? = some oj) (hap : oi.apart ops oj = true) (hsi : ∀ cs b, oi.op ≠ .select cs b) (hsj : ∀ cs b, oj.op ≠ .select cs b)
 (hQ : ∀ c a w, Q (.panic c) (a.put oi.dst v) w → Q (.panic c) a w) {K : Act → World → Prop} {a : Act} {w : World} (hy : YieldsIf P ops S oi v a) (h : wpOpIn Fence.wide n P ops Q j K (a.put oi.dst v) w) :
 wpOpIn Fence.wide n P ops Q j (fun a' w' => YieldsIf P ops S oi v a' ∧ K (a'.put oi.dst v) w') a w := by
 obtain ⟨h1, h2, h3⟩ := Oper.apart_spec hap
 have keep : ∀ (a : Act), YieldsIf P ops S oi v a → ∀ u, YieldsIf P ops S oi v (a.put oj.dst u) := fun a hy u =>
  hy.of_same (execOp_put oi hsi a oj.dst u h3) (wanted_put oi a oj.dst u h3)
 have keepD : ∀ d, YieldsIf P ops S oi v { a with defers := d :: a.defers } := fun d => hy.of_same rfl rfl
 unfold wpOpIn at *
 simp only [hj] at *
 rw [wanted_put oj a oi.dst v h1] at h
 split
 · rename_i hw
   simp only [hw, if_true] at h
   unfold Oper.wpIn at *
   refine ⟨fun _ _ => trivial, ?_⟩
   have h := h.2
   rw [show Fence.wide.round = none from rfl, Oper.semAt_none, execOp_put oj hsj a oi.dst v h1] at h
   rw [show Fence.wide.round = none from rfl, Oper.semAt_none]
   generalize (execOp a.eval oj).run P w = r at *
   cases r with
   | ok x w' =>
     cases x <;> simp only [Oper.uponIn] at h ⊢
     case value u => exact ⟨keep a hy u, by rw [← Act.put_comm a v u h2]; exact h⟩
     case skip => exact ⟨keep a hy _, by rw [← Act.put_comm a v undef h2]; exact h⟩
     case defer d =>
      refine ⟨keep _ (keepD d) _, ?_⟩
      rw [← Act.put_comm _ v undef h2, ← Act.put_defers]
      exact h
     case enter f args =>
      refine ⟨h.1, CallsIn.mono h.2 fun e w'' he => ?_⟩
      cases e with
      | returned u => exact ⟨keep a hy u, by rw [← Act.put_comm a v u h2]; exact he⟩
      | panicked c => exact hQ _ _ _ he
      | outgrown => exact he
     case row row args => exact ⟨h.1, RowsIn.mono h.2 fun u w'' he => ⟨keep a hy u, by rw [← Act.put_comm a v u h2]; exact he⟩⟩
     case round l f tmps assign body =>
      refine ⟨h.1, RoundIn.mono h.2 fun e w'' he => ?_⟩
      cases e with
      | returned u => exact ⟨keep a hy u, by rw [← Act.put_comm a v u h2]; exact he⟩
      | panicked c => exact hQ _ _ _ he
      | outgrown => exact he
   | halt x w' =>
     cases x <;> simp only [Oper.uponIn] at h ⊢
     case panic u => exact hQ _ _ _ h
 · rename_i hw
   simp only [hw] at h
   exact ⟨fun _ _ => trivial, keep a hy _, by rw [← Act.put_comm a v undef h2]; exact h.2⟩
def qE (n : Nat) (P : Program) (md : Region.Mode) (ops : Array Oper) (Q : Exit → Act → World → Prop) (S : World → Prop) : Nat → Array Bool → Act → World → Prop
 | 0, listed, a, w => Region.ready md ops listed = [] ∧ Q .normal a w
 | fuel + 1, listed, a, w => (Region.ready md ops listed = [] → Q .normal a w) ∧ ∀ i ∈ Region.ready md ops listed, wpOpIn Fence.wide n P ops Q i (fun a' w' => S w' ∧ qE n P md ops Q S fuel (listed.setIfInBounds i true) a' w') a w
theorem kz : ∀ (fuel : Nat) (listed : Array Bool) (a : Act) (w : World), qE n P md ops Q S fuel listed a w → wpAnyIn Fence.wide n P md ops Q fuel listed a w
 | 0, _, _, _, h => h
 | fuel + 1, _, _, _, h => ⟨h.1, fun i hi => wpOpIn_mono (fun a' w' h' => kz fuel _ a' w' h'.2) (h.2 i hi)⟩
theorem zay {i : Nat} {oi : Oper} {v : Value} (hi : ops[i]? = some oi) (hsel : ∀ (j : Nat) (o : Oper) cs b, ops[j]? = some o → o.op ≠ .select cs b) (hQ : ∀ c a w, Q (.panic c) (a.put oi.dst v) w → Q (.panic c) a w) :
 ∀ (fuel : Nat) (listed : Array Bool) (a : Act) (w : World), (∀ j oj, ops[j]? = some oj → j ≠ i → listed.getD j true = false → (∀ e ∈ oj.after, Region.binds md e = true → e.on ≠ i) → oi.apart ops oj = true) →
  i ∈ Region.ready md ops listed → YieldsIf P ops S oi v a → S w → qE n P md ops Q S fuel (listed.setIfInBounds i true) (a.put oi.dst v) w → qE n P md ops Q S (fuel + 1) listed a w := by
 intro fuel
 induction fuel with
 | zero =>
   intro listed a w _ hr hy hS H
   refine ⟨fun h => (by rw [h] at hr; cases hr), fun j hj => ?_⟩
   by_cases hji : j = i
   · subst hji; exact ko hi hy hS ⟨hS, H⟩
   · have := ready_mono hj hji
     rw [H.1] at this
     cases this
 | succ fuel ih =>
   intro listed a w hfree hr hy hS H
   refine ⟨fun h => (by rw [h] at hr; cases hr), fun j hj => ?_⟩
   by_cases hji : j = i
   · subst hji; exact ko hi hy hS ⟨hS, H⟩
   · have h1 := H.2 j (ready_mono hj hji)
     obtain ⟨hjun, oj, hoj, hall⟩ := mem_ready.1 hj
     have hnot : ∀ e ∈ oj.after, Region.binds md e = true → e.on ≠ i := fun e he hb heq => by
      have h1 := hall e he hb
      have h0 := (mem_ready.1 hr).1
      rw [heq] at h1
      rcases Nat.lt_or_ge i listed.size with h' | h'
      · simp [h'] at h0 h1; rw [h0] at h1; cases h1
      · simp [Array.getElem?_eq_none h'] at h1
     have h2 := zao hoj (hfree j oj hoj hji hjun hnot) (fun cs b => hsel i oi cs b hi) (fun cs b => hsel j oj cs b hoj) hQ hy h1
     have hfree' : ∀ k ok, ops[k]? = some ok → k ≠ i → (listed.setIfInBounds j true).getD k true = false → (∀ e ∈ ok.after, Region.binds md e = true → e.on ≠ i) → oi.apart ops ok = true := fun k ok hk hki hun hno => by
      refine hfree k ok hk hki ?_ hno
      by_cases hjk : j = k
      · subst hjk; exact hjun
      · rw [getD_set_ne true hjk] at hun; exact hun
     refine wpOpIn_mono (fun a' w' h3 => ⟨h3.2.1, ih (listed.setIfInBounds j true) a' w' hfree' (ready_mono hr (Ne.symm hji)) h3.1 h3.2.1 ?_⟩) h2
     rw [Array.setIfInBounds_comm _ _ hji]
     exact h3.2.2
theorem ze {i : Nat} {oi : Oper} {v : Value} {fuel : Nat} {listed : Array Bool} {a : Act} {w : World} (hi : ops[i]? = some oi) (hs : Region.noSelect ops = true) (hf : Region.free md ops listed i = true) (hr : (Region.ready md ops listed).contains i = true)
 (hQ : ∀ c a w, Q (.panic c) (a.put oi.dst v) w → Q (.panic c) a w) (hy : YieldsIf P ops S oi v a) (hS : S w) (h : qE n P md ops Q S fuel (listed.setIfInBounds i true) (a.put oi.dst v) w) : qE n P md ops Q S (fuel + 1) listed a w :=
 zay hi (Region.noSelect_spec hs) hQ fuel listed a w (Region.free_spec hi hf) (by simpa using hr) hy hS h
theorem zJ {i : Nat} {o : Oper} {fuel : Nat} {listed : Array Bool} {a : Act} {w : World} (hr : Region.ready md ops listed = [i]) (ho : ops[i]? = some o)
 (h : ∀ K : Act → World → Prop, (∀ a' w', S w' → qE n P md ops Q S fuel (listed.setIfInBounds i true) a' w' → K a' w') → if Region.wanted o (yielded ops a.tmps) = true then Oper.wpIn Fence.wide n P o a w K Q else K (a.put o.dst undef) w) : qE n P md ops Q S (fuel + 1) listed a w := by
 refine ⟨fun h0 => (by rw [hr] at h0; cases h0), fun j hj => ?_⟩
 rw [hr, List.mem_singleton] at hj
 subst hj
 unfold wpOpIn
 rw [ho]
 have := h (fun a' w' => S w' ∧ qE n P md ops Q S fuel (listed.setIfInBounds j true) a' w') (fun a' w' h1 h2 => ⟨h1, h2⟩)
 show if Region.wanted o (yielded ops a.tmps) = true then _ else _
 split
 · rename_i hw; rw [if_pos hw] at this; exact this
 · rename_i hw; rw [if_neg hw] at this; exact ⟨fun _ _ => trivial, this⟩
theorem zY {listed : Array Bool} {a : Act} {w : World} (hr : Region.ready md ops listed = []) (h : Q .normal a w) : ∀ fuel, qE n P md ops Q S fuel listed a w
 | 0 => ⟨hr, h⟩
 | _ + 1 => ⟨fun _ => h, by rw [hr]; simp⟩
theorem zcn {l i : Nat} {K : Act → World → Prop} {a : Act} {w : World} (hd : ∀ (j : Nat) (o : Oper) c, ops[j]? = some o → o.op ≠ .defer c) (h : wpOpIn Fence.wide n P ops Q i K a w) : wpOpIn (Fence.wide.inRound l) n P ops Q i K a w := by
 unfold wpOpIn at h ⊢
 cases ho : ops[i]? with
 | none => simpa only [ho] using h
 | some o =>
   simp only [ho] at h ⊢
   split
   · rename_i hw
     rw [if_pos hw] at h
     refine ⟨fun _ _ => trivial, ?_⟩
     rw [show (Fence.wide.inRound l).round = some l from rfl, Oper.semAt_some l _ o (fun c => hd i o c ho)]
     have h := h.2
     rw [show Fence.wide.round = none from rfl, Oper.semAt_none] at h
     generalize (execOp a.eval o).run P w = r at h ⊢
     cases r with
     | ok x w' => cases x <;> exact h
     | halt x w' => cases x <;> exact h
   · rename_i hw
     rw [if_neg hw] at h
     exact ⟨fun _ _ => trivial, h.2⟩
theorem YA {l : Nat} (hd : ∀ (j : Nat) (o : Oper) c, ops[j]? = some o → o.op ≠ .defer c) : ∀ (fuel : Nat) (listed : Array Bool) (a : Act) (w : World), wpAnyIn Fence.wide n P md ops Q fuel listed a w → wpAnyIn (Fence.wide.inRound l) n P md ops Q fuel listed a w
 | 0, _, _, _, h => h
 | fuel + 1, _, _, _, h => ⟨h.1, fun i hi => zcn hd (wpOpIn_mono (fun a' w' h' => YA hd fuel _ a' w' h') (h.2 i hi))⟩
theorem Y8 {ops : Array Oper} (h : (ops.toList.all fun o => match o.op with | .defer _ => false | _ => true) = true) (j : Nat) (o : Oper) (c) (hj : ops[j]? = some o) : o.op ≠ .defer c := fun e => by
 have := List.all_eq_true.1 h o (List.mem_of_getElem? (l := ops.toList) (i := j) (by simpa using hj))
 rw [e] at this; cases this
theorem vG {id l : Nat} {a : Act} {w : World} (hm : P.follows .mixedOrders = true) (hd : ∀ (j : Nat) (o : Oper) c, ops[j]? = some o → o.op ≠ .defer c) (h : qE n P .any ops Q S ops.size (Array.replicate ops.size false) a w.drew) : (Code.region id ops true).wpIn (Fence.wide.inRound l) n P Q a w :=
 wpIn_region_any hm (YA hd _ _ _ _ (kz _ _ _ _ h))
end
end Go.Proofs.Ytgkmmnihaiopaaa
namespace Go.Proofs.Ytgkmmnihaiopaaa
open Go.RowKit
def zq (w : World) (os : List Obj) : World := os.foldl (fun w o => w.alloc o) w
theorem zx : ∀ (os : List Obj) (w : World), (zq w os).heap.size = w.heap.size + os.length
 | [], _ => rfl
 | o :: os, w => by
   show (zq (w.alloc o) os).heap.size = _
   rw [zx os, World.size_alloc, List.length_cons]; omega
theorem zm : ∀ (os : List Obj) (w : World), Below w.heap.size w (zq w os)
 | [], w => Below.refl _ _
 | o :: os, w => ((Below.refl _ w).alloc (Nat.le_refl _) o).trans ((zm os (w.alloc o)).mono (by simp))
theorem zi : ∀ (os : List Obj) (w : World) (i : Nat) (o : Obj), os[i]? = some o → (zq w os).heap[w.heap.size + i]? = some o
 | [], _, _, _, h => by simp at h
 | o :: os, w, 0, o', h => by
   simp at h; subst h
   show (zq (w.alloc o) os).heap[w.heap.size]? = _
   rw [(zm os (w.alloc o)).block _ (by simp)]; exact World.alloc_heap_new w o
 | o :: os, w, i + 1, o', h => by
   have := zi os (w.alloc o) i o' (by simpa using h)
   rw [World.size_alloc] at this
   show (zq (w.alloc o) os).heap[w.heap.size + (i + 1)]? = _
   rw [show w.heap.size + (i + 1) = w.heap.size + 1 + i by omega]; exact this
theorem Zc {P : Program} {fn : Func} {p u : Tmp} {ty tb : TypeId} (h : fn.results = #[.cell p ty, .cell u tb]) (tmps : Array Value) (w : World) (g g' : Nat) (t : TypeId) (cs : Array Value) (fr : Nat × Nat) (d : TypeDesc) (b : Bool)
 (hp : tmps.getD p undef = .pointer (some ⟨g, 0, none⟩)) (hg : w.heap[g]? = some (.cells cs t fr)) (hu : P.underlying ty = some d) (hd : (match d with | .struct _ | .array _ _ => true | _ => false) = true) (hi : (P.info? ty).map (·.size) = some cs.size)
 (hp2 : tmps.getD u undef = .pointer (some ⟨g', 0, none⟩)) (hc : w.cell? ⟨g', 0, none⟩ = some (.bool b)) (hb : ∀ w, (isAgg tb).run P w = .ok false w) :
 (results fn tmps).run P w = .ok (.tuple #[.agg cs, .bool b]) w := by
 have hp' : tmps[p]?.getD undef = .pointer (some ⟨g, 0, none⟩) := by simpa using hp
 have hp2' : tmps[u]?.getD undef = .pointer (some ⟨g', 0, none⟩) := by simpa using hp2
 have hl : (loadVar tb ⟨g', 0, none⟩).run P w = .ok (.bool b) w := by simp [go_sem, hc, hb, Result.andThen]
 simp [results, h, hp', hp2', asAddr, run_loadVar_row w g t ty cs fr d hg hu hd hi, hl]
theorem Try.zfd : (Try.prog.info? 52).map (fun i => (i.size, i.bytes, i.zero.map (fun z => z.cells.size))) = some (5, 64, some 5) := by kernel_rfl
def zeD (w : World) (B : Nat) (rv : Value) (n : Nat) : Prop := ∃ xs, w.ownsRow B 52 5 rv n xs ∧ ∀ i, i < n → ∃ d, xs[i * 5 + 4]? = some (.int .i64 d)
def jJ (w w' : World) (rv rv' : Value) : Prop := w.grownBy w' rv.ownBlock ∧ (rv'.ownBlock = rv.ownBlock ∨ ∀ g, rv'.ownBlock = some g → w.heap.size < g)
theorem jJ.trans {w wr w2 : World} {rv l l2 : Value} (h : jJ w wr rv l) (h2 : jJ wr w2 l l2) : jJ w w2 rv l2 := by
 have hs := h.1.size
 refine ⟨⟨h2.1.os.trans h.1.os, h2.1.tape.trans h.1.tape, h2.1.output.trans h.1.output, Nat.le_trans hs h2.1.size, fun k hk hn => ?_⟩, ?_⟩
 · rw [h2.1.block k (by omega) (fun e => ?_), h.1.block k hk hn]
   rcases h.2 with h' | h'
   · exact hn (e.trans h')
   · have := h' k e.symm; omega
 · rcases h2.2 with h' | h'
   · rw [h']; exact h.2
   · exact Or.inr fun g hg => by have := h' g hg; omega
theorem jJ.box {w : World} {o : Obj} (rv : Value) : jJ w (w.alloc o) rv rv := ⟨⟨rfl, rfl, rfl, by simp, fun k hk _ => Below.heap_alloc w o k hk⟩, Or.inl rfl⟩
theorem jJ.first {w w1 : World} {o1 o2 : Obj} {rv : Value} {gg len cap : Nat} (h : ((w.alloc o1).alloc o2).grownBy w1 rv.ownBlock) (hat : rv.ownBlock = some gg ∨ gg = w.heap.size + 1 + 1) : jJ w w1 rv (.slice (some ⟨gg, 0, none⟩) len cap) :=
 ⟨⟨h.os, h.tape, h.output, by have := h.size; simp at this; omega, fun k hk hn => by rw [h.block k (by simp; omega) hn, Below.heap_alloc _ _ _ (by simp; omega), Below.heap_alloc _ _ _ hk]⟩,
  hat.elim (fun e => Or.inl (by rw [e]; rfl)) (fun e => Or.inr fun g hg => by simp only [Value.ownBlock, Option.some.injEq] at hg; omega)⟩
theorem zeD.box {w : World} {B : Nat} {rv : Value} {n : Nat} (h : zeD w B rv n) (o : Obj) : zeD (w.alloc o) B rv n := by
 obtain ⟨xs, ho, hx⟩ := h
 exact ⟨xs, ho.alloc o, hx⟩
theorem YF : ∀ (k : Nat) (f : Fo), zg (zy k f) ≤ zg f
 | 0, _ => by simp [zy, zg]
 | _ + 1, .nil => Nat.le_refl _
 | k + 1, .node _ _ _ l r => by have := YF k r; simp only [zy, zg]; omega
theorem zdG (t : Tr) : Zu (spF 1 (zl t)) = (zg t.kids : Int) + 1 := by
 rw [Zu, yl, zI]; omega
theorem qD (w : World) (o o' : Obj) : Below w.heap.size w ((w.alloc o).alloc o') := ((Below.refl _ _).alloc (Nat.le_refl _) _).alloc (by simp) _
theorem Ya (d : Nat) : ∀ (f : Fo) (b o : Nat) (k : Int × Int × ByteArray) (l : Fo), spF d (vz f b o k l) = spF d f ++ ((d, k, l) :: spF (d + 1) l)
 | .nil, _, _, _, _ => by simp [vz, spF]
 | .node _ _ _ l' r, b, o, k, l => by simp [vz, spF, Ya d r b o k l, List.append_assoc]
def spT (d : Nat) (t : Tr) : List Sp := (d, (t.id, t.kind, t.text), t.kids) :: spF (d + 1) t.kids
theorem zbA (t : Tr) : spT 1 t = spF 1 (zl t) := by simp [spT, zl, spF]
def Yd (w : World) (S : Nat → Prop) (xs : List Value) (i : Nat) (x : Sp) : Prop :=
 xs[i * 5]? = some (.int .i64 x.2.1.1) ∧ xs[i * 5 + 1]? = some (.int .i64 x.2.1.2.1) ∧ xs[i * 5 + 2]? = some (.string x.2.1.2.2) ∧ (∃ ka cap, xs[i * 5 + 3]? = some (.slice ka (foLen x.2.2) cap) ∧ foLen x.2.2 ≤ cap ∧ zC w S x.2.2 ka) ∧ xs[i * 5 + 4]? = some (.int .i64 (x.1 : Int))
def yU (S : Nat → Prop) (w : World) (B : Nat) (rv : Value) (n : Nat) (T : List Sp) : Prop := T.length = n ∧ ∃ xs, w.ownsRow B 52 5 rv n xs ∧ ∀ i x, T[i]? = some x → Yd w S xs i x
theorem Yd.kept {w w' : World} {S : Nat → Prop} {xs : List Value} {i : Nat} {x : Sp} (h : Yd w S xs i x) (hk : ∀ k, S k → w'.heap[k]? = w.heap[k]?) : Yd w' S xs i x := by
 obtain ⟨a, b, c, ⟨ka, cap, e, f, g⟩, z⟩ := h
 exact ⟨a, b, c, ⟨ka, cap, e, f, g.kept fun k hs => ⟨hs, hk k hs⟩⟩, z⟩
theorem yU.bounds {S : Nat → Prop} {w : World} {B : Nat} {rv : Value} {n : Nat} {T : List Sp} (h : yU S w B rv n T) {g : Nat} (hg : rv.ownBlock = some g) : B ≤ g ∧ g < w.heap.size := by
 obtain ⟨_, xs, ho, _⟩ := h
 exact zA ho hg
theorem jJ.zfX {S : Nat → Prop} {w wr : World} {B n : Nat} {rv l : Value} {T : List Sp} (h : jJ w wr rv l) (hs : yU S w B rv n T) (hB : B ≤ w.heap.size) : ∀ k, k < B → wr.heap[k]? = w.heap[k]? := fun k hk =>
 h.1.block k (by omega) (fun e => by have := (hs.bounds e.symm).1; omega)
theorem YP {w w' : World} {S : Nat → Prop} {xs : List Value} {n : Nat} {T : List Sp} {x : Sp} {ka : Option Addr} {cap : Nat} (hl : xs.length = n * 5) (hT : T.length = n) (hx : ∀ i y, T[i]? = some y → Yd w S xs i y) (hk : ∀ k, S k → w'.heap[k]? = w.heap[k]?) (hc : foLen x.2.2 ≤ cap) (hf : zC w' S x.2.2 ka) :
 ∀ i y, (T ++ [x])[i]? = some y → Yd w' S (xs ++ [.int .i64 x.2.1.1, .int .i64 x.2.1.2.1, .string x.2.1.2.2, .slice ka (foLen x.2.2) cap, .int .i64 (x.1 : Int)]) i y := fun i y hi => by
 by_cases h : i < n
 · rw [List.getElem?_append_left (by omega)] at hi
   obtain ⟨a, b, c, ⟨kb, cb, e, f, g⟩, z⟩ := (hx i y hi).kept hk
   exact ⟨by rw [List.getElem?_append_left (by omega)]; exact a, by rw [List.getElem?_append_left (by omega)]; exact b, by rw [List.getElem?_append_left (by omega)]; exact c, ⟨kb, cb, by rw [List.getElem?_append_left (by omega)]; exact e, f, g⟩, by rw [List.getElem?_append_left (by omega)]; exact z⟩
 · have hil := (List.getElem?_eq_some_iff.1 hi).1
   have : i = n := by simp at hil; omega
   subst this
   rw [List.getElem?_append_right (by omega), hT, Nat.sub_self] at hi
   simp at hi
   subst hi
   refine ⟨?_, ?_, ?_, ⟨ka, cap, ?_, hc, hf⟩, ?_⟩ <;> (rw [List.getElem?_append_right (by omega), hl]; simp)
def zho (S : Nat → Prop) (w : World) (B : Nat) (rv : Value) (n : Nat) (T : List Sp) (d : Nat) (t : Tr) (e : Ending) (w' : World) : Prop :=
 ∃ rv', e = .returned rv' ∧ yU S w' B rv' (n + (zg t.kids + 1)) (T ++ spT d t) ∧ jJ w w' rv rv'
def zdd (S : Nat → Prop) (w : World) (B : Nat) (rv : Value) (n : Nat) (T : List Sp) (x : Sp) (c1 : Array Value) (ks : Fo) (len : Nat) (l i : Value) (wr : World) : Prop :=
 ∃ k, k ≤ len ∧ i = .int .i64 (k : Nat) ∧ yU S wr B l (n + 1 + zg (zy k ks)) (T ++ (x :: spF (x.1 + 1) (zy k ks))) ∧ jJ w wr rv l ∧ wr.heap[w.heap.size]? = some (.cells c1 27 (0, 0))
theorem zcz (M : Nat) (hM : M ≤ 2000000) : ∀ (m : Nat) (w : World) (S : Nat → Prop) (v : Value) (t : Tr) (B : Nat) (rv : Value) (n : Nat) (T : List Sp) (d : Nat), zg t.kids < m → m ≤ 1000000 → n + zg t.kids + 1 ≤ M → (∀ k, S k → k < B) → B ≤ w.heap.size → zH w S v t →
 yU S w B rv n T → d ≤ n + 1 →
 Calls Try.prog 20 #[rv, v, .int .i64 (d : Int), .int .i64 (M : Int)] w (zho S w B rv n T d t) := by
 intro m
 induction m with
 | zero => intro w S v t B rv n T d h; omega
 | succ m ih =>
   intro w S v t B rv n T d hm hm5 hnM hS hB hv hrow hd1
   obtain ⟨ka, cap, rfl, hcpt, hk⟩ := hv
   obtain ⟨id, kd, tx, ks⟩ := t
   simp only at hk hm hnM hcpt
   simp only
   obtain ⟨hT, xs, ho, hxs⟩ := hrow
   obtain ⟨ra, rcap, rfl⟩ := zu ho
   obtain ⟨len, hlen⟩ : ∃ len, len = foLen ks := ⟨_, rfl⟩
   have hlen2 : len ≤ 1000000 := by have := yu ks; omega
   rw [← hlen] at hcpt ⊢
   have HN := hH (aN hm (aN hm5 hnM))
   have HLEN := hH (aN hlen hcpt)
   have HK := hH hk
   have HSS := hH (aN hS hB)
   have HIH := hH ih
   have HO := hH (aN ho hxs)
   have HT := hH hT
   have HD := hH hd1
   have hdM : (d : Int) ≤ 2000001 := by omega
   have hd0 : (0 : Int) ≤ (d : Int) := by omega
   have hnn : ¬ (M : Int) ≤ (n : Int) := by omega
   have hn5 : n ≤ 2000000 := by omega
   clear hlen hk hm hm5 hnM hS hB ih ho hxs hT hcpt hd1
   go_enter Try.func20, Try.ntmps20
   obtain ⟨i0, z0, hi0, hz0, hz1, hz2, hz3⟩ := yT Try.zfd
   have hnew : ((w.alloc (.cells #[.int .i64 id, .int .i64 kd, .string tx, .slice ka len cap] 27)).alloc (.cells #[.int .i64 id, .int .i64 kd, .string tx, .slice ka len cap, .int .i64 (d : Int)] 52)).heap[w.heap.size + 1]? = some (.cells #[.int .i64 id, .int .i64 kd, .string tx, .slice ka len cap, .int .i64 (d : Int)] 52 (0, 0)) := heap_alloc2_new w _ _
   have HNEW := hH hnew
   have hBw : B ≤ w.heap.size := HSS.out.2
   clear hnew
   go_wp2_with (at_builtin; refine wpList_append_lies _ rfl (.tmp 15) (.tmp 19) _ rfl B 52 i0 z0 5 64 Try.underlying30 hi0 hz0 hz1 hz2 hz3 (by omega) (.slice ra n rcap) n xs rfl ((HO.out.1.alloc _).alloc _) ⟨w.heap.size + 1, 0, none⟩ 1 1 [.int .i64 id, .int .i64 kd, .string tx, .slice ka len cap, .int .i64 (d : Int)] rfl rfl (World.news_of_block (cs := #[.int .i64 id, .int .i64 kd, .string tx, .slice ka len cap, .int .i64 (d : Int)]) (t := 52) (fr := (0, 0)) HNEW.out) (by simp [Value.oneCell']) (by omega) (by unfold maxLen; omega) (by omega) (by simp; omega) (w.heap.size + 1 + 1) (by simp) ?_; intro gg cap' w1 hown1 hgrow hat hlt1)
   have hg1 : jJ w w1 (.slice ra n rcap) (.slice (some ⟨gg, 0, none⟩) (n + 1) cap') := jJ.first hgrow hat
   have hsp0 : yU S w B (.slice ra n rcap) n T := ⟨HT.out, xs, HO.out⟩
   have hlow1 := hg1.zfX hsp0 hBw
   have hsp1 : yU S w1 B (.slice (some ⟨gg, 0, none⟩) (n + 1) cap') (n + 1) (T ++ [(d, (id, kd, tx), ks)]) := ⟨by rw [List.length_append, HT.out]; rfl, _, hown1, by
    have := YP (x := (d, (id, kd, tx), ks)) (ka := ka) (cap := cap) HO.out.1.1 HT.out HO.out.2 (w' := w1) (fun k hk => hlow1 k (HSS.out.1 k hk)) (by show foLen ks ≤ cap; rw [← HLEN.out.1]; exact HLEN.out.2) (HK.out.kept fun x hx => ⟨hx, hlow1 x (HSS.out.1 x hx)⟩)
    simp only [← HLEN.out.1] at this
    exact this⟩
   have hob : ∀ g, (Value.slice ra n rcap).ownBlock = some g → g < w.heap.size := fun g hg => (zA HO.out.1 hg).2
   have hbox : w1.heap[w.heap.size]? = some (.cells #[.int .i64 id, .int .i64 kd, .string tx, .slice ka len cap] 27 (0, 0)) := by
    rw [hgrow.block _ (by simp; omega) (fun e => by have := hob _ e.symm; omega)]; exact heap_alloc2_old w _ _
   have HG := hH (aN hg1 (aN hsp1 (aN hob hbox)))
   clear hg1 hsp1 hob hbox hgrow hown1 hat hsp0 hlow1
   go_loopw [0, 9] (fun l i wr => zdd S w B (.slice ra n rcap) n T (d, (id, kd, tx), ks) #[.int .i64 id, .int .i64 kd, .string tx, .slice ka len cap] ks len l i wr) (fun _ i _ => len - (intOf i).toNat)
   case atStart => exact ⟨0, Nat.zero_le _, rfl, by simpa [zy, zg, spF] using HG.out.2.1, HG.out.1, HG.out.2.2.2⟩
   case round =>
    obtain ⟨k, hk, rfl, hsp, hgr, hbx⟩ := hrel
    have p1 : wr.cell? ⟨w.heap.size, 3, none⟩ = some (.slice ka len cap) := by rw [cell_of_row wr _ 3 _ _ _ hbx]; rfl
    have HR := hH (aN hsp (aN hgr hbx))
    clear hsp hgr hbx
    by_cases hlt : k < len
    · have hlow := HR.out.2.1.zfX ⟨HT.out, xs, HO.out⟩ hBw
      have hk1 : zC wr S ks ka := HK.out.kept fun x hx => ⟨hx, hlow x (HSS.out.1 x hx)⟩
      obtain ⟨b0, o0, ⟨ki, kk, kt⟩, l', r, hd1', b, off, a1, n1, rfl, hSb, c0, c1, c2, c3, hcp, hl1⟩ := hk1.at k (by rw [← HLEN.out.1]; exact hlt)
      obtain ⟨_, _, _, _, _, e1, e2, hsz1, htk⟩ := qB k ks (by rw [← HLEN.out.1]; exact hlt)
      rw [hd1'] at e1; cases e1
      have hfs : zg (zy k ks) + zg l' + 1 ≤ zg ks := by have := YF (k + 1) ks; rw [htk, kF] at this; exact this
      have hcall := HIH.out wr S (.agg #[.int .i64 ki, .int .i64 kk, .string kt, .slice a1 (foLen l') n1]) ⟨ki, kk, kt, l'⟩ B u0 (n + 1 + zg (zy k ks)) (T ++ ((d, (id, kd, tx), ks) :: spF (d + 1) (zy k ks))) (d + 1) (by have := HN.out.1; simp only; omega) (by have := HN.out.2.1; omega) (by have := HN.out.2.2; simp only; omega) HSS.out.1 (Nat.le_trans hBw HR.out.2.1.1.size) ⟨a1, n1, rfl, hcp, hl1⟩ HR.out.1 (by have := HD.out; omega)
      obtain ⟨m1, hm1⟩ : ∃ m, m = foLen l' := ⟨_, rfl⟩
      rw [← hm1] at hcall c3
      simp only at c0 c1 c2
      have hcast : (((d + 1 : Nat)) : Int) = (d : Int) + 1 := by omega
      rw [hcast] at hcall
      have HC := hH hcall
      have htk2 : spF (d + 1) (zy (k + 1) ks) = spF (d + 1) (zy k ks) ++ ((d + 1, (ki, kk, kt), l') :: spF (d + 1 + 1) l') := by rw [htk, Ya]
      have htk3 : zg (zy (k + 1) ks) = zg (zy k ks) + zg l' + 1 := by rw [htk, kF]
      have HTK := hH (aN htk2 htk3)
      have hkl : (k : Int) < (len : Int) := by omega
      clear hk1 hlow hd1' hcall hm1 htk htk2 htk3 hl1 hsz1 hSb e2 hcp hcast hfs
      go_wp2_with fail
      refine HC.out.mono ?_
      rintro e w2 ⟨l2, rfl, hsp2, hg2⟩
      have HE := hH (aN hsp2 hg2)
      clear hsp2 hg2
      go_wp2_with fail
      have hne : some w.heap.size ≠ u0.ownBlock := fun e => by
       rcases HR.out.2.1.2 with h | h
       · have := HG.out.2.2.1 _ (h.symm.trans e.symm); omega
       · have := h _ e.symm; omega
      refine ⟨⟨k + 1, by omega, by go_num, ?_, HR.out.2.1.trans HE.out.2, (HE.out.2.1.block _ (lt_of_some HR.out.2.2) hne).trans HR.out.2.2⟩, by simp [intOf]; omega⟩
      have h1 := HE.out.1
      simp only at h1 ⊢
      rw [HTK.out.1, HTK.out.2]
      have e3 : T ++ ((d, (id, kd, tx), ks) :: spF (d + 1) (zy k ks)) ++ spT (d + 1) ⟨ki, kk, kt, l'⟩ = T ++ ((d, (id, kd, tx), ks) :: (spF (d + 1) (zy k ks) ++ ((d + 1, (ki, kk, kt), l') :: spF (d + 1 + 1) l'))) := by simp [spT, List.append_assoc]
      rw [e3] at h1
      rw [show n + 1 + (zg (zy k ks) + zg l' + 1) = n + 1 + zg (zy k ks) + (zg l' + 1) by omega]
      exact h1
    · have hkk : k = len := by omega
      have HKK := hH hkk
      have hkl : ¬ (k : Int) < (len : Int) := by omega
      clear hkk
      go_wp2_with fail
      go_ret
      refine ⟨_, rfl, ?_, HR.out.2.1⟩
      have h := HR.out.1
      rw [qO k ks (by rw [HKK.out, HLEN.out.1]; exact Nat.le_refl _)] at h
      show yU S _ B _ (n + (zg ks + 1)) (T ++ spT d ⟨id, kd, tx, ks⟩)
      rw [show n + (zg ks + 1) = n + 1 + zg ks by omega]
      exact h
def zg2 (w : World) (S : Nat → Prop) (t : Tr) (e : Ending) (w' : World) : Prop := ∃ a cap, e = .returned (.slice a (zg t.kids + 1) cap) ∧ yU S w' w.heap.size (.slice a (zg t.kids + 1) cap) (zg t.kids + 1) (spF 1 (zl t)) ∧ Below w.heap.size w w'
theorem zd9 (M : Nat) (hM : M ≤ 2000000) (w : World) (S : Nat → Prop) (v : Value) (t : Tr) (hsz : zg t.kids + 1 ≤ M) (hsz5 : zg t.kids + 1 ≤ 1000000) (hS : ∀ k, S k → k < w.heap.size) (hv : zH w S v t) :
 Calls Try.prog 6 #[v, .int .i64 (M : Int)] w (zg2 w S t) := by
 obtain ⟨ka, cap, rfl, hcp, hk⟩ := hv
 have hb : Below w.heap.size w (w.alloc (.cells #[.int .i64 t.id, .int .i64 t.kind, .string t.text, .slice ka (foLen t.kids) cap] 27)) := (Below.refl _ _).alloc (Nat.le_refl _) _
 have hc := zcz M hM _ (w.alloc (.cells #[.int .i64 t.id, .int .i64 t.kind, .string t.text, .slice ka (foLen t.kids) cap] 27)) S _ t w.heap.size (.slice none 0 0) 0 [] 1 (Nat.lt_succ_self _) hsz5 (by omega) hS hb.size ⟨ka, cap, rfl, hcp, hk.below hb hS⟩ ⟨rfl, [], World.ownsRow_nil _ _ _ _, fun i p hi => by simp at hi⟩ (by omega)
 have HC := hH (aN hc hb)
 clear hc hb hk hS hcp hsz hsz5
 obtain ⟨len, hl⟩ : ∃ len, len = foLen t.kids := ⟨_, rfl⟩
 rw [← hl] at HC
 rw [← hl]
 clear hl
 go_enter Try.func6, Try.ntmps6
 go_wp2_with fail
 refine HC.out.1.mono ?_
 rintro e w2 ⟨rv, rfl, hsp, hg⟩
 have hb2 : Below w.heap.size w w2 := HC.out.2.trans ⟨hg.1.os, hg.1.tape, hg.1.output, hg.1.size, fun k hk => hg.1.block k (by have := HC.out.2.size; omega) (by simp [Value.ownBlock])⟩
 have hsp' := hsp
 obtain ⟨hT, xs, ho, _⟩ := hsp
 obtain ⟨a, cap', rfl⟩ := zu ho
 have HE := hH (aN hsp' hb2)
 clear hsp' ho hg hT
 go_wp2_with fail
 go_ret
 have h := HE.out.1
 rw [List.nil_append, zbA, Nat.zero_add] at h
 exact ⟨_, _, rfl, h, HE.out.2⟩
end Go.Proofs.Ytgkmmnihaiopaaa
namespace Go.Proofs.Ytgkmmnihaiopaaa
open Go.RowKit Go.Shelf
attribute [local go_sem] Oper.semAt_some
def zR (x : Sp) : Tr := ⟨x.2.1.1, x.2.1.2.1, x.2.1.2.2, x.2.2⟩
def zbN : Tr := ⟨0, 0, ⟨#[]⟩, .nil⟩
def yI (id : Int) (l : List Sp) : Option Sp := l.find? (fun x => x.2.1.1 == id)
theorem Zk {id : Int} {l : List Sp} (h : ∀ x ∈ l, x.2.1.1 ≠ id) : yI id l = none := by
 simp only [yI, List.find?_eq_none]
 intro x hx; have := h x hx; simpa using this
theorem Zl {id : Int} {pre rest : List Sp} {x : Sp} (h : ∀ y ∈ pre, y.2.1.1 ≠ id) (hx : x.2.1.1 = id) : yI id (pre ++ x :: rest) = some x := by
 have h1 : List.find? (fun x : Sp => x.2.1.1 == id) pre = none := Zk h
 simp [yI, List.find?_append, h1, hx]
theorem Yw : ∀ (d : Nat) (f : Fo) (x : Sp), x ∈ spF d f → zg x.2.2 + 1 ≤ zg f
 | _, .nil, x, h => by simp [spF] at h
 | d, .node _ _ k l r, x, h => by
   simp only [spF, List.mem_cons, List.mem_append] at h
   simp only [zg]
   rcases h with rfl | h | h
   · simp only; omega
   · have := Yw (d + 1) l x h; omega
   · have := Yw d r x h; omega
end Go.Proofs.Ytgkmmnihaiopaaa
