/-
  .
-/
import Derived.Deep.Cut
import Derived.StillTailTactics
import Derived.Test.YtchccbfljamjnaaGreatWFieldsQm
import Derived.Test.YtchccbfljamjnaaGreatWSameQm
import Derived.DeepKeys
import Derived.Test.YtchccbfljamjnaaGreatJPgQm
set_option maxRecDepth 100000
set_option maxHeartbeats 40000000
set_option linter.unusedVariables false
set_option linter.unusedSimpArgs false
namespace Go.Proofs.YtchccbfljamjnaaGreat
open Go.RowKit Go.Shelf
structure Qo (cs : Array Value) (kd : Int) : Prop where
 kind : cs[0]? = some (.int .i8 kd)
 nums : ∀ i, 1 ≤ i → i ≤ 10 → ∃ n, cs[i]? = some (.int .i64 n)
theorem Qo.set {cs : Array Value} {kd : Int} (h : Qo cs kd) {i : Nat} (hi : 1 ≤ i) (m : Int) : Qo (cs.setIfInBounds i (.int .i64 m)) kd := by
 refine ⟨by rw [Array.getElem?_setIfInBounds_ne (by omega)]; exact h.kind, fun j h1 h2 => ?_⟩
 by_cases e : i = j
 · subst e
   obtain ⟨n, hn⟩ := h.nums i h1 h2
   have hlt : i < cs.size := (Array.getElem?_eq_some_iff.1 hn).1
   exact ⟨m, by rw [Array.getElem?_setIfInBounds_self_of_lt hlt]⟩
 · rw [Array.getElem?_setIfInBounds_ne e]; exact h.nums j h1 h2
def qD (cs : Array Value) (i : Nat) : Int := match cs[i]? with
 | some (.int _ n) => n
 | _ => 0
theorem jR {cs : Array Value} {i : Nat} {n : Int} (h : cs[i]? = some (.int .i64 n)) : qD cs i = n := by unfold qD; rw [h]
def yn {σ : Type} (num : σ → Int → Int → Int → Option (Int × σ)) : List (Nat × Int × Int) → σ → Array Value → Option (σ × Array Value)
 | [], s, cs => some (s, cs)
 | q :: r, s, cs => match num s (qD cs q.1) q.2.1 q.2.2 with
   | some (m, s') => yn num r s' (cs.setIfInBounds q.1 (.int .i64 m))
   | none => none
theorem vY {σ : Type} {num : σ → Int → Int → Int → Option (Int × σ)} : ∀ {qs : List (Nat × Int × Int)} {j : Nat} {q : Nat × Int × Int} {s s' t : σ} {cs cs' : Array Value} {m : Int}, yn num (qs.take j) s cs = some (s', cs') → qs[j]? = some q → num s' (qD cs' q.1) q.2.1 q.2.2 = some (m, t) → yn num (qs.take (j + 1)) s cs = some (t, cs'.setIfInBounds q.1 (.int .i64 m))
 | [], j, q, s, s', t, cs, cs', m, _, hq, _ => by simp at hq
 | p :: r, 0, q, s, s', t, cs, cs', m, h, hq, hn => by
   simp at hq; subst hq
   simp only [List.take_zero, yn] at h
   cases h
   simp only [Nat.zero_add, List.take_succ_cons, List.take_zero, yn, hn]
 | p :: r, j + 1, q, s, s', t, cs, cs', m, h, hq, hn => by
   rw [List.take_succ_cons, yn] at h ⊢
   split at h
   · rename_i m1 s1 h1
     exact vY h (by simpa using hq) hn
   · cases h
theorem kX {σ : Type} {num : σ → Int → Int → Int → Option (Int × σ)} : ∀ {qs : List (Nat × Int × Int)} {j : Nat} {q : Nat × Int × Int} {s s' : σ} {cs cs' : Array Value}, yn num (qs.take j) s cs = some (s', cs') → qs[j]? = some q → num s' (qD cs' q.1) q.2.1 q.2.2 = none → yn num qs s cs = none
 | [], j, q, s, s', cs, cs', _, hq, _ => by simp at hq
 | p :: r, 0, q, s, s', cs, cs', h, hq, hn => by
   simp at hq; subst hq
   simp only [List.take_zero, yn] at h
   cases h
   rw [yn, hn]
 | p :: r, j + 1, q, s, s', cs, cs', h, hq, hn => by
   rw [List.take_succ_cons, yn] at h
   rw [yn]
   split at h
   · rename_i m1 s1 h1
     exact kX h (by simpa using hq) hn
   · cases h
def vI {σ : Type} (R : σ → World → Prop) (O : Nat → Prop) (o : Option (σ × Array Value)) (b : Nat) (X : World) (e : Ending) (X' : World) : Prop := match o with
 | some (s', cs') => e = .returned (.tuple #[]) ∧ R s' X' ∧ X'.heap[b]? = some (.cells cs' 37 (0, 0)) ∧ za X X' (fun q => O q ∨ q = b)
 | none => e = .panicked qV ∧ za X X' (fun q => O q ∨ q = b)
structure kv {σ : Type} (G : σ → Prop) (R : σ → World → Prop) (O : Nat → Prop) (num : σ → Int → Int → Int → Option (Int × σ)) (b : Nat) (T : TypeId) (v : Value) (kd : Int) (F : FuncId) (q : Nat × Int × Int) : Prop where
 one : 1 ≤ q.1 ∧ q.1 ≤ 10
 enter : ∀ (args : Array Value) (w : World), (callFunc F args).run Tryz.prog w = .ok (.enter F args) w
 does : ∀ (s : σ) (X : World) (cs : Array Value) (n : Int), R s X → X.heap[b]? = some (.cells cs 37 (0, 0)) → cs[q.1]? = some (.int .i64 n) → cs[0]? = some (.int .i8 kd) → Calls Tryz.prog F #[.agg #[.pointer (some ⟨b, 0, none⟩), .iface T v]] X (zo G R O (num s n q.2.1 q.2.2) b cs q.1 X)
theorem za.yu {w X Y : World} {S : Nat → Prop} (h : za w X S) (k : za X Y S) : za w Y S := ⟨k.os.trans h.os, k.tape.trans h.tape, k.output.trans h.output, Nat.le_trans h.size k.size, fun q h1 h2 => (k.block q (nL h1 h.size) h2).trans (h.block q h1 h2)⟩
theorem zy {w X : World} (h : Below w.heap.size w X) (S : Nat → Prop) : za w X S := ⟨h.os, h.tape, h.output, h.size, fun k hk _ => h.block k hk⟩
def qd (kd : Int) : Bool := decide (kd = 2 ∨ kd = 5 ∨ kd = 9)
def qg (kd : Int) : Nat × Int × Int := (1, (if qd kd then 1 else 0), (if qd kd then 8 else 0))
def toQ (kd : Int) : Nat × Int × Int := (2, (if qd kd then 0 else 1), (if qd kd then 0 else 8))
def qA (kd : Int) : Nat × Int × Int := (4, (if qd kd then 0 else 1), 1125899906842624)
section
variable {σ : Type} {G : σ → Prop} {R : σ → World → Prop} {O : Nat → Prop} {num : σ → Int → Int → Int → Option (Int × σ)} {b : Nat} {T : TypeId} {v rv : Value} {fn : FuncId}
set_option maxRecDepth 100000
theorem vX (H : yK G R O num b T v rv fn) (kd : Int) : kv G R O num b T v kd 144 (3, 1, 1125899906842624) := ⟨by decide, fun _ _ => by rfl, fun s X cs n h1 h2 h3 _ => YH H s X cs n h1 h2 h3⟩
theorem qh (H : yK G R O num b T v rv fn) (kd : Int) : kv G R O num b T v kd 143 (qA kd) := ⟨⟨by show 1 ≤ 4; decide, by show 4 ≤ 10; decide⟩, fun _ _ => by rfl, fun s X cs n h1 h2 h3 h4 => by
 unfold qA
 cases hc : qd kd
 · exact Zo H s X cs n kd h1 h2 h3 h4 hc
 · exact Yd H s X cs n kd h1 h2 h3 h4 hc⟩
theorem QS (H : yK G R O num b T v rv fn) (kd : Int) : kv G R O num b T v kd 105 (qg kd) := ⟨⟨by show 1 ≤ 1; decide, by show 1 ≤ 10; decide⟩, fun _ _ => by rfl, fun s X cs n h1 h2 h3 h4 => by
 unfold qg
 cases hc : qd kd
 · exact YK H s X cs n kd h1 h2 h3 h4 hc
 · exact QI H s X cs n kd h1 h2 h3 h4 hc⟩
theorem zar (H : yK G R O num b T v rv fn) (kd : Int) : kv G R O num b T v kd 106 (toQ kd) := ⟨⟨by show 1 ≤ 2; decide, by show 2 ≤ 10; decide⟩, fun _ _ => by rfl, fun s X cs n h1 h2 h3 h4 => by
 unfold toQ
 cases hc : qd kd
 · exact J2 H s X cs n kd h1 h2 h3 h4 hc
 · exact zaz H s X cs n kd h1 h2 h3 h4 hc⟩
end
end Go.Proofs.YtchccbfljamjnaaGreat
namespace Go.Proofs.YtchccbfljamjnaaGreat
open Go.RowKit Go.Shelf
structure zbq where
 (k n1 n2 n3 n4 n5 n6 n7 n8 n9 n10 : Int)
deriving DecidableEq
theorem jh (w : World) (k n1 n2 n3 n4 n5 n6 n7 n8 n9 n10 : Int) (sa : Option Addr) (sn sc : Nat) (i kd : Int) (s : ByteArray) (ka : Option Addr) (kn kc : Nat) (hk : IntKind.i64.wrap k = k) :
 Calls Tryz.prog 61 #[.agg #[.int .i8 k, .int .i64 n1, .int .i64 n2, .int .i64 n3, .int .i64 n4, .int .i64 n5, .int .i64 n6, .int .i64 n7, .int .i64 n8, .int .i64 n9, .int .i64 n10, .slice sa sn sc, .int .i64 i, .int .i64 kd, .string s, .slice ka kn kc]] w (fun e w' => e = .returned (.agg #[.int .i64 k, .int .i64 n1, .int .i64 n2, .int .i64 n3, .int .i64 n4, .int .i64 n5, .int .i64 n6, .int .i64 n7, .int .i64 n8, .int .i64 n9, .int .i64 n10]) ∧ Below w.heap.size w w') := by
 go_enter Tryz.func61, Tryz.ntmps61
 go_wp2_with fail
 refine bodyPost_ret (results_cell_row rfl _ _ (w.heap.size + 1) 91 #[.int .i64 k, .int .i64 n1, .int .i64 n2, .int .i64 n3, .int .i64 n4, .int .i64 n5, .int .i64 n6, .int .i64 n7, .int .i64 n8, .int .i64 n9, .int .i64 n10] (0, 0) _ rfl (by rw [show w.heap.size + 1 = (w.alloc (.cells #[.int .i8 k, .int .i64 n1, .int .i64 n2, .int .i64 n3, .int .i64 n4, .int .i64 n5, .int .i64 n6, .int .i64 n7, .int .i64 n8, .int .i64 n9, .int .i64 n10, .slice sa sn sc, .int .i64 i, .int .i64 kd, .string s, .slice ka kn kc] 37)).heap.size from (World.size_alloc _ _).symm]; exact heap_alloc_new _ _) Tryz.underlying91 rfl (by kernel_rfl)) rfl ?_
 exact ⟨rfl, ((Below.refl _ _).alloc (Nat.le_refl _) _).alloc (by rw [World.size_alloc]; omega) _⟩
def Z0 (a b : zbq) : Bool := a.k == b.k && (a.n1 == b.n1 && (a.n2 == b.n2 && (a.n3 == b.n3 && (a.n4 == b.n4 && (a.n5 == b.n5 && (a.n6 == b.n6 && (a.n7 == b.n7 && (a.n8 == b.n8 && (a.n9 == b.n9 && a.n10 == b.n10)))))))))
theorem vN (w : World) (d : Nat) (xs ys : Array Value) : ∀ (is : List Nat), (∀ i, i ∈ is → (∃ x, xs[i]? = some (.int .i64 x)) ∧ (∃ y, ys[i]? = some (.int .i64 y))) → (Op.eqItems (d + 1) 3 1 xs ys is).run Tryz.prog w = .ok (is.all fun i => qD xs i == qD ys i) w
 | [], _ => by simp [Op.eqItems]
 | i :: is, h => by
   obtain ⟨⟨x, hx⟩, y, hy⟩ := h i (by simp)
   have ih := vN w d xs ys is (fun j hj => h j (by simp [hj]))
   have px : ∀ (zs : Array Value) (z : Int), zs[i]? = some (.int .i64 z) → (part 3 zs (i * 1)).run Tryz.prog w = .ok (.int .i64 z) w := fun zs z hz => by
    simp [part, run_underlying Tryz.underlying3, hz]
   simp only [Op.eqItems, Sem.run_bind, px xs x hx, px ys y hy, Result.andThen_ok, Op.equalIn, run_underlying Tryz.underlying3]
   cases hb : (x == y)
   · simp [hb, qD, hx, hy]
   · simp [hb, qD, hx, hy, ih]
theorem jL (w : World) (k n1 n2 n3 n4 n5 n6 n7 n8 n9 n10 k' n1' n2' n3' n4' n5' n6' n7' n8' n9' n10' : Int) : (binOp .eql 91 (.agg #[.int .i64 k, .int .i64 n1, .int .i64 n2, .int .i64 n3, .int .i64 n4, .int .i64 n5, .int .i64 n6, .int .i64 n7, .int .i64 n8, .int .i64 n9, .int .i64 n10]) (.agg #[.int .i64 k', .int .i64 n1', .int .i64 n2', .int .i64 n3', .int .i64 n4', .int .i64 n5', .int .i64 n6', .int .i64 n7', .int .i64 n8', .int .i64 n9', .int .i64 n10'])).run Tryz.prog w = .ok (.bool (Z0 ⟨k, n1, n2, n3, n4, n5, n6, n7, n8, n9, n10⟩ ⟨k', n1', n2', n3', n4', n5', n6', n7', n8', n9', n10'⟩)) w := by
 obtain ⟨i, hi⟩ : ∃ i, Tryz.prog.info? 3 = some i := Option.isSome_iff_exists.1 (show (Tryz.prog.info? 3).isSome = true by kernel_rfl)
 have hr := run_equalIn_array w 9999 #[.int .i64 k, .int .i64 n1, .int .i64 n2, .int .i64 n3, .int .i64 n4, .int .i64 n5, .int .i64 n6, .int .i64 n7, .int .i64 n8, .int .i64 n9, .int .i64 n10] #[.int .i64 k', .int .i64 n1', .int .i64 n2', .int .i64 n3', .int .i64 n4', .int .i64 n5', .int .i64 n6', .int .i64 n7', .int .i64 n8', .int .i64 n9', .int .i64 n10'] Tryz.underlying91 hi
 rw [show Tryz.prog.cellsOf 3 = 1 from by kernel_rfl, show List.range 11 = [0, 1, 2, 3, 4, 5, 6, 7, 8, 9, 10] from rfl, vN w 9998 _ _ _ (fun i hi => by
  simp only [List.mem_cons, List.not_mem_nil, or_false] at hi
  rcases hi with rfl | rfl | rfl | rfl | rfl | rfl | rfl | rfl | rfl | rfl | rfl <;> exact ⟨⟨_, rfl⟩, _, rfl⟩)] at hr
 have hb : Op.maxDepth = 9999 + 1 := rfl
 simp only [binOp, Op.equal, hb, Sem.run_bind, hr, Result.andThen_ok, Functor.map]
 simp [Z0, qD, List.all]
end Go.Proofs.YtchccbfljamjnaaGreat
