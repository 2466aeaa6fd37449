/-
  .
-/
import Derived.Test.YtchccbfljamjnaaGreatWRightQm
import Derived.Test.YtchccbfljamjnaaGreatJPgQm
set_option maxRecDepth 100000
set_option maxHeartbeats 40000000
set_option linter.unusedVariables false
set_option linter.unusedSimpArgs false
namespace Go.Proofs.YtchccbfljamjnaaGreat
open Go.RowKit Go.Shelf
def qB (b : Bool) (w : World) (e : Ending) (Z : World) : Prop := e = .returned (.bool b) ∧ Below w.heap.size w Z
theorem zaf (w : World) (a : Option Addr) (n c : Nat) (f : Value) (hn : n ≤ 1000000) : Calls Tryz.prog 44 #[.slice a n c, .slice none 0 0, f] w (qB (n == 0) w) := by
 cases n with
 | succ m =>
   have hnn : (((m + 1 : Nat) : Int) == 0) = false := by simp; omega
   have hb : (m + 1 == 0) = false := by simp
   rw [hb]
   obtain ⟨p, hp⟩ : ∃ p, p = m + 1 := ⟨_, rfl⟩
   rw [← hp] at hnn hn ⊢
   clear hp hb
   go_enter Tryz.func44, Tryz.ntmps44
   go_wp2_with fail
   go_ret
   exact ⟨rfl, Below.refl _ _⟩
 | zero =>
   rw [show ((0 : Nat) == 0) = true from rfl]
   go_enter Tryz.func44, Tryz.ntmps44
   go_wp2_with fail
   go_loopw [17] (fun i wr => i = .int .i64 0 ∧ wr = w) (fun i _ => 0)
   case atStart => exact ⟨rfl, rfl⟩
   case round =>
    obtain ⟨rfl, rfl⟩ := hrel
    go_wp2_with fail
    go_ret
    exact ⟨rfl, Below.refl _ _⟩
theorem kG (w : World) (a : Option Addr) (n c : Nat) (hn : n ≤ 1000000) : Calls Tryz.prog 62 #[.slice a n c, .slice none 0 0] w (qB (n == 0) w) := by
 have HE := hH (zaf w a n c (.func (.func 109) #[] #[]) hn)
 clear hn
 go_enter Tryz.func62, Tryz.ntmps62
 go_wp2_with fail
 refine HE.out.mono ?_
 rintro e Z ⟨rfl, h⟩
 have HB := hH h
 clear h
 go_wp2_with fail
 go_ret
 exact ⟨rfl, HB.out⟩
theorem J8 (w : World) : Calls Tryz.prog 63 #[.agg #[.int .i64 0, .int .i64 0, .string ⟨#[]⟩, .slice none 0 0], .agg #[.int .i64 0, .int .i64 0, .string ⟨#[]⟩, .slice none 0 0]] w (qB true w) :=
 (vR w (fun _ => False) (fun _ => False) ⟨0, 0, ⟨#[]⟩, .nil⟩ ⟨0, 0, ⟨#[]⟩, .nil⟩ none none 0 0 0 0 rfl rfl (fun _ h => h.elim) (fun _ h => h.elim) (Nat.le_refl _) (Nat.le_refl _) trivial trivial (by decide) (by decide)).mono fun e Z h => ⟨h.1.trans (by rw [YX]), h.2⟩
theorem jQ (a0 a1 a2 a3 a4 a5 a6 a7 a8 a9 a10 : Int) : Qo #[.int .i8 a0, .int .i64 a1, .int .i64 a2, .int .i64 a3, .int .i64 a4, .int .i64 a5, .int .i64 a6, .int .i64 a7, .int .i64 a8, .int .i64 a9, .int .i64 a10, .slice none 0 0, .int .i64 0, .int .i64 0, .string ⟨#[]⟩, .slice none 0 0] a0 := ⟨rfl, fun i h1 h2 => by
 have : i = 1 ∨ i = 2 ∨ i = 3 ∨ i = 4 ∨ i = 5 ∨ i = 6 ∨ i = 7 ∨ i = 8 ∨ i = 9 ∨ i = 10 := by omega
 rcases this with rfl | rfl | rfl | rfl | rfl | rfl | rfl | rfl | rfl | rfl <;> exact ⟨_, rfl⟩⟩
theorem kT {a0 : Int} {k : Nat} (hk : a0 = (k : Int)) (h1 : 1 ≤ k) (h2 : k ≤ 10) : zu 1 10 a0 = true := by
 unfold zu
 rw [decide_eq_true (by omega), decide_eq_true (by omega)]; rfl
theorem Za {a0 : Int} {k : Nat} (hk : a0 = (k : Int)) (h2 : k ≤ 10) : IntKind.i64.wrap a0 = a0 := by
 subst hk
 have : k = 0 ∨ k = 1 ∨ k = 2 ∨ k = 3 ∨ k = 4 ∨ k = 5 ∨ k = 6 ∨ k = 7 ∨ k = 8 ∨ k = 9 ∨ k = 10 := by omega
 rcases this with rfl | rfl | rfl | rfl | rfl | rfl | rfl | rfl | rfl | rfl | rfl <;> rfl
theorem j4 (w : World) (a0 a1 a2 a3 a4 a5 a6 a7 a8 a9 a10 c1 c2 c3 c4 c5 c6 c7 c8 c9 c10 : Int) (k : Nat) (hk : a0 = (k : Int)) (hk1 : 1 ≤ k) (hk2 : k ≤ 10) (l : List FuncId) (hl : vO[k]? = some l) (qs : List (Nat × Int × Int)) (hlen : l.length = qs.length) (hqs : ∀ (b j : Nat) (F : FuncId) (q : Nat × Int × Int), l[j]? = some F → qs[j]? = some q → kv (σ := Unit) (fun _ => True) (fun _ _ => True) (fun _ => False) ql b 87 (.agg #[]) a0 F q) (hll : l.length ≤ 100)
 (ho : yn ql (qg a0 :: toQ a0 :: qs) () #[.int .i8 a0, .int .i64 a1, .int .i64 a2, .int .i64 a3, .int .i64 a4, .int .i64 a5, .int .i64 a6, .int .i64 a7, .int .i64 a8, .int .i64 a9, .int .i64 a10, .slice none 0 0, .int .i64 0, .int .i64 0, .string ⟨#[]⟩, .slice none 0 0] = some ((), #[.int .i8 a0, .int .i64 c1, .int .i64 c2, .int .i64 c3, .int .i64 c4, .int .i64 c5, .int .i64 c6, .int .i64 c7, .int .i64 c8, .int .i64 c9, .int .i64 c10, .slice none 0 0, .int .i64 0, .int .i64 0, .string ⟨#[]⟩, .slice none 0 0])) :
 Calls Tryz.prog 22 #[.agg #[.int .i8 a0, .int .i64 a1, .int .i64 a2, .int .i64 a3, .int .i64 a4, .int .i64 a5, .int .i64 a6, .int .i64 a7, .int .i64 a8, .int .i64 a9, .int .i64 a10, .slice none 0 0, .int .i64 0, .int .i64 0, .string ⟨#[]⟩, .slice none 0 0]] w (qB (Z0 ⟨a0, c1, c2, c3, c4, c5, c6, c7, c8, c9, c10⟩ ⟨a0, 0, 0, 0, 0, 0, 0, 0, 0, 0, 0⟩) w) :=
 Q4 w a0 a1 a2 a3 a4 a5 a6 a7 a8 a9 a10 0 0 none none 0 0 0 0 ⟨#[]⟩ _ fun B hB hx => Z9 B w.heap.size a0 a1 a2 a3 a4 a5 a6 a7 a8 a9 a10 0 0 none none 0 0 0 0 ⟨#[]⟩ a0 c1 c2 c3 c4 c5 c6 c7 c8 c9 c10 0 0 none none 0 0 0 0 ⟨#[]⟩ _ hx (kT hk hk1 hk2) (fun Y hY => (jT (qy w.heap.size) a0 k hk hk1 hk2 l hl qs hlen (hqs w.heap.size) hll () Y #[.int .i8 a0, .int .i64 a1, .int .i64 a2, .int .i64 a3, .int .i64 a4, .int .i64 a5, .int .i64 a6, .int .i64 a7, .int .i64 a8, .int .i64 a9, .int .i64 a10, .slice none 0 0, .int .i64 0, .int .i64 0, .string ⟨#[]⟩, .slice none 0 0] trivial ((hY.block _ (lt_of_heap hx)).trans hx) (jQ a0 a1 a2 a3 a4 a5 a6 a7 a8 a9 a10) (fun _ _ _ _ => trivial)).mono fun e Z h => by
  rw [ho] at h
  exact ⟨h.1, h.2.2.1, zk h.2.2.2 (fun q hq => hq.elim False.elim id)⟩)
  (fun Z hZ => (JX Z a0 c1 c2 c3 c4 c5 c6 c7 c8 c9 c10 0 0 none none 0 0 0 0 ⟨#[]⟩ a0 0 0 0 0 0 0 0 0 0 0 0 0 none none 0 0 0 0 ⟨#[]⟩ true true (Za hk hk2) (Za hk hk2) (fun Y _ => kG Y none 0 0 (by decide)) (fun Y _ => J8 Y)).mono fun e V h => ⟨h.1.trans (by rw [Bool.and_true, Bool.and_true]), h.2⟩)
theorem QL (b j : Nat) (F : FuncId) (q : Nat × Int × Int) (h1 : ([144, 143] : List FuncId)[j]? = some F) (h2 : ([(3, 1, 1125899906842624), qA 9] : List (Nat × Int × Int))[j]? = some q) : kv (σ := Unit) (fun _ => True) (fun _ _ => True) (fun _ => False) ql b 87 (.agg #[]) 9 F q :=
 match j, h1, h2 with
 | 0, h1, h2 => by cases h1; cases h2; exact vX (qy b) 9
 | 1, h1, h2 => by cases h1; cases h2; exact qh (qy b) 9
 | j + 2, h1, h2 => by simp at h1
theorem QK (b j : Nat) (F : FuncId) (q : Nat × Int × Int) (h1 : ([143] : List FuncId)[j]? = some F) (h2 : ([qA 1] : List (Nat × Int × Int))[j]? = some q) : kv (σ := Unit) (fun _ => True) (fun _ _ => True) (fun _ => False) ql b 87 (.agg #[]) 1 F q :=
 match j, h1, h2 with
 | 0, h1, h2 => by cases h1; cases h2; exact qh (qy b) 1
 | j + 1, h1, h2 => by simp at h1
theorem JU (w : World) : Calls Tryz.prog 22 #[.agg #[.int .i8 9, .int .i64 2, .int .i64 0, .int .i64 1, .int .i64 0, .int .i64 0, .int .i64 0, .int .i64 0, .int .i64 0, .int .i64 0, .int .i64 0, .slice none 0 0, .int .i64 0, .int .i64 0, .string ⟨#[]⟩, .slice none 0 0]] w (qB true w) :=
 j4 w 9 2 0 1 0 0 0 0 0 0 0 0 0 0 0 0 0 0 0 0 0 9 rfl (by decide) (by decide) _ rfl [(3, 1, 1125899906842624), qA 9] rfl QL (by decide) (by rfl)
theorem za4 (w : World) : Calls Tryz.prog 22 #[.agg #[.int .i8 1, .int .i64 0, .int .i64 1, .int .i64 0, .int .i64 1, .int .i64 1, .int .i64 0, .int .i64 0, .int .i64 0, .int .i64 0, .int .i64 0, .slice none 0 0, .int .i64 0, .int .i64 0, .string ⟨#[]⟩, .slice none 0 0]] w (qB false w) :=
 j4 w 1 0 1 0 1 1 0 0 0 0 0 0 0 0 0 1 0 0 0 0 0 1 rfl (by decide) (by decide) _ rfl [qA 1] rfl QK (by decide) (by rfl)
end Go.Proofs.YtchccbfljamjnaaGreat
