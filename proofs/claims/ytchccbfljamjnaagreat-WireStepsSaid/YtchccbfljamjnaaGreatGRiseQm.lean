/-
  .
-/
import Derived.Test.YtchccbfljamjnaaGreatERangeQm
import Derived.Lib.SliceRun
import Derived.Test.YtchccbfljamjnaaGreatRows
import Derived.WalkKit
import Derived.WalkSpells
import Derived.WalkLawsBesides
import Derived.Lib.Hide
import Derived.Deep.LoopGhost
import Derived.Laws.EntriesVeiled
import Derived.Deep.RegionLaw
import Derived.Laws.OwnMore
import Derived.IntWalk
import Derived.BigQuiet
import Derived.Deep.Quiet
import Derived.Test.YtchccbfljamjnaaGreatEHeldQm
import Derived.Deep.RegionHeld3
import Derived.StillTailTactics
import Derived.Deep.QuietTactic
import Derived.Test.YtchccbfljamjnaaGreatJPgQm
set_option maxRecDepth 100000
set_option maxHeartbeats 40000000
set_option linter.unusedVariables false
namespace Go.Proofs.YtchccbfljamjnaaGreat
open Go.RowKit
theorem Tryz.zaG : (Tryz.prog.info? 35).map (fun i => (i.size, i.bytes, i.zero.map (fun z => z.cells.size))) = some (4, 56, some 4) := by kernel_rfl
def zaL (w : World) (t : TypeId) (size n : Nat) (xs : List Value) (e : Ending) (w' : World) : Prop := ∃ v', e = .returned v' ∧ Below w.heap.size w w' ∧ w'.ownsRow w.heap.size t size v' n xs
theorem Tryz.QR (w : World) (a : Option Addr) (n c : Nat) : (binOp .eql 33 (.slice a n c) (.slice none 0 0)).run Tryz.prog w = .ok (.bool a.isNone) w := Lib.run_eql_slice_nil w _ _ a n c 0 0 Tryz.underlying33
theorem ZC (w : World) (a : Option Addr) (n cap : Nat) (xs : List Value) (hl : xs.length = n * 4) (h1 : ∀ u ∈ xs, u.oneCell' = true) (hn : n ≤ 1000000) (hc : ∀ ad, a = some ad → ∀ j u, xs[j]? = some u → w.cell? (ad.add j) = some u) (h0 : a = none → n = 0) :
 Calls Tryz.prog 98 #[.slice a n cap] w (zaL w 35 4 n xs) := by
 have hq := Tryz.QR
 cases a with
 | none =>
   have hn0 := h0 rfl
   subst hn0
   have hx : xs = [] := List.eq_nil_of_length_eq_zero (by simpa using hl)
   subst hx
   clear hl h1 hn hc h0
   go_enter Tryz.func98, Tryz.ntmps98
   go_wp2_with fail
   go_ret
   exact ⟨_, rfl, Below.refl _ _, World.ownsRow_nil _ _ _ _⟩
 | some ad =>
   have HC := hH (aN hl (aN h1 (hc ad rfl)))
   obtain ⟨i0, z0, hi0, hz0, hz1, hz2, hz3⟩ := yI Tryz.zaG
   have HI := hH (aN hi0 (aN hz0 (aN hz1 (aN hz2 hz3))))
   clear hl h1 hc h0 hi0 hz0 hz1 hz2 hz3
   go_enter Tryz.func98, Tryz.ntmps98
   go_wp2_with (at_builtin; refine wpList_append_own_at _ rfl (.tmp 5) (.tmp 6) _ rfl w.heap.size 35 i0 z0 4 56 Tryz.underlying33 HI.out.1 HI.out.2.1 HI.out.2.2.1 HI.out.2.2.2.1 HI.out.2.2.2.2 (by omega) (.slice (some ⟨w.heap.size, 0, none⟩) 0 0) 0 [] rfl (World.ownsRow_made w #[] 0 (Nat.le_refl _) (by unfold maxLen; omega) rfl) ad n cap xs rfl HC.out.1 (fun j u hj => Lib.cell?_alloc_some _ (HC.out.2.2 j u hj)) HC.out.2.1 (by unfold maxLen; omega) (by omega) (by simp) ?_; intro v' w1 hown hgrow _ hat)
   go_ret
   have hs := hgrow.size
   rw [World.size_alloc] at hs
   exact ⟨_, rfl, ⟨hgrow.os, hgrow.tape, hgrow.output, by omega, fun x hx => by
    rw [hgrow.block x (by rw [World.size_alloc]; omega) (by simp [Value.ownBlock]; omega), Below.heap_alloc _ _ _ hx]⟩, by rw [Nat.zero_add, List.nil_append] at hown; exact hown⟩
abbrev Sp := Nat × (Int × Int × ByteArray) × Fo
def spF : Nat → Fo → List Sp
 | _, .nil => []
 | d, .node _ _ k l r => (d, k, l) :: (spF (d + 1) l ++ spF d r)
def spA (A : List Seg) : List Sp := A.flatMap fun s => spF s.d s.f
theorem yz : ∀ (d : Nat) (f : Fo), (spF d f).length = zb f
 | _, .nil => rfl
 | d, .node _ _ k l r => by simp [spF, zb, yz (d + 1) l, yz d r]
theorem Yf (A B : List Seg) (d c : Nat) (a : Option Addr) : spA (A ++ ⟨d, a, c, .nil⟩ :: B) = spA (A ++ B) := by simp [spA, spF]
def zbe (B : Nat) (S : Nat → Prop) (tot : List Sp) (R : List Sp → (Nat → Prop) → World → Prop) (T : Nat → Prop) (A : List Seg) (V : World) : Prop :=
 ∃ pre, tot = pre ++ spA A ∧ (∀ s ∈ A, zi V S s.f s.a) ∧ (∀ x, T x → B ≤ x) ∧ B ≤ V.heap.size ∧ R pre T V
def Zv (B : Nat) (T S : Nat → Prop) (R : List Sp → (Nat → Prop) → World → Prop) (Rx : Code → (Nat → Prop) → World → Prop) (pre : List Sp) (W : World) (e : Exit) (_ : Act) (V : World) : Prop :=
 KeepsFrom B W V ∧ Kept T W V ∧ (∀ x, S x → V.heap[x]? = W.heap[x]?) ∧ ((e = .normal ∧ R pre T V) ∨ (e = .ret ∧ Rx .ret T V) ∨ ∃ id, e = .exit id ∧ Rx (.exit id) T V)
theorem jY {n : Nat} {g : Operand} {ps : Array Tmp} {assign body : Code} {Q : Exit → Act → World → Prop} {a : Act} {w : World} (h1 : 1 ≤ n) {NB : Nat} (hg : a.eval g = .func (.func 131) #[] #[.pointer (some ⟨NB, 0, none⟩)])
 (s : Seg) (hd : s.d = 1) (hne : s.f ≠ .nil) (hcap : foLen s.f ≤ s.cap) (hsz : zb s.f ≤ 500000) (hNB : w.cell? ⟨NB, 0, none⟩ = some s.v) (hps : ps.size = 2) (S : Nat → Prop) (hS : ∀ x, S x → x < w.heap.size) (hf : zi w S s.f s.a)
 (R : List Sp → (Nat → Prop) → World → Prop) (Rx : Code → (Nat → Prop) → World → Prop)
 (hR : ∀ {pre : List Sp} {T T' : Nat → Prop} {V V' : World}, R pre T V → (∀ x, T x → w.heap.size ≤ x) → za V V' (fun x => T x ∨ (w.heap.size ≤ x ∧ yT V x)) → vK T T' V V' → R pre T' V')
 (hRx : ∀ {c : Code} {T T' : Nat → Prop} {V V' : World}, Rx c T V → (∀ x, T x → w.heap.size ≤ x) → za V V' (fun x => T x ∨ (w.heap.size ≤ x ∧ yT V x)) → vK T T' V V' → Rx c T' V')
 (h0 : R [] (fun _ => False) w)
 (hround : ∀ (l : Nat), l = w.heap.size + 1 → ∀ (T : Nat → Prop) (pre rest : List Sp) (d : Nat) (key : Int × Int × ByteArray) (k : Fo) (V : World) (b off kc : Nat) (ka : Option Addr), (∀ x, T x → x < V.heap.size ∧ w.heap.size + 2 ≤ x) → w.heap.size + 2 ≤ V.heap.size → spF 1 s.f = pre ++ (d, key, k) :: rest → S b →
   V.cell? ⟨b, off, none⟩ = some (.int .i64 key.1) → V.cell? ⟨b, off + 1, none⟩ = some (.int .i64 key.2.1) → V.cell? ⟨b, off + 2, none⟩ = some (.string key.2.2) → V.cell? ⟨b, off + 3, none⟩ = some (.slice ka (foLen k) kc) → foLen k ≤ kc → zi V S k ka → R pre T V →
   ∀ (K : Act → World → Prop), (∀ a₁, (∀ V', (∃ o', V' = V.putObj l o' ∧ ∃ o, V.heap[l]? = some o ∧ o.isCells = false) → body.wpIn (Fence.wide.inRound l) (n - 1 - 1) Tryz.prog (Zv w.heap.size T S R Rx (pre ++ [(d, key, k)]) V') a₁ V') → K a₁ V) →
    assign.wpIn (Fence.wide.inRound l) (n - 1 - 1) Tryz.prog (Exit.then K (fun _ _ _ => False)) { tmps := (ps.zip #[.int .i64 (d : Int), .pointer (some ⟨b, off, none⟩)]).foldl (fun t (p, v) => t.setIfInBounds p v) a.tmps, defers := [] } V)
 (hdone : ∀ (D : Nat) (T : Nat → Prop) (V : World), w.heap.size ≤ D → R (spF 1 s.f) T V → V.heap[D]? = some (.deferred (some [])) → Q .normal { a with defers := { target := .collected D, args := #[] } :: a.defers } V)
 (hstop : ∀ (D : Nat) (c : Code) (T : Nat → Prop) (V : World), w.heap.size ≤ D → Rx c T V → V.heap[D]? = some (.deferred (some [])) → c.wpIn Fence.wide n Tryz.prog Q { a with defers := { target := .collected D, args := #[] } :: a.defers } V) :
 (Code.rangeFunc g ps assign body).wpIn Fence.wide n Tryz.prog Q a w := by
 have keepS : ∀ {T : Nat → Prop} {V V' : World}, (∀ x, T x → w.heap.size ≤ x) → w.heap.size ≤ V.heap.size → za V V' (fun x => T x ∨ (w.heap.size ≤ x ∧ yT V x)) → ∀ x, S x → V'.heap[x]? = V.heap[x]? := fun hT hV ht x hx => by
  have hxl := hS x hx
  exact ht.block x (by omega) (fun h => by
   rcases h with h | h
   · have := hT x h; omega
   · omega)
 refine YT h1 hg s hd hne hcap hsz hNB hps (zbe w.heap.size S (spF 1 s.f) R) (fun c T V => Rx c T V ∧ (∀ x, T x → w.heap.size ≤ x) ∧ w.heap.size ≤ V.heap.size) ?_ ?_ ?_ ?_ ?_ ?_ ?_
 · rintro T T' A V V' ⟨pre, e, h2, h3, h4, h5⟩ ht hw
   refine ⟨pre, e, fun x hx => (h2 x hx).kept fun y hy => ⟨hy, keepS h3 h4 ht y hy⟩, fun x hx => (hw x hx).elim (h3 x) (fun h => by omega), Nat.le_trans h4 ht.size, hR h5 h3 ht hw⟩
 · rintro c T T' V V' ⟨h5, h3, h4⟩ ht hw
   exact ⟨hRx h5 h3 ht hw, fun x hx => (hw x hx).elim (h3 x) (fun h => by omega), Nat.le_trans h4 ht.size⟩
 · rintro T A B d c ad V ⟨pre, e, h2, h3⟩
   rw [Yf] at e
   exact ⟨pre, e, fun x hx => h2 x (by rcases List.mem_append.1 hx with hx | hx; exact List.mem_append_left _ hx; exact List.mem_append_right _ (List.mem_cons_of_mem _ hx)), h3⟩
 · exact ⟨[], by simp [spA, hd], fun x hx => by rw [List.mem_singleton] at hx; subst hx; exact hf, fun _ h => h.elim, Nat.le_refl _, h0⟩
 · rintro l hl T d c bo oo ad key k r A V hT hV ⟨pre, e, h2, h3, h4, h5⟩
   obtain ⟨b, off, ka, kc, e1, hb, c0, c1, c2, c3, c4, hk, hr⟩ := h2 _ (List.mem_cons_self ..)
   simp only at e1 c3 c4 hk hr
   have e2 : spF 1 s.f = pre ++ (d, key, k) :: (spF (d + 1) k ++ (spF d r ++ spA A)) := by rw [e]; simp [spA, spF]
   refine ⟨b, off, e1, fun K hK => hround l hl T pre _ d key k V b off kc ka hT hV e2 hb c0 c1 c2 c3 c4 hk h5 K fun a₁ hbody => hK a₁ fun V' hV' => wpIn_mono (hbody V' hV') ?_⟩
   rintro e5 a5 V2 ⟨k1, k2, k3, hx⟩
   obtain ⟨o', ev, o, ho, hoc⟩ := hV'
   have hs2 := k1.size
   have hsv : V'.heap.size = V.heap.size := by rw [ev]; simp [World.putObj]
   have hSk : ∀ x, S x → V2.heap[x]? = V.heap[x]? := fun x hx => by
    have := hS x hx
    rw [k3 x hx, ev, World.putObj_heap_other (by omega)]
   refine ⟨k1, k2, ?_⟩
   rcases hx with ⟨rfl, hr'⟩ | ⟨rfl, hx⟩ | ⟨id, rfl, hx⟩
   · refine .inl ⟨rfl, ka, kc, (World.cell?_of_block (hSk b hb)).trans c3, c4, pre ++ [(d, key, k)], ?_, ?_, fun x hx => by have := (hT x hx).2; omega, by omega, hr'⟩
     · rw [e2]; simp [spA]
     · intro x hx
       rcases List.mem_cons.1 hx with rfl | hx
       · exact hk.kept fun y hy => ⟨hy, hSk y hy⟩
       · rcases List.mem_cons.1 hx with rfl | hx
         · exact hr.kept fun y hy => ⟨hy, hSk y hy⟩
         · exact (h2 x (List.mem_cons_of_mem _ hx)).kept fun y hy => ⟨hy, hSk y hy⟩
   · exact .inr (.inl ⟨rfl, hx, fun x hx => by have := (hT x hx).2; omega, by omega⟩)
   · exact .inr (.inr ⟨id, rfl, hx, fun x hx => by have := (hT x hx).2; omega, by omega⟩)
 · rintro D T V hD ⟨pre, e, h2, h3, h4, h5⟩ hV
   rw [show spA [] = [] from rfl, List.append_nil] at e
   rw [← e] at h5
   exact hdone D T V hD h5 hV
 · rintro D c T V hD ⟨h5, _⟩ hV
   exact hstop D c T V hD h5 hV
end Go.Proofs.YtchccbfljamjnaaGreat
namespace Go.Proofs.YtchccbfljamjnaaGreat
open Go.RowKit Go.Shelf
attribute [local go_sem] Oper.semAt_some
def zX (t : Tr) : Fo := .node 0 0 (t.id, t.kind, t.text) t.kids .nil
theorem yx (t : Tr) : zb (zX t) = zb t.kids + 1 := by simp [zX, zb]
theorem kW {w W : World} {S : Nat → Prop} {nb cap : Nat} {ka : Option Addr} {t : Tr} (hS : ∀ x, S x → W.heap[x]? = w.heap[x]?) (hc : foLen t.kids ≤ cap) (hk : zi w S t.kids ka) (hb : W.heap[nb]? = some (.cells #[.int .i64 t.id, .int .i64 t.kind, .string t.text, .slice ka (foLen t.kids) cap] 35 (0, 0))) : zi W (fun x => S x ∨ x = nb) (zX t) (some ⟨nb, 0, none⟩) :=
 ⟨nb, 0, ka, cap, rfl, Or.inr rfl, by rw [cell_of_row _ _ 0 _ _ _ hb]; rfl, by rw [cell_of_row _ _ 1 _ _ _ hb]; rfl, by rw [cell_of_row _ _ 2 _ _ _ hb]; rfl, by rw [cell_of_row _ _ 3 _ _ _ hb]; rfl, hc, hk.kept fun x hx => ⟨Or.inl hx, hS x hx⟩, True.intro⟩
def zbn (w : World) (n : Int) (e : Ending) (w' : World) : Prop := e = .returned (.int .i64 n) ∧ Below w.heap.size w w'
def vw (l : List Sp) : Int := (l.length : Int)
end Go.Proofs.YtchccbfljamjnaaGreat
namespace Go.Proofs.YtchccbfljamjnaaGreat
open Go.RowKit Go.Shelf
attribute [local go_sem] Oper.semAt_some
theorem kF {P : Program} {fn : Func} {p : Tmp} {ty : TypeId} (h : fn.results = #[.cell p ty]) (tmps : Array Value) (w : World) (g : Nat) (t : TypeId) (cs : Array Value) (fr : Nat × Nat) (d : TypeDesc)
 (hp : tmps.getD p undef = .pointer (some ⟨g, 0, none⟩)) (hg : w.heap[g]? = some (.cells cs t fr)) (hu : P.underlying ty = some d) (hd : (match d with | .struct _ | .array _ _ => true | _ => false) = true) (hi : (P.info? ty).map (·.size) = some cs.size) :
 (results fn tmps).run P w = .ok (.agg cs) w := by
 have hp' : tmps[p]?.getD undef = .pointer (some ⟨g, 0, none⟩) := by simpa using hp
 simp [results, h, hp', asAddr, run_loadVar_row w g t ty cs fr d hg hu hd hi]
end Go.Proofs.YtchccbfljamjnaaGreat
namespace Go.Proofs.YtchccbfljamjnaaGreat
open Go.RowKit
def zl (w : World) (os : List Obj) : World := os.foldl (fun w o => w.alloc o) w
theorem yL : ∀ (os : List Obj) (w : World), (zl w os).heap.size = w.heap.size + os.length
 | [], _ => rfl
 | o :: os, w => by
   show (zl (w.alloc o) os).heap.size = _
   rw [yL os, World.size_alloc, List.length_cons]; omega
theorem zh : ∀ (os : List Obj) (w : World), Below w.heap.size w (zl w os)
 | [], w => Below.refl _ _
 | o :: os, w => ((Below.refl _ w).alloc (Nat.le_refl _) o).trans ((zh os (w.alloc o)).mono (by simp))
theorem zg : ∀ (os : List Obj) (w : World) (i : Nat) (o : Obj), os[i]? = some o → (zl w os).heap[w.heap.size + i]? = some o
 | [], _, _, _, h => by simp at h
 | o :: os, w, 0, o', h => by
   simp at h; subst h
   show (zl (w.alloc o) os).heap[w.heap.size]? = _
   rw [(zh os (w.alloc o)).block _ (by simp)]; exact World.alloc_heap_new w o
 | o :: os, w, i + 1, o', h => by
   have := zg os (w.alloc o) i o' (by simpa using h)
   rw [World.size_alloc] at this
   show (zl (w.alloc o) os).heap[w.heap.size + (i + 1)]? = _
   rw [show w.heap.size + (i + 1) = w.heap.size + 1 + i by omega]; exact this
structure Sl where
 kinds : List Int
 least : Int
 most : Int
structure Kd where
 name : ByteArray
 text : Bool
 slots : List Sl
instance : Inhabited Sl := ⟨⟨[], 0, 0⟩⟩
instance : Inhabited Kd := ⟨⟨⟨#[]⟩, false, []⟩⟩
def JJ : Fo → Option Tr
 | .nil => none
 | .node _ _ k l _ => some ⟨k.1, k.2.1, k.2.2, l⟩
def vP (f : Fo) (j : Nat) : Option Tr := JJ (zn j f)
theorem zam {f : Fo} {j : Nat} (h : j < foLen f) : ∃ b o k l r, zn j f = .node b o k l r ∧ vP f j = some ⟨k.1, k.2.1, k.2.2, l⟩ ∧ zn (j + 1) f = r := by
 obtain ⟨b, o, k, l, r, h1, h2, _⟩ := zR j f h
 exact ⟨b, o, k, l, r, h1, by rw [vP, h1]; rfl, h2⟩
theorem zal {f : Fo} {j : Nat} (h : foLen f ≤ j) : vP f j = none := by rw [vP, yl j f h]; rfl
theorem QN {f : Fo} {j : Nat} {u : Tr} (h : vP f j = some u) : j < foLen f := by
 rcases Nat.lt_or_ge j (foLen f) with h1 | h1
 · exact h1
 · rw [zal h1] at h; cases h
theorem ZN (f : Fo) : zn 0 f = f := by cases f <;> rfl
theorem ZM {f : Fo} {j : Nat} {u : Tr} (h : vP f j = some u) : zb (zn j f) = zb u.kids + zb (zn (j + 1) f) + 1 := by
 obtain ⟨b, o, k, l, r, h1, h2, h3⟩ := zam (QN h)
 rw [h2] at h; cases h
 rw [h1, h3]; simp [zb]
end Go.Proofs.YtchccbfljamjnaaGreat
namespace Go.Proofs.YtchccbfljamjnaaGreat
def fresh (l : List Kd) (s : List UInt8) : Bool := l.all fun k => decide (k.name.data.toList ≠ s)
def apart : List Kd → Bool
 | [] => true
 | k :: r => fresh r k.name.data.toList && apart r
end Go.Proofs.YtchccbfljamjnaaGreat
namespace Go.Proofs.YtchccbfljamjnaaGreat
open Go.RowKit
def Ahead (l : List Int) (k : Nat) (a : Int) : Prop := (k = 0 → a = -1) ∧ ∀ m, k = m + 1 → l[m]? = some a
end Go.Proofs.YtchccbfljamjnaaGreat
