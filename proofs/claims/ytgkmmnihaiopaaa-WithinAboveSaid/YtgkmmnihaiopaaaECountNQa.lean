/-
  .
-/
import Derived.Test.YtgkmmnihaiopaaaKInsQa
import Derived.Test.YtgkmmnihaiopaaaJPgQa
set_option maxRecDepth 100000
set_option maxHeartbeats 40000000
set_option linter.unusedVariables false
namespace Go.Proofs.Ytgkmmnihaiopaaa
open Go.RowKit
abbrev Sp := Nat × (Int × Int × ByteArray) × Fo
def spF : Nat → Fo → List Sp
 | _, .nil => []
 | d, .node _ _ k l r => (d, k, l) :: (spF (d + 1) l ++ spF d r)
def spA (A : List Seg) : List Sp := A.flatMap fun s => spF s.d s.f
theorem yl : ∀ (d : Nat) (f : Fo), (spF d f).length = zg f
 | _, .nil => rfl
 | d, .node _ _ k l r => by simp [spF, zg, yl (d + 1) l, yl d r]
theorem zbz (A B : List Seg) (d c : Nat) (a : Option Addr) : spA (A ++ ⟨d, a, c, .nil⟩ :: B) = spA (A ++ B) := by simp [spA, spF]
def zg1 (B : Nat) (S : Nat → Prop) (tot : List Sp) (R : List Sp → (Nat → Prop) → World → Prop) (T : Nat → Prop) (A : List Seg) (V : World) : Prop :=
 ∃ pre, tot = pre ++ spA A ∧ (∀ s ∈ A, zC V S s.f s.a) ∧ (∀ x, T x → B ≤ x) ∧ B ≤ V.heap.size ∧ R pre T V
def Qc (B : Nat) (T S : Nat → Prop) (R : List Sp → (Nat → Prop) → World → Prop) (Rx : Code → (Nat → Prop) → World → Prop) (pre : List Sp) (W : World) (e : Exit) (_ : Act) (V : World) : Prop :=
 KeepsFrom B W V ∧ Kept T W V ∧ (∀ x, S x → V.heap[x]? = W.heap[x]?) ∧ ((e = .normal ∧ R pre T V) ∨ (e = .ret ∧ Rx .ret T V) ∨ ∃ id, e = .exit id ∧ Rx (.exit id) T V)
theorem ZB {n : Nat} {g : Operand} {ps : Array Tmp} {assign body : Code} {Q : Exit → Act → World → Prop} {a : Act} {w : World} (h1 : 1 ≤ n) {NB : Nat} (hg : a.eval g = .func (.func 73) #[] #[.pointer (some ⟨NB, 0, none⟩)])
 (s : Seg) (hd : s.d = 1) (hne : s.f ≠ .nil) (hcap : foLen s.f ≤ s.cap) (hsz : zg s.f ≤ 500000) (hNB : w.cell? ⟨NB, 0, none⟩ = some s.v) (hps : ps.size = 2) (S : Nat → Prop) (hS : ∀ x, S x → x < w.heap.size) (hf : zC w S s.f s.a)
 (R : List Sp → (Nat → Prop) → World → Prop) (Rx : Code → (Nat → Prop) → World → Prop)
 (hR : ∀ {pre : List Sp} {T T' : Nat → Prop} {V V' : World}, R pre T V → (∀ x, T x → w.heap.size ≤ x) → zk V V' (fun x => T x ∨ (w.heap.size ≤ x ∧ zS V x)) → ve T T' V V' → R pre T' V')
 (hRx : ∀ {c : Code} {T T' : Nat → Prop} {V V' : World}, Rx c T V → (∀ x, T x → w.heap.size ≤ x) → zk V V' (fun x => T x ∨ (w.heap.size ≤ x ∧ zS V x)) → ve T T' V V' → Rx c T' V')
 (h0 : R [] (fun _ => False) w)
 (hround : ∀ (l : Nat), l = w.heap.size + 1 → ∀ (T : Nat → Prop) (pre rest : List Sp) (d : Nat) (key : Int × Int × ByteArray) (k : Fo) (V : World) (b off kc : Nat) (ka : Option Addr), (∀ x, T x → x < V.heap.size ∧ w.heap.size + 2 ≤ x) → w.heap.size + 2 ≤ V.heap.size → spF 1 s.f = pre ++ (d, key, k) :: rest → S b →
   V.cell? ⟨b, off, none⟩ = some (.int .i64 key.1) → V.cell? ⟨b, off + 1, none⟩ = some (.int .i64 key.2.1) → V.cell? ⟨b, off + 2, none⟩ = some (.string key.2.2) → V.cell? ⟨b, off + 3, none⟩ = some (.slice ka (foLen k) kc) → foLen k ≤ kc → zC V S k ka → R pre T V →
   ∀ (K : Act → World → Prop), (∀ a₁, (∀ V', (∃ o', V' = V.putObj l o' ∧ ∃ o, V.heap[l]? = some o ∧ o.isCells = false) → body.wpIn (Fence.wide.inRound l) (n - 1 - 1) Try.prog (Qc w.heap.size T S R Rx (pre ++ [(d, key, k)]) V') a₁ V') → K a₁ V) →
    assign.wpIn (Fence.wide.inRound l) (n - 1 - 1) Try.prog (Exit.then K (fun _ _ _ => False)) { tmps := (ps.zip #[.int .i64 (d : Int), .pointer (some ⟨b, off, none⟩)]).foldl (fun t (p, v) => t.setIfInBounds p v) a.tmps, defers := [] } V)
 (hdone : ∀ (D : Nat) (T : Nat → Prop) (V : World), w.heap.size ≤ D → R (spF 1 s.f) T V → V.heap[D]? = some (.deferred (some [])) → Q .normal { a with defers := { target := .collected D, args := #[] } :: a.defers } V)
 (hstop : ∀ (D : Nat) (c : Code) (T : Nat → Prop) (V : World), w.heap.size ≤ D → Rx c T V → V.heap[D]? = some (.deferred (some [])) → c.wpIn Fence.wide n Try.prog Q { a with defers := { target := .collected D, args := #[] } :: a.defers } V) :
 (Code.rangeFunc g ps assign body).wpIn Fence.wide n Try.prog Q a w := by
 have keepS : ∀ {T : Nat → Prop} {V V' : World}, (∀ x, T x → w.heap.size ≤ x) → w.heap.size ≤ V.heap.size → zk V V' (fun x => T x ∨ (w.heap.size ≤ x ∧ zS V x)) → ∀ x, S x → V'.heap[x]? = V.heap[x]? := fun hT hV ht x hx => by
  have hxl := hS x hx
  exact ht.block x (by omega) (fun h => by
   rcases h with h | h
   · have := hT x h; omega
   · omega)
 refine QX h1 hg s hd hne hcap hsz hNB hps (zg1 w.heap.size S (spF 1 s.f) R) (fun c T V => Rx c T V ∧ (∀ x, T x → w.heap.size ≤ x) ∧ w.heap.size ≤ V.heap.size) ?_ ?_ ?_ ?_ ?_ ?_ ?_
 · rintro T T' A V V' ⟨pre, e, h2, h3, h4, h5⟩ ht hw
   refine ⟨pre, e, fun x hx => (h2 x hx).kept fun y hy => ⟨hy, keepS h3 h4 ht y hy⟩, fun x hx => (hw x hx).elim (h3 x) (fun h => by omega), Nat.le_trans h4 ht.size, hR h5 h3 ht hw⟩
 · rintro c T T' V V' ⟨h5, h3, h4⟩ ht hw
   exact ⟨hRx h5 h3 ht hw, fun x hx => (hw x hx).elim (h3 x) (fun h => by omega), Nat.le_trans h4 ht.size⟩
 · rintro T A B d c ad V ⟨pre, e, h2, h3⟩
   rw [zbz] at e
   exact ⟨pre, e, fun x hx => h2 x (by rcases List.mem_append.1 hx with hx | hx; exact List.mem_append_left _ hx; exact List.mem_append_right _ (List.mem_cons_of_mem _ hx)), h3⟩
 · exact ⟨[], by simp [spA, hd], fun x hx => by rw [List.mem_singleton] at hx; subst hx; exact hf, fun _ h => h.elim, Nat.le_refl _, h0⟩
 · rintro l hl T d c bo oo ad key k r A V hT hV ⟨pre, e, h2, h3, h4, h5⟩
   obtain ⟨b, off, ka, kc, e1, hb, c0, c1, c2, c3, c4, hk, hr⟩ := h2 _ (List.mem_cons_self ..)
   simp only at e1 c3 c4 hk hr
   have e2 : spF 1 s.f = pre ++ (d, key, k) :: (spF (d + 1) k ++ (spF d r ++ spA A)) := by rw [e]; simp [spA, spF]
   refine ⟨b, off, e1, fun K hK => hround l hl T pre _ d key k V b off kc ka hT hV e2 hb c0 c1 c2 c3 c4 hk h5 K fun a₁ hbody => hK a₁ fun V' hV' => wpIn_mono (hbody V' hV') ?_⟩
   rintro e5 a5 V2 ⟨k1, k2, k3, hx⟩
   obtain ⟨o', ev, o, ho, hoc⟩ := hV'
   have hs2 := k1.size
   have hsv : V'.heap.size = V.heap.size := by rw [ev]; simp [World.putObj]
   have hSk : ∀ x, S x → V2.heap[x]? = V.heap[x]? := fun x hx => by
    have := hS x hx
    rw [k3 x hx, ev, World.putObj_heap_other (by omega)]
   refine ⟨k1, k2, ?_⟩
   rcases hx with ⟨rfl, hr'⟩ | ⟨rfl, hx⟩ | ⟨id, rfl, hx⟩
   · refine .inl ⟨rfl, ka, kc, (World.cell?_of_block (hSk b hb)).trans c3, c4, pre ++ [(d, key, k)], ?_, ?_, fun x hx => by have := (hT x hx).2; omega, by omega, hr'⟩
     · rw [e2]; simp [spA]
     · intro x hx
       rcases List.mem_cons.1 hx with rfl | hx
       · exact hk.kept fun y hy => ⟨hy, hSk y hy⟩
       · rcases List.mem_cons.1 hx with rfl | hx
         · exact hr.kept fun y hy => ⟨hy, hSk y hy⟩
         · exact (h2 x (List.mem_cons_of_mem _ hx)).kept fun y hy => ⟨hy, hSk y hy⟩
   · exact .inr (.inl ⟨rfl, hx, fun x hx => by have := (hT x hx).2; omega, by omega⟩)
   · exact .inr (.inr ⟨id, rfl, hx, fun x hx => by have := (hT x hx).2; omega, by omega⟩)
 · rintro D T V hD ⟨pre, e, h2, h3, h4, h5⟩ hV
   rw [show spA [] = [] from rfl, List.append_nil] at e
   rw [← e] at h5
   exact hdone D T V hD h5 hV
 · rintro D c T V hD ⟨h5, _⟩ hV
   exact hstop D c T V hD h5 hV
end Go.Proofs.Ytgkmmnihaiopaaa
namespace Go.Proofs.Ytgkmmnihaiopaaa
open Go.RowKit Go.Shelf
attribute [local go_sem] Oper.semAt_some
def zl (t : Tr) : Fo := .node 0 0 (t.id, t.kind, t.text) t.kids .nil
theorem zI (t : Tr) : zg (zl t) = zg t.kids + 1 := by simp [zl, zg]
theorem jE {w W : World} {S : Nat → Prop} {nb cap : Nat} {ka : Option Addr} {t : Tr} (hS : ∀ x, S x → W.heap[x]? = w.heap[x]?) (hc : foLen t.kids ≤ cap) (hk : zC w S t.kids ka) (hb : W.heap[nb]? = some (.cells #[.int .i64 t.id, .int .i64 t.kind, .string t.text, .slice ka (foLen t.kids) cap] 27 (0, 0))) : zC W (fun x => S x ∨ x = nb) (zl t) (some ⟨nb, 0, none⟩) :=
 ⟨nb, 0, ka, cap, rfl, Or.inr rfl, by rw [cell_of_row _ _ 0 _ _ _ hb]; rfl, by rw [cell_of_row _ _ 1 _ _ _ hb]; rfl, by rw [cell_of_row _ _ 2 _ _ _ hb]; rfl, by rw [cell_of_row _ _ 3 _ _ _ hb]; rfl, hc, hk.kept fun x hx => ⟨Or.inl hx, hS x hx⟩, True.intro⟩
def zhk (w : World) (n : Int) (e : Ending) (w' : World) : Prop := e = .returned (.int .i64 n) ∧ Below w.heap.size w w'
def Zu (l : List Sp) : Int := (l.length : Int)
end Go.Proofs.Ytgkmmnihaiopaaa
namespace Go.Proofs.Ytgkmmnihaiopaaa
open Go.RowKit
def fpi (id : Int) : Nat → Fo → Option (List Nat)
 | _, .nil => none
 | i, .node _ _ k l r => if k.1 = id then some [i] else match fpi id 0 l with
   | some p => some (i :: p)
   | none => fpi id (i + 1) r
def zw (id : Int) (t : Tr) : Option (List Nat) := if t.id = id then some [] else fpi id 0 t.kids
def yJ : Fo → Option Tr
 | .nil => none
 | .node _ _ k l _ => some ⟨k.1, k.2.1, k.2.2, l⟩
def zz (f : Fo) (j : Nat) : Option Tr := yJ (zo j f)
def atT : Tr → List Nat → Option Tr
 | t, [] => some t
 | t, i :: p => match zz t.kids i with
   | none => none
   | some u => atT u p
theorem J8 {f : Fo} {j : Nat} (h : j < foLen f) : ∃ b o k l r, zo j f = .node b o k l r ∧ zz f j = some ⟨k.1, k.2.1, k.2.2, l⟩ ∧ zo (j + 1) f = r := by
 obtain ⟨b, o, k, l, r, h1, h2, _⟩ := qB j f h
 exact ⟨b, o, k, l, r, h1, by rw [zz, h1]; rfl, h2⟩
theorem J7 {f : Fo} {j : Nat} (h : foLen f ≤ j) : zz f j = none := by rw [zz, vO j f h]; rfl
theorem qg {f : Fo} {j : Nat} {u : Tr} (h : zz f j = some u) : j < foLen f := by
 rcases Nat.lt_or_ge j (foLen f) with h1 | h1
 · exact h1
 · rw [J7 h1] at h; cases h
theorem zaU {id : Int} {f : Fo} {j : Nat} (h : j < foLen f) : ∀ {u : Tr}, zz f j = some u → fpi id j (zo j f) = if u.id = id then some [j] else match fpi id 0 u.kids with
 | some p => some (j :: p)
 | none => fpi id (j + 1) (zo (j + 1) f) := by
 intro u hu
 obtain ⟨b, o, k, l, r, h1, h2, h3⟩ := J8 h
 rw [h2] at hu; cases hu
 rw [h1, h3]; rfl
theorem qC (f : Fo) : zo 0 f = f := by cases f <;> rfl
structure Fr where
 a : Option Addr
 cap : Nat
 f : Fo
 p : Int
def Fr.cells (x : Fr) : List Value := [.slice x.a (foLen x.f) x.cap, .int .i64 x.p]
def Fr.nx (x : Fr) : Nat := (x.p + 1).toNat
def places (L : List Fr) : List Nat := L.reverse.map fun x => x.p.toNat
def yh : List Fr → List Fr
 | [] => []
 | x :: r => if x.p + 1 < (foLen x.f : Int) then ⟨x.a, x.cap, x.f, x.p + 1⟩ :: r else yh r
def Q3 (id : Int) : List Fr → Option (List Nat)
 | [] => none
 | x :: r => match fpi id x.nx (zo x.nx x.f) with
   | some q => some (places r ++ q)
   | none => Q3 id r
def zdq (id : Int) : List Fr → Option (List Nat)
 | [] => none
 | x :: r => match fpi id x.p.toNat (zo x.p.toNat x.f) with
   | some q => some (places r ++ q)
   | none => Q3 id r
def ZZ : List Fr → Nat
 | [] => 0
 | x :: r => zg (zo x.nx x.f) + ZZ r
def yZ (root : Fo) : List Fr → Prop
 | [] => True
 | [x] => x.f = root
 | x :: y :: r => (0 ≤ y.p ∧ ∃ u, zz y.f y.p.toNat = some u ∧ x.f = u.kids) ∧ yZ root (y :: r)
def Fr.ok (x : Fr) : Prop := 0 ≤ x.p ∧ x.p < (foLen x.f : Int)
theorem yZ.tail {root : Fo} {x : Fr} {r : List Fr} (h : yZ root (x :: r)) : yZ root r := by
 cases r with
 | nil => trivial
 | cons y r => exact h.2
theorem Yq (id : Int) : ∀ L : List Fr, (∀ x ∈ L, -1 ≤ x.p) → zdq id (yh L) = Q3 id L
 | [], _ => rfl
 | x :: r, h => by
   have hx := h x (by simp)
   by_cases hl : x.p + 1 < (foLen x.f : Int)
   · rw [yh, if_pos hl]; rfl
   · rw [yh, if_neg hl, Yq id r (fun y hy => h y (by simp [hy])), Q3]
     rw [vO x.nx x.f (by unfold Fr.nx; omega)]; rfl
theorem YI {root : Fo} : ∀ L : List Fr, yZ root L → yZ root (yh L)
 | [], _ => trivial
 | x :: r, h => by
   by_cases hl : x.p + 1 < (foLen x.f : Int)
   · rw [yh, if_pos hl]
     cases r with
     | nil => exact h
     | cons y r => exact h
   · rw [yh, if_neg hl]; exact YI r h.tail
theorem zbd : ∀ L : List Fr, (∀ x ∈ L, -1 ≤ x.p) → (∀ x ∈ L.tail, x.ok) → ∀ x ∈ yh L, x.ok
 | [], _, _, _, h => by cases h
 | x :: r, h1, h2, y, hy => by
   by_cases hl : x.p + 1 < (foLen x.f : Int)
   · rw [yh, if_pos hl] at hy
     rcases List.mem_cons.1 hy with rfl | hy
     · exact ⟨by have := h1 x (by simp); simp only; omega, hl⟩
     · exact h2 y hy
   · rw [yh, if_neg hl] at hy
     exact zbd r (fun z hz => h1 z (by simp [hz])) (fun z hz => h2 z (List.mem_of_mem_tail hz)) y hy
theorem JB (P : Option Addr → Nat → Fo → Prop) : ∀ L : List Fr, (∀ x ∈ L, P x.a x.cap x.f) → ∀ x ∈ yh L, P x.a x.cap x.f
 | [], _, _, h => by cases h
 | x :: r, h, y, hy => by
   by_cases hl : x.p + 1 < (foLen x.f : Int)
   · rw [yh, if_pos hl] at hy
     rcases List.mem_cons.1 hy with rfl | hy
     · exact h x (by simp)
     · exact h y (by simp [hy])
   · rw [yh, if_neg hl] at hy
     exact JB P r (fun z hz => h z (by simp [hz])) y hy
theorem Z4 : ∀ L : List Fr, (yh L).length ≤ L.length
 | [] => Nat.le_refl _
 | x :: r => by
   by_cases hl : x.p + 1 < (foLen x.f : Int)
   · rw [yh, if_pos hl]; simp
   · rw [yh, if_neg hl]; have := Z4 r; simp; omega
theorem kE {f : Fo} {j : Nat} {u : Tr} (h : zz f j = some u) : zg (zo j f) = zg u.kids + zg (zo (j + 1) f) + 1 := by
 obtain ⟨b, o, k, l, r, h1, h2, h3⟩ := J8 (qg h)
 rw [h2] at h; cases h
 rw [h1, h3]; simp [zg]
def vC : List Fr → Nat
 | [] => 0
 | x :: r => zg (zo x.p.toNat x.f) + ZZ r
theorem Zv : ∀ L : List Fr, (∀ x ∈ L, -1 ≤ x.p) → vC (yh L) ≤ ZZ L
 | [], _ => Nat.le_refl _
 | x :: r, h => by
   have hx := h x (by simp)
   by_cases hl : x.p + 1 < (foLen x.f : Int)
   · rw [yh, if_pos hl]
     simp only [vC, ZZ, Fr.nx]
     exact Nat.le_refl _
   · rw [yh, if_neg hl]
     have h1 := Zv r (fun z hz => h z (by simp [hz]))
     rw [ZZ]; omega
theorem QN {x : Fr} {r : List Fr} {u : Tr} {a : Option Addr} {c : Nat} (hx : x.ok) (hu : zz x.f x.p.toNat = some u) : ZZ (⟨a, c, u.kids, -1⟩ :: x :: r) + 1 = vC (x :: r) := by
 have h1 := kE hu
 have h2 : x.nx = x.p.toNat + 1 := by unfold Fr.nx; have := hx.1; omega
 have h3 : (Fr.mk a c u.kids (-1)).nx = 0 := by unfold Fr.nx; simp
 simp only [vC, ZZ, h2, h3, qC]; omega
theorem zeR {id : Int} {x : Fr} {r : List Fr} {u : Tr} (hx : x.ok) (hu : zz x.f x.p.toNat = some u) (hid : u.id = id) : zdq id (x :: r) = some (places (x :: r)) := by
 rw [zdq, zaU (qg hu) hu, if_pos hid]
 simp [places]
theorem zgB {id : Int} {x : Fr} {r : List Fr} {u : Tr} {a : Option Addr} {c : Nat} (hx : x.ok) (hu : zz x.f x.p.toNat = some u) (hid : ¬ u.id = id) : zdq id (x :: r) = Q3 id (⟨a, c, u.kids, -1⟩ :: x :: r) := by
 rw [zdq, zaU (qg hu) hu, if_neg hid]
 have h2 : x.nx = x.p.toNat + 1 := by unfold Fr.nx; have := hx.1; omega
 have h3 : (Fr.mk a c u.kids (-1)).nx = 0 := by unfold Fr.nx; simp
 simp only [Q3, h2, h3, qC]
 cases h : fpi id 0 u.kids with
 | none => rfl
 | some p => simp [places]
theorem zaF {t : Tr} {b o : Nat} : ∀ (L : List Fr), yZ (.node b o (t.id, t.kind, t.text) t.kids .nil) L → (∀ x ∈ L, x.ok) → ∀ x r, L = x :: r → ∃ p u, places L = 0 :: p ∧ atT t p = some u ∧ zz x.f x.p.toNat = some u
 | [x], h, hok, _, _, rfl => by
   simp only [yZ] at h
   have h1 := hok x (by simp)
   rw [Fr.ok, h] at h1
   simp only [foLen] at h1
   have h2 : x.p = 0 := by omega
   exact ⟨[], t, by simp [places, h2], rfl, by rw [h, h2]; rfl⟩
 | x :: y :: r, h, hok, _, _, rfl => by
   obtain ⟨p, u, h1, h2, h3⟩ := zaF (y :: r) h.2 (fun z hz => hok z (by simp [hz])) y r rfl
   obtain ⟨v, h4, h5⟩ := h.1.2
   rw [h3] at h4; cases h4
   have h6 := hok x (by simp)
   obtain ⟨b', o', k, l, q, h7, h8, _⟩ := J8 (f := x.f) (j := x.p.toNat) (by have := h6.1; have := h6.2; omega)
   refine ⟨p ++ [x.p.toNat], _, ?_, ?_, h8⟩
   · rw [places, List.reverse_cons, List.map_append]
     have h9 := h1
     rw [places] at h9
     rw [h9]; rfl
   · have e : ∀ (p : List Nat) (t : Tr) (u : Tr) (j : Nat), atT t p = some u → atT t (p ++ [j]) = zz u.kids j := by
      intro p
      induction p with
      | nil => intro t u j h; cases h; simp [atT]; cases zz t.kids j <;> rfl
      | cons i p ih =>
        intro t u j h
        simp only [List.cons_append, atT] at h ⊢
        cases hk : zz t.kids i with
        | none => rw [hk] at h; cases h
        | some v => rw [hk] at h; simp only at h ⊢; exact ih v u j h
     rw [e p t u _ h2, ← h5]; exact h8
end Go.Proofs.Ytgkmmnihaiopaaa
namespace Go.Proofs.Ytgkmmnihaiopaaa
open Go.RowKit Go.Shelf
attribute [local go_sem] Oper.semAt_some
def zdb (w : World) (CB : Nat) (f : List Sp → Int) (pre : List Sp) (_ : Nat → Prop) (V : World) : Prop := V.heap[CB]? = some (.cells #[.int .i64 (f pre)] 3 (0, 0)) ∧ Below w.heap.size w V
theorem zdb.turn {w w1 V V' : World} {CB : Nat} {f : List Sp → Int} {pre : List Sp} {T T' : Nat → Prop} (hw : w.heap.size ≤ w1.heap.size) (hC : CB < w1.heap.size) (h : zdb w CB f pre T V) (hT : ∀ x, T x → w1.heap.size ≤ x) (ht : zk V V' (fun x => T x ∨ (w1.heap.size ≤ x ∧ zS V x))) : zdb w CB f pre T' V' := by
 have hk : ∀ x, x < w1.heap.size → x < V.heap.size → V'.heap[x]? = V.heap[x]? := fun x hx hv => ht.block x hv (fun h => by
  rcases h with h | h
  · have := hT x h; omega
  · omega)
 refine ⟨(hk CB hC (lt_of_heap h.1)).trans h.1, ht.os.trans h.2.os, ht.tape.trans h.2.tape, ht.output.trans h.2.output, Nat.le_trans h.2.size ht.size, fun x hx => ?_⟩
 rw [hk x (by omega) (by have := h.2.size; omega)]; exact h.2.block x hx
theorem zfx (w : World) (cs : Array Value) (v : Value) (x : Value) :
 ((((w.alloc (.cells cs 27)).alloc (.cells #[x] 3)).alloc (.cells cs 27)).alloc (.cells #[v] 25)).heap.size = w.heap.size + 4 ∧
 Below w.heap.size w ((((w.alloc (.cells cs 27)).alloc (.cells #[x] 3)).alloc (.cells cs 27)).alloc (.cells #[v] 25)) ∧
 ((((w.alloc (.cells cs 27)).alloc (.cells #[x] 3)).alloc (.cells cs 27)).alloc (.cells #[v] 25)).heap[w.heap.size + 1]? = some (.cells #[x] 3 (0, 0)) ∧
 ((((w.alloc (.cells cs 27)).alloc (.cells #[x] 3)).alloc (.cells cs 27)).alloc (.cells #[v] 25)).heap[w.heap.size + 1 + 1]? = some (.cells cs 27 (0, 0)) ∧
 ((((w.alloc (.cells cs 27)).alloc (.cells #[x] 3)).alloc (.cells cs 27)).alloc (.cells #[v] 25)).heap[w.heap.size + 1 + 1 + 1]? = some (.cells #[v] 25 (0, 0)) := by
 refine ⟨by simp, ?_, ?_, ?_, ?_⟩
 · exact ((((Below.refl _ w).alloc (Nat.le_refl _) _).alloc (by simp only [World.size_alloc]; omega) _).alloc (by simp only [World.size_alloc]; omega) _).alloc (by simp only [World.size_alloc]; omega) _
 · rw [Below.heap_alloc _ _ _ (by simp only [World.size_alloc]; omega), Below.heap_alloc _ _ _ (by simp only [World.size_alloc]; omega)]
   have := heap_alloc_new (w.alloc (.cells cs 27)) (.cells #[x] 3)
   rw [World.size_alloc] at this; exact this
 · rw [Below.heap_alloc _ _ _ (by simp only [World.size_alloc]; omega)]
   have := heap_alloc_new ((w.alloc (.cells cs 27)).alloc (.cells #[x] 3)) (.cells cs 27)
   rw [World.size_alloc, World.size_alloc] at this; exact this
 · have := heap_alloc_new (((w.alloc (.cells cs 27)).alloc (.cells #[x] 3)).alloc (.cells cs 27)) (.cells #[v] 25)
   rw [World.size_alloc, World.size_alloc, World.size_alloc] at this; exact this
theorem zfY {w w1 V : World} {CB D : Nat} {f : List Sp → Int} {pre : List Sp} {T : Nat → Prop} (h : zdb w CB f pre T V) (hD : w1.heap.size ≤ D) (hw : w.heap.size ≤ w1.heap.size) (o : Obj) (hK : V.heap[D]? = some o) : Below w.heap.size w (V.putObj D (.deferred none)) :=
 ⟨h.2.os, h.2.tape, h.2.output, by have := h.2.size; simp [World.putObj]; exact this, fun x hx => by rw [World.putObj_heap_other (by omega)]; exact h.2.block x hx⟩
theorem zdp (w : World) (S : Nat → Prop) (nv : Value) (t : Tr) (hS : ∀ x, S x → x < w.heap.size) (ht : zH w S nv t) (hsz : zg t.kids + 1 ≤ 500000) : Calls Try.prog 115 #[nv] w (zhk w (Zu (spF 1 (zl t)))) := by
 obtain ⟨ka, cap, rfl, hcap, hk⟩ := ht
 obtain ⟨n, hn⟩ : ∃ n, n = foLen t.kids := ⟨_, rfl⟩
 rw [← hn]
 obtain ⟨k1, k2, k3, k4, k5⟩ := zfx w #[.int .i64 t.id, .int .i64 t.kind, .string t.text, .slice ka n cap] (.slice (some ⟨w.heap.size + 1 + 1, 0, none⟩) 1 1) (.int .i64 0)
 have HW := hH (aN k1 (aN k2 (aN k3 (aN k4 k5))))
 have H := hH (aN hS (aN hcap (aN hk (aN hsz hn))))
 clear hS hcap hk hsz hn k1 k2 k3 k4 k5
 refine (callsIn_wide (n := 6)).1 ?_
 refine callsIn_of_wp_marks Try.func115 rfl trivial ?_ rfl
 simp only [Try.ntmps115, List.size_toArray, List.length_cons, List.length_nil, Nat.reduceAdd, Nat.reduceSub, Array.replicate_succ, Array.replicate_zero, List.push_toArray, List.append_toArray, List.nil_append, List.cons_append]
 gi_wp2_with (refine ⟨trivial, ?_⟩; gi_at_call 48; refine (callsIn_wide.2 (Y4 _ _ _ _)).mono ?_; rintro e w' ⟨rfl, rfl⟩)
 generalize hW : World.alloc _ _ = W at HW ⊢
 clear hW
 obtain ⟨k1, k2, k3, k4, k5⟩ := HW.out
 have hSW : ∀ x, S x → W.heap[x]? = w.heap[x]? := fun x hx => k2.block x (H.out.1 x hx)
 have hroot := jE hSW H.out.2.1 H.out.2.2.1 (by rw [← H.out.2.2.2.2]; exact k4)
 refine ZB (by omega) rfl ⟨1, some ⟨w.heap.size + 1 + 1, 0, none⟩, 1, zl t⟩ rfl (by simp [zl]) (by simp [zl, foLen]) (by rw [zI]; exact H.out.2.2.2.1) (by rw [cell_of_row _ _ 0 _ _ _ k5]; rfl) rfl (fun x => S x ∨ x = w.heap.size + 1 + 1) (fun x hx => by rcases hx with hx | hx; have := H.out.1 x hx; omega; omega) hroot
  (zdb w (w.heap.size + 1) Zu) (fun _ _ _ => False) (fun h hT ht _ => h.turn (by omega) (by omega) hT ht) (fun h _ _ _ => h.elim) ⟨k3, k2⟩ ?round ?done ?stop
 case done =>
  rintro D T V hD hI hK
  have c0 : V.cell? ⟨w.heap.size + 1, 0, none⟩ = some (.int .i64 (Zu (spF 1 (zl t)))) := by rw [cell_of_row _ _ 0 _ _ _ hI.1]; rfl
  have HE := hH (zfY hI hD (by omega) _ hK)
  clear hI HW H k1 k2 k3 k4 k5 hSW hroot
  gi_wp2
  refine ⟨by simp, .inl ⟨_, _, rfl, run_takeDeferred hK, ?_⟩⟩
  exact ⟨_, results_tmp rfl _ _ _, rfl, HE.out⟩
 case stop => exact fun _ _ _ _ _ h _ => h.elim
 case round =>
  rintro l hl T pre rest d key k V b off kc ka2 hT hV htot hb d0 d1 d2 d3 d4 dk hR K hK
  have hpl : pre.length ≤ 500000 := by
   have := congrArg List.length htot
   rw [yl, zI, List.length_append] at this; have := H.out.2.2.2.1; omega
  have hb0 : 0 ≤ Zu pre := by unfold Zu; omega
  have hb1 : Zu pre ≤ 500000 := by unfold Zu; omega
  have HK := hH hK
  have HR := hH (aN hR (aN hT hV))
  have HZ := hH (aN k1 (aN hl hb))
  clear hR hK hT hV k1 k2 k3 k4 k5 hSW hroot HW htot d0 d1 d2 d3 d4 dk hl hb
  gi_wp2
  refine HK.out _ fun V1 hV1 => ?_
  obtain ⟨o', ev, o, ho, hoc⟩ := hV1
  have hC1 : V1.heap[w.heap.size + 1]? = some (.cells #[.int .i64 (Zu pre)] 3 (0, 0)) := by
   rw [ev, World.putObj_heap_other (by have := HZ.out.2.1; have := HZ.out.1; omega)]; exact HR.out.1.1
  have hs1 : V1.heap.size = V.heap.size := by rw [ev]; simp [World.putObj]
  have hB1 : Below w.heap.size w V1 := by
   have h2 := HR.out.1.2
   rw [ev]
   exact ⟨h2.os, h2.tape, h2.output, by have := h2.size; simp [World.putObj]; exact this, fun x hx => by rw [World.putObj_heap_other (by have := HZ.out.2.1; have := HZ.out.1; omega)]; exact h2.block x hx⟩
  have hend : ∀ aa : Act, Qc W.heap.size T (fun x => S x ∨ x = w.heap.size + 1 + 1) (zdb w (w.heap.size + 1) Zu) (fun _ _ _ => False) (pre ++ [(d, key, k)]) V1 .normal aa (V1.setCell ⟨w.heap.size + 1, 0, none⟩ (.int .i64 (Zu pre + 1))) := by
   intro aa
   have hbk : ∀ x, x ≠ w.heap.size + 1 → (V1.setCell ⟨w.heap.size + 1, 0, none⟩ (.int .i64 (Zu pre + 1))).heap[x]? = V1.heap[x]? := fun x hx => Below.heap_setCell _ _ _ _ hx
   have hk1 := HZ.out.1
   refine ⟨⟨by simp [World.setCell], fun x o hx ho _ => ?_⟩, ⟨by simp [World.setCell], fun x hx => hbk x (by have := (HR.out.2.1 x hx).2; omega)⟩, fun x hx => hbk x ?_, .inl ⟨rfl, ?_, hB1.setCell (p := ⟨w.heap.size + 1, 0, none⟩) (by simp) _⟩⟩
   · rw [hbk x (by omega)]; exact ho
   · rcases hx with hx | hx
     · have := H.out.1 x hx; omega
     · omega
   · rw [heap_setCell_same V1 (w.heap.size + 1) 0 _ _ _ hC1]
     simp [Zu]
  have c0 : V1.cell? ⟨w.heap.size + 1, 0, none⟩ = some (.int .i64 (Zu pre)) := by rw [cell_of_row _ _ 0 _ _ _ hC1]; rfl
  have f0 : V1.frozen? ⟨w.heap.size + 1, 0, none⟩ = false := frozen_of_row _ _ 0 _ _ hC1
  have HE := hH hend
  clear hend hC1 hB1 hs1 ev ho hoc
  gi_wp2
  all_goals first
   | exact HE.out _
   | (have h := HE.out; rw [Int.max_eq_right (by omega)] at h; exact h _)
   | (have h := HE.out; rw [Int.max_eq_left (by omega)] at h; exact h _)
end Go.Proofs.Ytgkmmnihaiopaaa
