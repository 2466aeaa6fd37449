/-
  .
-/
import Derived.BigQuiet
import Derived.Deep.Quiet
import Derived.Test.YtgkmmnihaiopaaaECountNQa
import Derived.Deep.RegionLaw
import Derived.Laws.OwnMore
import Derived.IntWalk
import Derived.Deep.LoopGhost
import Derived.Laws.EntriesVeiled
import Derived.Test.YtgkmmnihaiopaaaJPgQa
set_option maxRecDepth 100000
set_option maxHeartbeats 40000000
set_option linter.unusedVariables false
set_option linter.unusedSimpArgs false
namespace Go.Proofs.Ytgkmmnihaiopaaa
open Go.RowKit
theorem zbh (w : World) (b off n cap p : Nat) (hp : p < n) (hn : n ≤ 1000000000) : Calls Try.prog 123 #[.agg #[.slice (some ⟨b, off, none⟩) n cap, .int .i64 (p : Int)]] w fun e w' => e = .returned (.pointer (some ⟨b, off + p * 4, none⟩)) ∧ Below w.heap.size w w' := by
 have hpl : (p : Int) < (n : Int) := by omega
 go_enter Try.func123, Try.ntmps123
 go_wp2_with fail
 go_ret
 exact ⟨rfl, (Below.refl _ _).alloc (Nat.le_refl _) _⟩
theorem ZA {P : Program} {ops : Array Oper} {C : World → Prop} {Q : Exit → Act → World → Prop} {l : List Oper} {a : Act} (h : ∀ QQ : Act → Prop, (∀ a, (∀ w', C w' → Q .normal a w') → QQ a) → wpQuiet P ops C QQ l a) : wpQuiet P ops C (fun a' => ∀ w', C w' → Q .normal a' w') l a := h _ (fun _ h => h)
theorem Zo : ∀ (M : List Fr) (k : Nat) (s : Fr), M[k]? = some s → (M.flatMap Fr.cells)[k * 2]? = some (.slice s.a (foLen s.f) s.cap) ∧ (M.flatMap Fr.cells)[k * 2 + 1]? = some (.int .i64 s.p)
 | [], _, _, h => by simp at h
 | x :: M, 0, s, h => by
   simp at h; subst h
   simp [Fr.cells]
 | x :: M, k + 1, s, h => by
   have := Zo M k s (by simpa using h)
   rw [List.flatMap_cons]
   have e1 : (k + 1) * 2 = k * 2 + 1 + 1 := by omega
   rw [e1]
   simpa [Fr.cells] using this
theorem zaV (L : List Fr) : (L.flatMap Fr.cells).length = L.length * 2 := by
 induction L with
 | nil => rfl
 | cons s L ih => rw [List.flatMap_cons, List.length_append, ih, List.length_cons]; simp [Fr.cells]; omega
theorem YG : ∀ (M : List Fr) (k : Nat) (s : Fr) (p : Int), M[k]? = some s → (M.flatMap Fr.cells).set (k * 2 + 1) (.int .i64 p) = (M.set k ⟨s.a, s.cap, s.f, p⟩).flatMap Fr.cells
 | [], _, _, _, h => by simp at h
 | x :: M, 0, s, p, h => by
   simp at h; subst h
   simp [Fr.cells]
 | x :: M, k + 1, s, p, h => by
   have := YG M k s p (by simpa using h)
   rw [pgF, List.flatMap_cons, List.flatMap_cons, ← this]
   have e1 : (k + 1) * 2 + 1 = k * 2 + 1 + 1 + 1 := by omega
   rw [e1]
   simp [Fr.cells]
theorem zcq {w : World} {B n j cap : Nat} {a : Option Addr} {e : TypeId} {xs ys : List Value} (h : w.ownsRow B e 2 (.slice a n cap) n (xs ++ ys)) (hj : xs.length = j * 2) (hjn : j ≤ n) : w.ownsRow B e 2 (.slice a j cap) j xs := by
 rcases h.2 with ⟨hv, hn⟩ | ⟨g', cap', cur, hv, hB, hh, h3, h4, h5, h6⟩
 · cases hv
   have : j = 0 := by omega
   subst this
   rw [List.length_eq_zero_iff.1 (by omega : xs.length = 0)]
   exact World.ownsRow_nil _ _ _ _
 · cases hv
   refine ⟨hj, Or.inr ⟨g', cap, cur, rfl, hB, hh, by omega, h4, h5, ?_⟩⟩
   have h7 : (cur.toList.take (n * 2)).take (j * 2) = (xs ++ ys).take (j * 2) := by rw [h6]
   rw [List.take_take, Nat.min_eq_left (by omega)] at h7
   rw [h7, List.take_left' hj]
def yE (w : World) (rv : Value) (L : List Fr) : Prop := w.ownsRow 0 168 2 rv L.length (L.reverse.flatMap Fr.cells)
theorem yE.kept {w w' : World} {rv : Value} {L : List Fr} (h : yE w rv L) (hk : ∀ g, rv.ownBlock = some g → w'.heap[g]? = w.heap[g]?) : yE w' rv L := zG h fun g _ _ hg => hk g hg
theorem yE.at {w : World} {a : Option Addr} {n cap : Nat} {L : List Fr} (h : yE w (.slice a n cap) L) {k : Nat} {x : Fr} (hx : L.reverse[k]? = some x) : ∃ g, a = some ⟨g, 0, none⟩ ∧ n = L.length ∧ w.cell? ⟨g, k * 2, none⟩ = some (.slice x.a (foLen x.f) x.cap) ∧ w.cell? ⟨g, k * 2 + 1, none⟩ = some (.int .i64 x.p) ∧ (∀ j, w.frozen? ⟨g, j, none⟩ = false) := by
 have hk : k < L.length := by have := (List.getElem?_eq_some_iff.1 hx).1; rwa [List.length_reverse] at this
 have hn : n = L.length := by
  rcases h.2 with ⟨hv, h0⟩ | ⟨g, cap, cur, hv, _⟩
  · omega
  · cases hv; rfl
 subst hn
 have hf := h
 obtain ⟨g, cap', e, _⟩ := World.ownsRow.form h (by omega)
 cases e
 obtain ⟨c0, c1⟩ := Zo _ k x hx
 exact ⟨g, rfl, rfl, zD h rfl _ _ c0, zD h rfl _ _ c1, fun j => World.ownsRow.frozenAt hf j⟩
def Ji (rv : Value) (L : List Fr) (w : World) (e : Ending) (w' : World) : Prop := ∃ rv', e = .returned rv' ∧ yE w' rv' (yh L) ∧ (rv'.ownBlock = rv.ownBlock ∨ rv'.ownBlock = none) ∧ zk w w' (fun x => rv.ownBlock = some x)
def kZ (ra : Option Addr) (n rc : Nat) (L : List Fr) (w : World) (j : Nat) (wr : World) : Prop := ∃ A R, A.length = j ∧ R.length + j = n ∧ yh A = yh L ∧ (∀ x ∈ A, x ∈ L) ∧ wr.ownsRow 0 168 2 (.slice ra n rc) n ((A.reverse ++ R).flatMap Fr.cells) ∧ zk w wr (fun x => (Value.slice ra n rc).ownBlock = some x)
theorem kZ.drew {ra : Option Addr} {n rc j : Nat} {L : List Fr} {w wr : World} (h : kZ ra n rc L w j wr) : kZ ra n rc L w j wr.drew := by
 obtain ⟨A, R, h1, h2, h3, h4, h5, h6⟩ := h
 exact ⟨A, R, h1, h2, h3, h4, h5, h6.drew⟩
theorem Ji.drew {rv : Value} {L : List Fr} {w w' : World} {e : Ending} (h : Ji rv L w e w') : Ji rv L w e w'.drew := by
 obtain ⟨rv', h1, h2, h3, h4⟩ := h
 exact ⟨rv', h1, h2, h3, h4.drew⟩
theorem kZ.at {ra : Option Addr} {n rc k : Nat} {L : List Fr} {w wr : World} (h : kZ ra n rc L w (k + 1) wr) : ∃ (g : Nat) (x : Fr), ra = some ⟨g, 0, none⟩ ∧ x ∈ L ∧ (∀ j, wr.frozen? ⟨g, j, none⟩ = false) ∧ wr.cell? ⟨g, k * 2, none⟩ = some (.slice x.a (foLen x.f) x.cap) ∧ wr.cell? ⟨g, k * 2 + 1, none⟩ = some (.int .i64 x.p) ∧ k + 1 ≤ n ∧ n ≤ rc ∧
 ((x.p + 1 < (foLen x.f : Int) → Ji (.slice (some ⟨g, 0, none⟩) n rc) L w (.returned (.slice (some ⟨g, 0, none⟩) (k + 1) rc)) (wr.setCell ⟨g, k * 2 + 1, none⟩ (.int .i64 (x.p + 1)))) ∧ (¬ x.p + 1 < (foLen x.f : Int) → kZ (some ⟨g, 0, none⟩) n rc L w k (wr.setCell ⟨g, k * 2 + 1, none⟩ (.int .i64 (x.p + 1))))) := by
 obtain ⟨A, R, h1, h2, h3, h4, h5, h6⟩ := h
 obtain ⟨g, cap, e, hcap⟩ := h5.form (by omega)
 cases e
 cases A with
 | nil => simp at h1
 | cons x A =>
   have hA : A.length = k := by simpa using h1
   have hx : ((x :: A).reverse ++ R)[k]? = some x := by
    rw [List.reverse_cons, List.append_assoc, List.getElem?_append_right (by simp [hA])]; simp [hA]
   have hc := Zo _ k x hx
   have hst := (h5.stored (k * 2 + 1) (.int .i64 (x.p + 1))).1
   rw [YG _ k x _ hx] at hst
   have hset : ((x :: A).reverse ++ R).set k ⟨x.a, x.cap, x.f, x.p + 1⟩ = (⟨x.a, x.cap, x.f, x.p + 1⟩ :: A).reverse ++ R := by
    rw [List.reverse_cons, List.reverse_cons, List.append_assoc, List.append_assoc, List.set_append_right _ _ (by simp [hA])]
    simp [hA]
   rw [hset] at hst
   have hb : (fun y => (Value.slice (some ⟨g, 0, none⟩) n rc).ownBlock = some y) = fun y => y = g := by
    funext y; simp [Value.ownBlock]; exact eq_comm
   have ht : zk w (wr.setCell ⟨g, k * 2 + 1, none⟩ (.int .i64 (x.p + 1))) (fun y => (Value.slice (some ⟨g, 0, none⟩) n rc).ownBlock = some y) := by
    rw [hb] at h6 ⊢
    exact h6.trans (zk.setCell (S := fun y => y = g) (a := ⟨g, _, none⟩) rfl _) (fun y hy => Or.inl hy)
   have hrc : n ≤ rc := by
    rcases h5.2 with ⟨hv, hn⟩ | ⟨g', cap', cur, hv, hB, hh, h3', _⟩
    · cases hv
    · cases hv; exact h3'
   refine ⟨g, x, rfl, h4 x (by simp), fun j => h5.frozenAt j, zD h5 rfl _ _ hc.1, zD h5 rfl _ _ hc.2, by omega, hrc, fun hl => ?_, fun hl => ?_⟩
   · have e : yh L = ⟨x.a, x.cap, x.f, x.p + 1⟩ :: A := by rw [← h3, yh, if_pos hl]
     refine ⟨_, rfl, ?_, Or.inl rfl, ht⟩
     unfold yE
     rw [e]
     rw [List.flatMap_append] at hst
     have := zcq (j := k + 1) hst (by rw [zaV, List.length_reverse, List.length_cons, hA]) (by omega)
     rw [List.length_cons, hA]
     exact this
   · refine ⟨A, ⟨x.a, x.cap, x.f, x.p + 1⟩ :: R, hA, by rw [List.length_cons]; omega, by rw [← h3, yh, if_neg hl], fun y hy => h4 y (by simp [hy]), ?_, ht⟩
     rw [List.reverse_cons, List.append_assoc] at hst
     exact hst
theorem kZ.end {ra : Option Addr} {n rc : Nat} {L : List Fr} {w wr : World} (h : kZ ra n rc L w 0 wr) : Ji (.slice ra n rc) L w (.returned (.slice none 0 0)) wr := by
 obtain ⟨A, R, h1, h2, h3, h4, h5, h6⟩ := h
 rw [List.length_eq_zero_iff.1 h1] at h3
 refine ⟨_, rfl, ?_, Or.inr rfl, h6⟩
 rw [← h3]
 exact World.ownsRow_nil _ _ _ _
theorem zbe (w : World) (rv : Value) (L : List Fr) (h : yE w rv L) (hL : L.length ≤ 1000000) (hx : ∀ x ∈ L, -1 ≤ x.p ∧ x.p ≤ 1000000000) : Calls Try.prog 130 #[rv] w (Ji rv L w) := by
 obtain ⟨ra, rc, rfl⟩ := zu h
 obtain ⟨n, hn⟩ : ∃ n, n = L.length := ⟨_, rfl⟩
 have HS : Hid (kZ ra n rc L w n w) := hH ⟨L, [], hn.symm, by simp, rfl, fun x hx => hx, by rw [List.append_nil, hn]; exact h, by rw [hn]; exact zk.refl _ _⟩
 have HX := hH hx
 rw [← hn] at hL ⊢
 clear h hx hn
 go_enter Try.func130, Try.ntmps130
 go_wp2_with fail
 go_loopw [3] (fun i wr => ∃ j : Nat, j ≤ n ∧ i = .int .i64 ((j : Int) - 1) ∧ Hid (kZ ra n rc L w j wr)) (fun i _ => (intOf i + 1).toNat)
 case atStart => exact ⟨n, Nat.le_refl _, rfl, HS⟩
 case round =>
  obtain ⟨j, hj, rfl, hh⟩ := hrel
  clear HS
  cases j with
  | zero =>
    have HE := hH hh.out.end
    clear hh
    have hz : ((0 : Nat) : Int) - 1 = -1 := by omega
    rw [hz]
    go_wp2_with fail
    go_ret
    exact HE.out
  | succ k =>
    obtain ⟨g, x, rfl, hxL, fz, c0, c1, hkn, hnr, hy, hno⟩ := hh.out.at
    have hxp := HX.out x hxL
    obtain ⟨xa, xc, xf, p⟩ := x
    obtain ⟨q, hq⟩ : ∃ q, q = foLen xf := ⟨_, rfl⟩
    simp only at c0 c1 hy hno hxp
    rw [← hq] at c0 hy hno
    have hk1 : ((k + 1 : Nat) : Int) - 1 = (k : Int) := by omega
    rw [hk1]
    have hkl : (k : Int) < (n : Int) := by omega
    have hkl1 : (k : Int) + 1 ≤ (n : Int) := by omega
    have hp1 : IntKind.i64.wrap (p + 1) = p + 1 := IntWalk.i64_in _ (by omega)
    have HXP := hH (aN hxp (aN hj hkn))
    by_cases hlt : p + 1 < (q : Int)
    · have HY := hH (hy hlt)
      clear hy hno hh hxp hj hk1 hkn
      go_wp2_with fail
      go_region
      all_goals
       go_wp2_with fail
       go_ret
       exact HY.out.drew
    · have HY := hH (hno hlt)
      clear hy hno hh hxp hj hk1 hkn
      go_wp2_with fail
      go_region
      all_goals
       go_wp2_with fail
       go_roundw
       case rel => exact ⟨k, by have := HXP.out.2.2; omega, by go_num, hH HY.out.drew⟩
       case measure => simp [intOf]
end Go.Proofs.Ytgkmmnihaiopaaa
namespace Go.Proofs.Ytgkmmnihaiopaaa
open Go.RowKit Go.Shelf
structure qx (w : World) (S : Nat → Prop) (t : Tr) (T : Nat → Prop) (rv : Value) (L : List Fr) : Prop where
 rows : yE w rv L
 own : ∀ g, rv.ownBlock = some g → T g
 ok : ∀ y ∈ L, y.ok
 lies : ∀ y ∈ L, zC w S y.f y.a ∧ foLen y.f ≤ y.cap
 chain : yZ (zl t) L
 apart : ∀ y, T y → y < w.heap.size ∧ ¬ S y
 few : L.length + vC L ≤ zg t.kids + 2
 sl : ∀ y, S y → y < w.heap.size
structure zeG (w : World) (S : Nat → Prop) (t : Tr) (T : Nat → Prop) (rv : Value) (L : List Fr) : Prop where
 rows : yE w rv L
 own : ∀ g, rv.ownBlock = some g → T g
 p : ∀ y ∈ L, -1 ≤ y.p ∧ y.p ≤ (foLen y.f : Int)
 ok : ∀ y ∈ L.tail, y.ok
 lies : ∀ y ∈ L, zC w S y.f y.a ∧ foLen y.f ≤ y.cap
 chain : yZ (zl t) L
 apart : ∀ y, T y → y < w.heap.size ∧ ¬ S y
 few : L.length + ZZ L ≤ zg t.kids + 2
 sl : ∀ y, S y → y < w.heap.size
theorem jL {root : Fo} : ∀ (L : List Fr), yZ root L → ∀ x ∈ L, foLen x.f ≤ zg root
 | [], _, _, h => by cases h
 | [x], h, y, hy => by
   rw [List.mem_singleton] at hy; subst hy
   rw [yZ] at h; rw [h]; exact yu _
 | x :: z :: r, h, y, hy => by
   rcases List.mem_cons.1 hy with rfl | hy
   · obtain ⟨_, u, hu, he⟩ := h.1
     have h1 : ∀ (L : List Fr), yZ root L → ∀ x ∈ L, zg x.f ≤ zg root := by
      intro L
      induction L with
      | nil => intro _ x hx; cases hx
      | cons a L ih =>
        intro hL x hx
        cases L with
        | nil => rw [List.mem_singleton] at hx; subst hx; rw [yZ] at hL; rw [hL]; exact Nat.le_refl _
        | cons b L =>
          rcases List.mem_cons.1 hx with rfl | hx
          · obtain ⟨_, v, hv, hf⟩ := hL.1
            have h2 := ih hL.2 b (by simp)
            have h3 := kE hv
            have h4 : ∀ (j : Nat) (f : Fo), zg (zo j f) ≤ zg f := by
             intro j
             induction j with
             | zero => intro f; rw [qC]; exact Nat.le_refl _
             | succ j ih => intro f; cases f with
               | nil => exact Nat.le_refl _
               | node b o a l r => have := ih r; simp only [zo, zg]; omega
            have h5 := h4 b.p.toNat b.f
            rw [hf]; omega
          · exact ih hL.2 x hx
     have h2 := h1 (y :: z :: r) h y (by simp)
     have := yu y.f
     omega
   · exact jL (z :: r) h.2 y hy
theorem qx.kept {w w' : World} {S T : Nat → Prop} {t : Tr} {rv : Value} {L : List Fr} (h : qx w S t T rv L) (hs : w.heap.size ≤ w'.heap.size) (hT : ∀ y, T y → w'.heap[y]? = w.heap[y]?) (hS : ∀ y, S y → w'.heap[y]? = w.heap[y]?) : qx w' S t T rv L :=
 ⟨h.rows.kept fun g hg => hT g (h.own g hg), h.own, h.ok, fun y hy => ⟨(h.lies y hy).1.kept fun k hk => ⟨hk, hS k hk⟩, (h.lies y hy).2⟩, h.chain, fun y hy => ⟨nL (h.apart y hy).1 hs, (h.apart y hy).2⟩, h.few, fun y hy => nL (h.sl y hy) hs⟩
theorem zeG.next {w w' : World} {S T : Nat → Prop} {t : Tr} {rv rv' : Value} {L : List Fr} (h : zeG w S t T rv L) (h1 : yE w' rv' (yh L)) (h2 : rv'.ownBlock = rv.ownBlock ∨ rv'.ownBlock = none) (h3 : zk w w' (fun x => rv.ownBlock = some x)) : qx w' S t T rv' (yh L) := by
 have hp : ∀ x ∈ L, -1 ≤ x.p := fun x hx => (h.p x hx).1
 refine ⟨h1, fun g hg => ?_, zbd L hp h.ok, JB (fun a c f => zC w' S f a ∧ foLen f ≤ c) L (fun y hy => ⟨(h.lies y hy).1.kept fun k hk => ⟨hk, h3.block k (h.sl k hk) (fun e => (h.apart k (h.own k e)).2 hk)⟩, (h.lies y hy).2⟩), YI L h.chain, fun y hy => ⟨nL (h.apart y hy).1 h3.size, (h.apart y hy).2⟩, ?_, fun y hy => nL (h.sl y hy) h3.size⟩
 · rcases h2 with e | e
   · exact h.own g (e ▸ hg)
   · rw [e] at hg; cases hg
 · have := Z4 L
   have := Zv L hp
   have := h.few
   omega
theorem qx.here {w : World} {S T : Nat → Prop} {t : Tr} {rv : Value} {x : Fr} {r : List Fr} (h : qx w S t T rv (x :: r)) : ∃ (g cap n p : Nat) (u : Tr) (b off : Nat) (ka : Option Addr) (kc : Nat), rv = .slice (some ⟨g, 0, none⟩) (n + 1) cap ∧ n = r.length ∧ n ≤ zg t.kids + 1 ∧ (n : Int) + 1 ≤ cap ∧ T g ∧ w.cell? ⟨g, n * 2, none⟩ = some (.slice x.a (foLen x.f) x.cap) ∧ w.cell? ⟨g, n * 2 + 1, none⟩ = some (.int .i64 (p : Int)) ∧ x.p = (p : Int) ∧ p < foLen x.f ∧ foLen x.f ≤ zg t.kids + 1 ∧
 zz x.f x.p.toNat = some u ∧ x.a = some ⟨b, off, none⟩ ∧ S b ∧ w.cell? ⟨b, off + p * 4, none⟩ = some (.int .i64 u.id) ∧ w.cell? ⟨b, off + p * 4 + 3, none⟩ = some (.slice ka (foLen u.kids) kc) ∧ foLen u.kids ≤ kc ∧ zC w S u.kids ka := by
 have hok := h.ok x (by simp)
 obtain ⟨ra, rc, rfl⟩ := zu h.rows
 obtain ⟨g, rfl, hn, c0, c1, _⟩ := yE.at h.rows (k := r.length) (x := x) (by rw [List.reverse_cons, List.getElem?_append_right (by simp)]; simp)
 have hl := jL _ h.chain x (by simp)
 rw [zI] at hl
 have hf := h.few
 have hcap : (r.length : Int) + 1 ≤ rc := by
  rcases h.rows.2 with ⟨hv, _⟩ | ⟨_, _, _, hv, _, _, h3, _⟩
  · cases hv
  · cases hv; simp only [List.length_cons] at h3; omega
 obtain ⟨b0, o0, key, l, q, hd, b, off, ka, kc, ha, hSb, d0, _, _, d3, hkc, hk⟩ := (h.lies x (by simp)).1.at x.p.toNat (by have := hok.1; have := hok.2; omega)
 have hp : x.p = (x.p.toNat : Int) := by have := hok.1; omega
 rw [hp] at c1
 refine ⟨g, rc, r.length, x.p.toNat, ⟨key.1, key.2.1, key.2.2, l⟩, b, off, ka, kc, by rw [List.length_cons], rfl, ?_, hcap, h.own g rfl, c0, c1, hp, by have := hok.2; omega, by omega, by rw [zz, hd]; rfl, ha, hSb, d0, d3, hkc, hk⟩
 have h9 : 1 ≤ vC (x :: r) := by
  rw [vC, hd]; simp only [zg]; omega
 simp only [List.length_cons] at hf; omega
theorem qx.push {w w3 : World} {S T T3 : Nat → Prop} {t : Tr} {rv rv3 : Value} {x : Fr} {r : List Fr} {u : Tr} {ka : Option Addr} {kc : Nat} (h : qx w S t T rv (x :: r)) (hu : zz x.f x.p.toNat = some u) (hk : zC w S u.kids ka) (hkc : foLen u.kids ≤ kc) (hs : w.heap.size ≤ w3.heap.size) (hS : ∀ y, S y → w3.heap[y]? = w.heap[y]?)
 (hr : w3.ownsRow 0 168 2 rv3 (r.length + 1 + 1) ((x :: r).reverse.flatMap Fr.cells ++ [.slice ka (foLen u.kids) kc, .int .i64 (-1)])) (ho : ∀ g, rv3.ownBlock = some g → T3 g) (hT : ∀ y, T3 y → y < w3.heap.size ∧ ¬ S y) : zeG w3 S t T3 rv3 (⟨ka, kc, u.kids, -1⟩ :: x :: r) := by
 have hok := h.ok x (by simp)
 refine ⟨?_, ho, fun y hy => ?_, h.ok, fun y hy => ?_, ⟨⟨hok.1, u, hu, rfl⟩, h.chain⟩, hT, ?_, fun y hy => nL (h.sl y hy) hs⟩
 · unfold yE
   rw [List.reverse_cons, List.flatMap_append]
   exact hr
 · rcases List.mem_cons.1 hy with rfl | hy
   · exact ⟨by simp, by simp only; omega⟩
   · have := h.ok y hy; exact ⟨by have := this.1; omega, by have := this.2; omega⟩
 · rcases List.mem_cons.1 hy with rfl | hy
   · exact ⟨hk.kept fun k hk => ⟨hk, hS k hk⟩, hkc⟩
   · exact ⟨(h.lies y hy).1.kept fun k hk => ⟨hk, hS k hk⟩, (h.lies y hy).2⟩
 · have h1 := QN (a := ka) (c := kc) (r := r) hok hu
   have h2 := h.few
   simp only [List.length_cons] at h2 ⊢
   omega
end Go.Proofs.Ytgkmmnihaiopaaa
