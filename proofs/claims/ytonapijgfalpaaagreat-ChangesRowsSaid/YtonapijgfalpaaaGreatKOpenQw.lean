/-
  .
-/
import Derived.Test.YtonapijgfalpaaaGreatKTakeAQw
import Derived.Test.YtonapijgfalpaaaGreatVManyQw
import Derived.Test.YtonapijgfalpaaaGreatERowQw
import Derived.Test.YtonapijgfalpaaaGreatHRangeQw
import Derived.Deep.RegionHeld
import Derived.Test.YtonapijgfalpaaaGreatKPathQw
import Derived.Test.YtonapijgfalpaaaGreatVWalkQw
import Derived.Deep.Cut
import Derived.Carry
import Derived.Test.YtonapijgfalpaaaGreatLRowQw
import Derived.Test.YtonapijgfalpaaaGreatKOpsQw
import Derived.Test.YtonapijgfalpaaaGreatVFaultQw
import Derived.ProofKit
import Derived.OpenShut
import Derived.Deep.Slices
import Derived.Deep.Strs
import Derived.Lib.SmallJoins
import Derived.Laws.BytesArg
import Derived.Test.YtonapijgfalpaaaGreatJPgQw
set_option maxRecDepth 100000
set_option maxHeartbeats 40000000
set_option linter.unusedVariables false
set_option linter.unusedSimpArgs false
namespace Go.Proofs.YtonapijgfalpaaaGreat
open Go.RowKit Go.Shelf
theorem Zm : ∀ (q : List Nat) (i : Nat) (t v : Tr), atT t (q ++ [i]) = some v → ∃ u, atT t q = some u ∧ zH u.kids i = some v
 | [], i, t, v, h => by
   rw [List.nil_append, atT] at h
   cases hk : zH t.kids i with
   | none => rw [hk] at h; cases h
   | some x => rw [hk] at h; exact ⟨t, rfl, by rw [hk]; simpa [atT] using h⟩
 | j :: q, i, t, v, h => by
   rw [List.cons_append, atT] at h
   cases hk : zH t.kids j with
   | none => rw [hk] at h; cases h
   | some x =>
     rw [hk] at h
     obtain ⟨u, h1, h2⟩ := Zm q i x v h
     exact ⟨u, by rw [atT, hk]; exact h1, h2⟩
def vT (id par at_ : Int) (t : Tr) : Tr × Int := match zM id t, zM par t with
 | some p, some _ => if p = [] then (zA, 90) else if Yz id par t = true then (zA, 91) else Yt par at_ (kN t p.dropLast (p.getLastD 0)).1 (kN t p.dropLast (p.getLastD 0)).2
 | _, _ => (zA, 4)
theorem zeh {id par at_ : Int} {t : Tr} (h : zM id t = none) : vT id par at_ t = (zA, 4) := by unfold vT; rw [h]
theorem zdt {id par at_ : Int} {t : Tr} (h : zM par t = none) : vT id par at_ t = (zA, 4) := by unfold vT; rw [h]; cases zM id t <;> rfl
theorem zb0 {id par at_ : Int} {t : Tr} {q : List Nat} (h : zM id t = some []) (h2 : zM par t = some q) : vT id par at_ t = (zA, 90) := by unfold vT; rw [h, h2]; rfl
theorem zcf {id par at_ : Int} {t : Tr} {p q : List Nat} (h : zM id t = some p) (h2 : zM par t = some q) (hp : p ≠ []) (hw : Yz id par t = true) : vT id par at_ t = (zA, 91) := by unfold vT; rw [h, h2]; simp only; rw [if_neg hp, if_pos hw]
theorem zd9 {id par at_ : Int} {t u v : Tr} {p q : List Nat} {i : Nat} (h : zM id t = some (p ++ [i])) (h2 : zM par t = some q) (hw : Yz id par t = false) (hu : atT t p = some u) (hv : zH u.kids i = some v) : vT id par at_ t = Yt par at_ (yj t p ⟨u.id, u.kind, u.text, yG u.kids i⟩) v := by
 have ht : kN t p i = (yj t p ⟨u.id, u.kind, u.text, yG u.kids i⟩, v) := by unfold kN; rw [hu]; simp only; rw [hv]
 have hd : (p ++ [i]).dropLast = p := by simp
 have hl : (p ++ [i]).getLastD 0 = i := by simp [List.getLastD_eq_getLast?]
 unfold vT; rw [h, h2]; simp only
 rw [if_neg (by simp), if_neg (by rw [hw]; exact Bool.false_ne_true), hd, hl, ht]
def kV (f : Fo) : List Int := (spF 1 f).map fun x => x.2.1.1
theorem JM : ∀ (d : Nat) (f : Fo), (spF d f).map (fun x => x.2.1.1) = kV f
 | _, .nil => rfl
 | d, .node _ _ k l r => by
   simp only [kV, spF, List.map_cons, List.map_append]
   rw [JM (d + 1) l, JM d r, JM (1 + 1) l]
   rfl
theorem jD (b o : Nat) (k : Int × Int × ByteArray) (l r : Fo) : kV (.node b o k l r) = k.1 :: (kV l ++ kV r) := by
 simp only [kV, spF, List.map_cons, List.map_append]
 rw [JM (1 + 1) l]
 rfl
def zgR (t : Tr) : Prop := (kV (zm t)).Nodup
def cntF (a : Int) : Fo → Nat
 | .nil => 0
 | .node _ _ k l r => (if k.1 = a then 1 else 0) + cntF a l + cntF a r
def ze3 (a : Int) (t : Tr) : Nat := (if t.id = a then 1 else 0) + cntF a t.kids
theorem Yv (a : Int) : ∀ f : Fo, a ∈ kV f ↔ 0 < cntF a f
 | .nil => by simp [kV, spF, cntF]
 | .node b o k l r => by
   rw [jD, List.mem_cons, List.mem_append, Yv a l, Yv a r, cntF]
   by_cases h : k.1 = a
   · rw [if_pos h]; constructor
     · intro _; omega
     · intro _; exact Or.inl h.symm
   · rw [if_neg h]; constructor
     · rintro (h1 | h1 | h1)
       · exact absurd h1.symm h
       · omega
       · omega
     · intro h1; right; omega
theorem zae (a : Int) (t : Tr) : cntF a (zm t) = ze3 a t := by simp [zm, cntF, ze3]
theorem zeJ {id par at_ : Int} {t x : Tr} (h : vT id par at_ t = (x, 0)) :
 ∃ p i u v q z, zM id t = some (p ++ [i]) ∧ atT t p = some u ∧ zH u.kids i = some v ∧ v.id = id ∧ zM par (yj t p ⟨u.id, u.kind, u.text, yG u.kids i⟩) = some q ∧ atT (yj t p ⟨u.id, u.kind, u.text, yG u.kids i⟩) q = some z ∧ 0 ≤ at_ ∧ at_ ≤ (zb z.kids : Int) ∧ x = yj (yj t p ⟨u.id, u.kind, u.text, yG u.kids i⟩) q ⟨z.id, z.kind, z.text, vK z.kids at_.toNat v⟩ := by
 cases hi : zM id t with
 | none => rw [zeh hi] at h; cases h
 | some p0 =>
   cases hp : zM par t with
   | none => rw [zdt hp] at h; cases h
   | some q0 =>
     by_cases h0 : p0 = []
     · subst h0; rw [zb0 hi hp] at h; cases h
     · cases hw : Yz id par t with
       | true => rw [zcf hi hp h0 hw] at h; cases h
       | false =>
         obtain ⟨p, i, rfl⟩ : ∃ p i, p0 = p ++ [i] := ⟨p0.dropLast, p0.getLast h0, (List.dropLast_concat_getLast h0).symm⟩
         obtain ⟨v, hv0, hvid⟩ := qY id t _ hi
         obtain ⟨u, hu, hv⟩ := Zm p i t v hv0
         rw [zd9 hi hp hw hu hv] at h
         cases hq : zM par (yj t p ⟨u.id, u.kind, u.text, yG u.kids i⟩) with
         | none => rw [QW hq] at h; cases h
         | some q =>
           obtain ⟨z, hz, _⟩ := qY _ _ _ hq
           rw [Q4 hq hz] at h
           by_cases hc : 0 ≤ at_ ∧ at_ ≤ (zb z.kids : Int)
           · rw [if_pos hc] at h
             exact ⟨p, i, u, v, q, z, rfl, hu, hv, hvid, hq, hz, hc.1, hc.2, (Prod.mk.inj h).1.symm⟩
           · rw [if_neg hc] at h
             exact absurd (Prod.mk.inj h).2 (by decide)
end Go.Proofs.YtonapijgfalpaaaGreat
namespace Go.Proofs.YtonapijgfalpaaaGreat
open Go.RowKit
def zcx (w : World) (t : Tr) (e : Ending) (w' : World) : Prop := ∃ b, e = .returned (.bool b) ∧ (b = false → ze t.kids + 1 ≤ 250) ∧ Below w.heap.size w w'
theorem zeA {S : Nat → Prop} {w : World} {B n : Nat} {a : Option Addr} {cap : Nat} {T : List Sp} (h : vI S w B (.slice a n cap) n T) {k : Nat} {x : Sp} (hx : T[k]? = some x) : ∃ g, a = some ⟨g, 0, none⟩ ∧ g < w.heap.size ∧ w.cell? ⟨g, k * 5, none⟩ = some (.int .i64 x.2.1.1) ∧ w.cell? ⟨g, k * 5 + 1, none⟩ = some (.int .i64 x.2.1.2.1) ∧ w.cell? ⟨g, k * 5 + 2, none⟩ = some (.string x.2.1.2.2) ∧ (∃ ka c, w.cell? ⟨g, k * 5 + 3, none⟩ = some (.slice ka (zb x.2.2) c) ∧ zb x.2.2 ≤ c ∧ zF w S x.2.2 ka) ∧ w.cell? ⟨g, k * 5 + 4, none⟩ = some (.int .i64 (x.1 : Int)) := by
 obtain ⟨hT, xs, ho, hxs⟩ := h
 have hk := (List.getElem?_eq_some_iff.1 hx).1
 have hgg : ∃ g, a = some ⟨g, 0, none⟩ := by
  rcases ho.2 with ⟨hv, h0⟩ | ⟨g, cap2, cur, hv, _⟩
  · omega
  · cases hv; exact ⟨g, rfl⟩
 obtain ⟨g, rfl⟩ := hgg
 obtain ⟨p0, p1, p2, ⟨ka, c, p3, q1, q2⟩, p4⟩ := hxs k x hx
 exact ⟨g, rfl, (zq ho rfl).2, zy ho rfl _ _ p0, zy ho rfl _ _ p1, zy ho rfl _ _ p2, ⟨ka, c, zy ho rfl _ _ p3, q1, q2⟩, zy ho rfl _ _ p4⟩
theorem zbG (w : World) (S : Nat → Prop) (v : Value) (t : Tr) (hlen : zb t.kids ≤ 9223372036854775807) (hfit : jv t.kids) (hS : ∀ k, S k → k < w.heap.size) (hv : zL w S v t) :
 Calls Tryz.prog 16 #[v] w (zcx w t) := by
 obtain ⟨ka, cap, rfl, hcp, hk⟩ := hv
 have hb : Below w.heap.size w (w.alloc (.cells #[.int .i64 t.id, .int .i64 t.kind, .string t.text, .slice ka (zb t.kids) cap] 37)) := (Below.refl _ _).alloc (Nat.le_refl _) _
 have hc := kv 251 (by omega) (w.alloc (.cells #[.int .i64 t.id, .int .i64 t.kind, .string t.text, .slice ka (zb t.kids) cap] 37)) S _ t hlen hfit (fun k hk => nL (hS k hk) hb.size) ⟨ka, cap, rfl, hcp, hk.below hb hS⟩
 have HC := hH (aN hc hb)
 clear hc hb hk hfit hS hcp
 obtain ⟨len, hl⟩ : ∃ len, len = zb t.kids := ⟨_, rfl⟩
 rw [← hl] at HC
 rw [← hl]
 clear hl
 go_enter Tryz.func16, Tryz.ntmps16
 go_wp2_with fail
 refine HC.out.1.mono ?_
 rintro e w2 ⟨a, cap', rfl, hsp, hb2⟩
 have HB := hH (show Below w.heap.size w w2 from HC.out.2.trans (hb2.mono HC.out.2.size))
 obtain ⟨n, hn⟩ : ∃ n, n = ((spF 1 (zm t)).take 251).length := ⟨_, rfl⟩
 rw [← hn] at hsp ⊢
 have HO := hH (aN hsp hn)
 have hn2 : n ≤ 251 := by rw [hn, List.length_take]; omega
 clear hb2 hn hsp
 go_wp2_with fail
 go_loop [4, 5, 10] (fun s _ i => ∃ k : Nat, k ≤ n ∧ i = .int .i64 k ∧ ∃ q : Nat, s = .int .i64 q ∧ q ≤ 20000) (fun _ _ i => n - (intOf i).toNat)
 case atStart => exact ⟨0, Nat.zero_le _, rfl, 0, rfl, by omega⟩
 case round =>
  obtain ⟨k, hk, rfl, q, rfl, hq⟩ := hrel
  by_cases hlt : k < n
  · obtain ⟨p, hp⟩ : ∃ p, ((spF 1 (zm t)).take 251)[k]? = some p := ⟨_, List.getElem?_eq_getElem (by rw [← HO.out.2]; exact hlt)⟩
    obtain ⟨g, rfl, _, _, _, c2, _, _⟩ := zeA HO.out.1 hp
    obtain ⟨tx, htx⟩ : ∃ tx, tx = p.2.1.2.2 := ⟨_, rfl⟩
    rw [← htx] at c2
    have hkl : (k : Int) < (n : Int) := by omega
    clear hp htx
    by_cases hbig : 20000 < q + tx.size
    · have hbig2 : (20000 : Int) - (q : Int) < (tx.size : Int) := by omega
      go_wp2_with fail
      go_ret
      exact ⟨true, rfl, (fun e => by cases e), HB.out⟩
    · have hbig2 : ¬ (20000 : Int) - (q : Int) < (tx.size : Int) := by omega
      go_wp2_with fail
      exact ⟨⟨k + 1, by omega, by go_num, q + tx.size, by go_num, by omega⟩, by simp [intOf]; omega⟩
  · have hkl : ¬ (k : Int) < (n : Int) := by omega
    clear hk
    by_cases h250 : 250 < n
    · have h251 : (250 : Int) < (n : Int) := by omega
      go_wp2_with fail
      go_ret
      exact ⟨true, rfl, (fun e => by cases e), HB.out⟩
    · have h251 : ¬ (250 : Int) < (n : Int) := by omega
      have HN := hH h250
      clear h250
      go_wp2_with fail
      go_ret
      refine ⟨false, rfl, fun _ => ?_, HB.out⟩
      have h2 := HN.out
      rw [HO.out.2, List.length_take, zS, zI] at h2
      omega
end Go.Proofs.YtonapijgfalpaaaGreat
namespace Go.Proofs.YtonapijgfalpaaaGreat
open Go.RowKit Go.Shelf
theorem JN : ∀ (f : Fo) (d k : Nat) (r : List Nat) (u v : Tr), zH f k = some u → atT u r = some v → ∃ x ∈ spF d f, zbs x = v
 | .nil, _, k, _, _, _, h, _ => by cases k <;> simp [zH, zt, vk] at h
 | .node b o key l q, d, 0, r, u, v, h, hv => by
   have hu : u = ⟨key.1, key.2.1, key.2.2, l⟩ := by simp only [zH, zt, vk] at h; cases h; rfl
   subst hu
   cases r with
   | nil => cases hv; exact ⟨(d, key, l), by simp [spF], rfl⟩
   | cons i r =>
     simp only [atT] at hv
     cases hk : zH l i with
     | none => rw [hk] at hv; cases hv
     | some w =>
       rw [hk] at hv
       obtain ⟨x, h1, h2⟩ := JN l (d + 1) i r w v hk hv
       exact ⟨x, by simp [spF, h1], h2⟩
 | .node b o key l q, d, k + 1, r, u, v, h, hv => by
   obtain ⟨x, h1, h2⟩ := JN q d k r u v (by simpa [zH, zt] using h) hv
   exact ⟨x, by simp [spF, h1], h2⟩
theorem zcI {t u : Tr} {p : List Nat} (h : atT t p = some u) : ∃ x ∈ spF 1 (zm t), zbs x = u :=
 JN (zm t) 1 0 p t u rfl h
end Go.Proofs.YtonapijgfalpaaaGreat
namespace Go.Proofs.YtonapijgfalpaaaGreat
open Go.RowKit Go.Shelf
open Go.Maps
def zdW : List Int → List Int → Int → Int
 | _, [], e => e
 | l, i :: r, e => if i < 1 ∨ 1125899906842624 < i then 2 else zdW (l ++ [i]) r (if l.any (· == i) = true then 60 else e)
theorem zbI {w : World} {b n : Nat} {l : List Int} {i : Int} (h : w.ownsMap Tryz.prog 3 (unitElem (H := Value)) b n ((setOf (.agg []) (l.map (Lit.int .i64 ·))).put (.int .i64 i) (.agg []))) : qW w b n (l ++ [i]) := by
 unfold qW
 rw [List.map_append, List.map_cons, List.map_nil, setOf_snoc]; exact h
theorem QZ {l : List Int} {k : Nat} {x : Int} (h : l[k]? = some x) : l.drop k = x :: l.drop (k + 1) := by
 obtain ⟨hk, e⟩ := List.getElem?_eq_some_iff.1 h
 rw [List.drop_eq_getElem_cons hk, e]
theorem YD {w : World} {B n cap : Nat} {a : Option Addr} {l : List Int} (h : w.ownsRow B 3 1 (.slice a n cap) n (l.map qF)) (hn : 0 < n) : ∃ g, a = some ⟨g, 0, none⟩ ∧ n ≤ cap ∧ g < w.heap.size ∧ ∀ k x, l[k]? = some x → w.cell? ⟨g, k, none⟩ = some (.int .i64 x) := by
 rcases h.2 with ⟨hv, h0⟩ | ⟨g, c', cur, hv, hB, hh, h3, _⟩
 · omega
 · cases hv
   exact ⟨g, rfl, h3, lt_of_some hh, fun k x hx => zy h rfl k _ (by rw [List.getElem?_map, hx]; rfl)⟩
def zbg (w W : World) (mb : Nat) (l : List Int) (n : Nat) (X : World) : Prop := qW X mb n l ∧ Below w.heap.size w X ∧ (∀ y, y < W.heap.size → y ≠ mb → X.heap[y]? = W.heap[y]?) ∧ W.heap.size ≤ X.heap.size
theorem zbg.add {w W X Y Z : World} {mb n : Nat} {l : List Int} {i : Int} (h : zbg w W mb l n X) (hY : Below X.heap.size X Y) (hg : Y.grownBy Z (some mb)) (ho : qW Z mb (n + 1) (l ++ [i])) (hw : w.heap.size ≤ mb) (hWX : w.heap.size ≤ W.heap.size) : zbg w W mb (l ++ [i]) (n + 1) Z := by
 obtain ⟨h1, h2, h3, h4⟩ := h
 have h5 : ∀ y, y < X.heap.size → y ≠ mb → Z.heap[y]? = X.heap[y]? := fun y hy hne => (hg.block y (nL hy hY.size) (fun e => hne (Option.some.inj e))).trans (hY.block y hy)
 have h6 : X.heap.size ≤ Z.heap.size := Nat.le_trans hY.size hg.size
 have h7 := h2.size
 exact ⟨ho, ⟨(hg.os.trans hY.os).trans h2.os, (hg.tape.trans hY.tape).trans h2.tape, (hg.output.trans hY.output).trans h2.output, Nat.le_trans h2.size h6, fun y hy => (h5 y (by omega) (by omega)).trans (h2.block y hy)⟩, fun y hy hne => (h5 y (by omega) hne).trans (h3 y hy hne), Nat.le_trans h4 h6⟩
end Go.Proofs.YtonapijgfalpaaaGreat
namespace Go.Proofs.YtonapijgfalpaaaGreat
open Go.RowKit Go.Shelf
structure Tc (W X : World) (R : Nat) : Prop where
 os : X.os = W.os
 tape : X.tape = W.tape
 output : X.output = W.output
 size : W.heap.size ≤ X.heap.size
 block : ∀ y, y < W.heap.size → y ≠ R → X.heap[y]? = W.heap[y]?
theorem Tc.of {W X : World} {R : Nat} (h : Below W.heap.size W X) : Tc W X R := ⟨h.os, h.tape, h.output, h.size, fun y hy _ => h.block y hy⟩
theorem Tc.then {W X Y : World} {R : Nat} (h : Tc W X R) (k : Below X.heap.size X Y) : Tc W Y R := ⟨k.os.trans h.os, k.tape.trans h.tape, k.output.trans h.output, Nat.le_trans h.size k.size, fun y hy hn => (k.block y (nL hy h.size)).trans (h.block y hy hn)⟩
theorem Tc.below {w W X : World} {R : Nat} (h : Tc W X R) (k : Below w.heap.size w W) (hR : w.heap.size ≤ R) : Below w.heap.size w X := ⟨h.os.trans k.os, h.tape.trans k.tape, h.output.trans k.output, Nat.le_trans k.size h.size, fun y hy => (h.block y (nL hy k.size) (by omega)).trans (k.block y hy)⟩
def Yy (par at_ : Int) (x t : Tr) : Tr × Int := if (Yt par at_ t x).2 = 0 then ((Yt par at_ t x).1, zdW (idT t) (idT x) 0) else (zA, (Yt par at_ t x).2)
theorem zbt (id par at_ : Int) (t : Tr) : ze (vT id par at_ t).1.kids ≤ ze t.kids + 1 := by
 unfold vT
 split
 · split
   · simp [zA, ze]
   · split
     · simp [zA, ze]
     · exact Nat.le_trans (Ji _ _ _ _) (Nat.succ_le_succ (Qv _ _ _))
 · simp [zA, ze]
end Go.Proofs.YtonapijgfalpaaaGreat
namespace Go.Proofs.YtonapijgfalpaaaGreat
open Go.ChangeShapes Go.WideShapes Go.ChangeAt Go.RowKit
open Extern.Stop (cell)
theorem zcw {w : World} {a : Addr} {v : Value} (h : w.cell? a = some v) : a.block < w.heap.size := block_lt_of_cell h
theorem QF (a : Addr) (j : Nat) : (a.add j).block = a.block := by unfold Addr.add; split <;> rfl
def Jw : List Tr → Fo
 | [] => .nil
 | t :: l => .node 0 0 (t.id, t.kind, t.text) t.kids (Jw l)
theorem zaw : ∀ l : List Tr, zb (Jw l) = l.length
 | [] => rfl
 | _ :: l => by simp [Jw, zb, zaw l]
theorem za4 : ∀ l : List Tr, (∀ t ∈ l, zb t.kids ≤ 9223372036854775807 ∧ jv t.kids) → jv (Jw l)
 | [], _ => True.intro
 | t :: l, h => ⟨(h t (List.mem_cons_self ..)).1, (h t (List.mem_cons_self ..)).2, za4 l fun u hu => h u (List.mem_cons_of_mem _ hu)⟩
theorem zcu {w : World} {S : Nat → Prop} {b : Nat} (hb : S b) : ∀ (l : List Tr) (off : Nat), (∀ i t, l[i]? = some t → ∃ ka cap, w.cell? ⟨b, off + i * 4, none⟩ = some (.int .i64 t.id) ∧ w.cell? ⟨b, off + i * 4 + 1, none⟩ = some (.int .i64 t.kind) ∧
 w.cell? ⟨b, off + i * 4 + 2, none⟩ = some (.string t.text) ∧ w.cell? ⟨b, off + i * 4 + 3, none⟩ = some (.slice ka (zb t.kids) cap) ∧ zb t.kids ≤ cap ∧ zF w S t.kids ka) → zF w S (Jw l) (some ⟨b, off, none⟩)
 | [], _, _ => True.intro
 | t :: l, off, h => by
   obtain ⟨ka, cap, h0, h1, h2, h3, hcp, hf⟩ := h 0 t rfl
   refine ⟨b, off, ka, cap, rfl, hb, by simpa using h0, by simpa using h1, by simpa using h2, by simpa using h3, hcp, hf, zcu hb l (off + 4) fun i u hu => ?_⟩
   obtain ⟨ka, cap, h0, h1, h2, h3, hcp, hf⟩ := h (i + 1) u (by simpa using hu)
   rw [show off + (i + 1) * 4 = off + 4 + i * 4 by omega] at h0 h1 h2 h3
   exact ⟨ka, cap, h0, h1, h2, h3, hcp, hf⟩
def Old (w : World) : Nat → Prop := fun k => k < w.heap.size
def zcm (k : Int × Int × ByteArray) : Prop := (k.2.2.size : Int) ≤ 9223372036854775807 ∧ (Lit.int .i64 k.1).wf = true
def zcT : Fo → Prop
 | .nil => True
 | .node _ _ k l r => zcm k ∧ zcT l ∧ zcT r
theorem zb4 : ∀ (d : Nat) (f : Fo), zcT f → okF (spF d f)
 | _, .nil, _ => fun x hx => by cases hx
 | d, .node _ _ k l r, h => fun x hx => by
   simp only [spF, List.mem_cons, List.mem_append] at hx
   rcases hx with rfl | hx | hx
   · exact h.1
   · exact zb4 (d + 1) l h.2.1 x hx
   · exact zb4 d r h.2.2 x hx
def Fits (t : Tr) : Prop := zb t.kids ≤ 9223372036854775807 ∧ jv t.kids ∧ zcm (t.id, t.kind, t.text) ∧ zcT t.kids
theorem zcv : ∀ l : List Tr, (∀ t ∈ l, zcm (t.id, t.kind, t.text) ∧ zcT t.kids) → zcT (Jw l)
 | [], _ => True.intro
 | t :: l, h => ⟨(h t (List.mem_cons_self ..)).1, (h t (List.mem_cons_self ..)).2, zcv l fun u hu => h u (List.mem_cons_of_mem _ hu)⟩
section
variable {H : Type} {enc : TypeId × Value → H} {w : World} {base : Nat} {spare : Nat → Bool} {held : Bool}
theorem zbY : ∀ (fuel : Nat) (cs : List Value) (x : DataW H × List MemPlace), DataW.trod enc Tryz.prog w base spare held fuel 37 cs = some x →
 ∃ (t : Tr) (ka : Option Addr) (cap : Nat), cs = [.int .i64 t.id, .int .i64 t.kind, .string t.text, .slice ka (zb t.kids) cap] ∧ zb t.kids ≤ cap ∧ zF w (Old w) t.kids ka ∧ Fits t := by
 intro fuel
 induction fuel using Nat.strongRecOn with
 | ind fuel ih =>
   intro cs x h
   obtain ⟨xs, n, hn, _, hl, hlen, hf⟩ := DataW.trod_struct Tryz.underlying37 h
   have h4 : Tryz.prog.cellsOf 37 = 4 := by kernel_rfl
   rw [h4] at hl
   match cs, hl with
   | [c0, c1, c2, c3], _ =>
     have k1 : Tryz.prog.cellsOf 3 = 1 := by kernel_rfl
     have k2 : Tryz.prog.cellsOf 9 = 1 := by kernel_rfl
     have k3 : Tryz.prog.cellsOf 35 = 1 := by kernel_rfl
     match xs, hlen with
     | [y0, y1, y2, y3], _ =>
       have t0 : DataW.trod enc Tryz.prog w base spare held n 3 (([c0, c1, c2, c3].drop 0).take (Tryz.prog.cellsOf 3)) = some y0 := hf 0 _ rfl
       have t1 : DataW.trod enc Tryz.prog w base spare held n 3 (([c0, c1, c2, c3].drop 1).take (Tryz.prog.cellsOf 3)) = some y1 := hf 1 _ rfl
       have t2 : DataW.trod enc Tryz.prog w base spare held n 9 (([c0, c1, c2, c3].drop 2).take (Tryz.prog.cellsOf 9)) = some y2 := hf 2 _ rfl
       have t3 : DataW.trod enc Tryz.prog w base spare held n 35 (([c0, c1, c2, c3].drop 3).take (Tryz.prog.cellsOf 35)) = some y3 := hf 3 _ rfl
       simp only [k1, k2, k3, List.drop_zero, List.take_succ_cons, List.take_zero, List.drop_succ_cons] at t0 t1 t2 t3
       obtain ⟨id, e0, _, wf0⟩ := DataW.trod_int Tryz.underlying3 t0
       obtain ⟨kd, e1, _, _⟩ := DataW.trod_int Tryz.underlying3 t1
       obtain ⟨tx, e2, _, hsz⟩ := DataW.trod_string Tryz.underlying9 t2
       have hkey : zcm (id, kd, tx) := ⟨by show (tx.size : Int) ≤ _; unfold maxLen at hsz; omega, wf0⟩
       simp only [List.cons.injEq, and_true] at e0 e1 e2
       subst e0; subst e1; subst e2
       rcases DataW.trod_slice Tryz.underlying35 t3 with ⟨e3, _⟩ | ⟨ad, len, cap, elems, rest, m, hm, e3, _, _, hlc, hcm, _, hi, _⟩
       · simp only [List.cons.injEq, and_true] at e3
         subst e3
         exact ⟨⟨id, kd, tx, .nil⟩, none, 0, rfl, Nat.le_refl _, True.intro, Nat.zero_le _, True.intro, hkey, True.intro⟩
       · simp only [List.cons.injEq, and_true] at e3
         subst e3
         rw [h4] at hi
         have each : ∀ i, i < len → ∃ (u : Tr), ∃ (ka : Option Addr) (kcap : Nat), w.cell? (ad.add (i * 4)) = some (.int .i64 u.id) ∧ w.cell? (ad.add (i * 4 + 1)) = some (.int .i64 u.kind) ∧ w.cell? (ad.add (i * 4 + 2)) = some (.string u.text) ∧
          w.cell? (ad.add (i * 4 + 3)) = some (.slice ka (zb u.kids) kcap) ∧ zb u.kids ≤ kcap ∧ zF w (Old w) u.kids ka ∧ Fits u := fun i hil => by
          have h1 := hi i hil
          obtain ⟨y, hy⟩ : ∃ y, elems[i]? = some y := ⟨elems[i]'(by omega), List.getElem?_eq_getElem _⟩
          rw [hy, Option.bind_eq_some_iff] at h1
          obtain ⟨cs', hc, ht⟩ := h1
          obtain ⟨_, _, hat⟩ := World.cells?_some hc
          obtain ⟨u, ka, kcap, rfl, hcp, hfo, hft⟩ := ih m (by omega) cs' y ht
          have a0 := hat 0 (by omega)
          have a1 := hat 1 (by omega)
          have a2 := hat 2 (by omega)
          have a3 := hat 3 (by omega)
          rw [Deep.add_add] at a0 a1 a2 a3
          exact ⟨u, ka, kcap, a0, a1, a2, a3, hcp, hfo, hft⟩
         obtain ⟨f, hff⟩ := Deep.choose_lt each
         have hls : zb (Jw ((List.range len).map f)) = len := by rw [zaw]; simp
         refine ⟨⟨id, kd, tx, Jw ((List.range len).map f)⟩, some ad, cap, by rw [hls], by rw [hls]; exact hlc, ?_, ?_, ?_, hkey, ?_⟩
         · cases hl0 : len with
           | zero => exact True.intro
           | succ len' =>
             rw [← hl0]
             obtain ⟨b, off, spot⟩ := ad
             obtain ⟨_, _, hz, _⟩ := hff 0 (by omega)
             have hsp : spot = none := by simpa [Addr.add] using World.cell?_spot hz
             subst hsp
             have hlt := zcw hz
             rw [QF] at hlt
             refine zcu (show Old w b from hlt) _ off fun i u hu => ?_
             rw [List.getElem?_map, Option.map_eq_some_iff] at hu
             obtain ⟨j, hj, rfl⟩ := hu
             obtain ⟨hlt', rfl⟩ := List.getElem?_eq_some_iff.1 hj
             simp only [List.length_range] at hlt'
             simp only [List.getElem_range]
             obtain ⟨ka, kcap, h0, h1, h2, h3, hcp, hfo, _⟩ := hff i hlt'
             rw [Addr.add_mid] at h0 h1 h2 h3
             exact ⟨ka, kcap, h0, by rw [Nat.add_assoc]; exact h1, by rw [Nat.add_assoc]; exact h2, by rw [Nat.add_assoc]; exact h3, hcp, hfo⟩
         · show zb (Jw ((List.range len).map f)) ≤ _
           rw [hls]; unfold maxLen at hcm; omega
         · refine za4 _ fun u hu => ?_
           simp only [List.mem_map, List.mem_range] at hu
           obtain ⟨i, hil, rfl⟩ := hu
           obtain ⟨_, _, _, _, _, _, _, _, hft⟩ := hff i hil
           exact ⟨hft.1, hft.2.1⟩
         · refine zcv _ fun u hu => ?_
           simp only [List.mem_map, List.mem_range] at hu
           obtain ⟨i, hil, rfl⟩ := hu
           obtain ⟨_, _, _, _, _, _, _, _, hft⟩ := hff i hil
           exact hft.2.2
theorem zbO (fuel : Nat) (cs : List Value) (x : DataW H × List MemPlace) (h : DataW.trod enc Tryz.prog w base spare held fuel 49 cs = some x) :
 ∃ (op id par at_ : Int) (tx : ByteArray) (u : Tr) (ka : Option Addr) (cap : Nat), cs = [.int .i8 op, .int .i64 id, .int .i64 par, .int .i64 at_, .string tx, .int .i64 u.id, .int .i64 u.kind, .string u.text, .slice ka (zb u.kids) cap] ∧ zb u.kids ≤ cap ∧ zF w (Old w) u.kids ka ∧ Fits u ∧ ((Lit.int .i8 op).wf = true ∧ (Lit.int .i64 id).wf = true ∧ (Lit.int .i64 par).wf = true ∧ (Lit.int .i64 at_).wf = true) ∧ (tx.size : Int) ≤ 9223372036854775807 := by
 obtain ⟨xs, n, _, _, hl, hlen, hf⟩ := DataW.trod_struct Tryz.underlying49 h
 have h9 : Tryz.prog.cellsOf 49 = 9 := by kernel_rfl
 rw [h9] at hl
 match cs, hl with
 | [c0, c1, c2, c3, c4, c5, c6, c7, c8], _ =>
   have k1 : Tryz.prog.cellsOf 3 = 1 := by kernel_rfl
   have k2 : Tryz.prog.cellsOf 9 = 1 := by kernel_rfl
   have k3 : Tryz.prog.cellsOf 37 = 4 := by kernel_rfl
   have k4 : Tryz.prog.cellsOf 47 = 1 := by kernel_rfl
   match xs, hlen with
   | [y0, y1, y2, y3, y4, y5], _ =>
     have t0 : DataW.trod enc Tryz.prog w base spare held n 47 (([c0, c1, c2, c3, c4, c5, c6, c7, c8].drop 0).take (Tryz.prog.cellsOf 47)) = some y0 := hf 0 _ rfl
     have t1 : DataW.trod enc Tryz.prog w base spare held n 3 (([c0, c1, c2, c3, c4, c5, c6, c7, c8].drop 1).take (Tryz.prog.cellsOf 3)) = some y1 := hf 1 _ rfl
     have t2 : DataW.trod enc Tryz.prog w base spare held n 3 (([c0, c1, c2, c3, c4, c5, c6, c7, c8].drop 2).take (Tryz.prog.cellsOf 3)) = some y2 := hf 2 _ rfl
     have t3 : DataW.trod enc Tryz.prog w base spare held n 3 (([c0, c1, c2, c3, c4, c5, c6, c7, c8].drop 3).take (Tryz.prog.cellsOf 3)) = some y3 := hf 3 _ rfl
     have t4 : DataW.trod enc Tryz.prog w base spare held n 9 (([c0, c1, c2, c3, c4, c5, c6, c7, c8].drop 4).take (Tryz.prog.cellsOf 9)) = some y4 := hf 4 _ rfl
     have t5 : DataW.trod enc Tryz.prog w base spare held n 37 (([c0, c1, c2, c3, c4, c5, c6, c7, c8].drop 5).take (Tryz.prog.cellsOf 37)) = some y5 := hf 5 _ rfl
     simp only [k1, k2, k3, k4, List.drop_zero, List.take_succ_cons, List.take_zero, List.drop_succ_cons] at t0 t1 t2 t3 t4 t5
     obtain ⟨op, e0, _, b0⟩ := DataW.trod_int Tryz.underlying47 t0
     obtain ⟨id, e1, _, b1⟩ := DataW.trod_int Tryz.underlying3 t1
     obtain ⟨pa, e2, _, b2⟩ := DataW.trod_int Tryz.underlying3 t2
     obtain ⟨pl, e3, _, b3⟩ := DataW.trod_int Tryz.underlying3 t3
     obtain ⟨tx, e4, _, b4⟩ := DataW.trod_string Tryz.underlying9 t4
     obtain ⟨u, ka, cap, e5, hcp, hfo, hft⟩ := zbY n _ y5 t5
     simp only [List.cons.injEq, and_true] at e0 e1 e2 e3 e4 e5
     obtain ⟨rfl, rfl, rfl, rfl⟩ := e5
     subst e0; subst e1; subst e2; subst e3; subst e4
     exact ⟨op, id, pa, pl, tx, u, ka, cap, rfl, hcp, hfo, hft, ⟨b0, b1, b2, b3⟩, by unfold maxLen at b4; omega⟩
end
end Go.Proofs.YtonapijgfalpaaaGreat
