/-
  .
-/
import Derived.Test.YtonapijgfalpaaaGreatVWalkQw
import Derived.OwnWalk
import Derived.Deep.RegionHeld3
import Derived.StillTailTactics
import Derived.Test.YtonapijgfalpaaaGreatVNodeQw
import Derived.Maps.OwnIn
import Derived.Lib.SlKeysI
import Derived.Shelf.SlGeneric
import Derived.Shelf.SlIterI.Nil
import Derived.Shelf.SortM.Plain
import Derived.Shelf.SortM.SortNone
import Derived.Ground.GgzProg
import Derived.Ground.SlgmProg
import Derived.Test.YtonapijgfalpaaaGreatProg
import Derived.Test.YtonapijgfalpaaaGreatJPgQw
set_option maxRecDepth 100000
set_option maxHeartbeats 40000000
set_option linter.unusedVariables false
set_option linter.unusedSimpArgs false
namespace Go.Proofs.YtonapijgfalpaaaGreat
open Go.RowKit
theorem Tryz.kw : (Tryz.prog.info? 3).map (fun i => (i.zero, i.size, i.bytes)) = some (some (.int .i64 0), 1, 8) := by kernel_rfl
def qF (n : Int) : Value := .int .i64 n
theorem Yo {w : World} {B : Nat} {a : Option Addr} {c : Nat} {l : List Int} (h : w.ownsRow B 3 1 (.slice a l.length c) l.length (l.map qF)) {k : Nat} {x : Int} (hx : l[k]? = some x) : ∃ g, a = some ⟨g, 0, none⟩ ∧ w.cell? ⟨g, k, none⟩ = some (.int .i64 x) := by
 have hgg : ∃ g, a = some ⟨g, 0, none⟩ := by
  rcases h.2 with ⟨_, h0⟩ | ⟨g, cap2, cur, hv, _⟩
  · have := (List.getElem?_eq_some_iff.1 hx).1; omega
  · cases hv; exact ⟨g, rfl⟩
 obtain ⟨g, rfl⟩ := hgg
 exact ⟨g, rfl, zy h rfl k _ (by rw [List.getElem?_map, hx]; rfl)⟩
theorem take_same {l1 l2 : List Int} {k : Nat} {x : Int} (h : l1.take k = l2.take k) (h1 : l1[k]? = some x) (h2 : l2[k]? = some x) : l1.take (k + 1) = l2.take (k + 1) := by
 rw [List.take_add_one, List.take_add_one, h, h1, h2]
end Go.Proofs.YtonapijgfalpaaaGreat
namespace Go.Proofs.YtonapijgfalpaaaGreat
open Go.RowKit Go.Shelf
open Go.Maps
attribute [local go_sem] Oper.semAt_some
def qW (w : World) (b n : Nat) (ids : List Int) : Prop := w.ownsMap Tryz.prog 3 (unitElem (H := Value)) b n (setOf (.agg []) (ids.map (Lit.int .i64 ·)))
theorem qW.at {w w' : World} {b n : Nat} {ids : List Int} (h : qW w b n ids) (e : w'.heap[b]? = w.heap[b]?) : qW w' b n ids := by
 obtain ⟨es, clock, hb, h⟩ := h
 exact ⟨es, clock, e.trans hb, h⟩
theorem zad : Keyed Tryz.prog 3 := int_keyed Tryz.underlying3
theorem zab (w : World) : (zeroValue 69).run Tryz.prog w = .ok (.agg #[]) w := by kernel_rfl
theorem zaf {a b : Int} : (Lit.int .i64 a).sameKey (.int .i64 b) = (a == b) := by
 by_cases h : a = b
 · subst h; simp [Lit.sameKey]
 · rw [sameKey_ne (by simpa using h)]; simp [h]
theorem kI (ids : List Int) (i : Int) : Maps.has (setOf (.agg [] : DataW Value) (ids.map (Lit.int .i64 ·))) (.int .i64 i) = ids.any (· == i) := by
 rw [has_setOf]
 · rw [List.any_map]; congr 1; funext a; exact zaf
 · intro x hx
   obtain ⟨a, _, rfl⟩ := List.mem_map.1 hx
   trivial
def atB (g : Gr) (ids : List Int) (d : Nat) (x : Tr) : Bool := decide (32 < d) || (decide (x.id < 1) || decide (1125899906842624 < x.id)) || ids.any (· == x.id) || !za1 g x
theorem za9 (w : World) (S : Nat → Prop) (gv : Value) (g : Gr) (mb mn : Nat) (ids : List Int) (d : Nat) (x : Tr) (b off cap : Nat) (ka : Option Addr) (hg : GrV w gv g) (hf : g.few) (hS : ∀ y, S y → y < w.heap.size) (hSb : S b)
 (hc0 : w.cell? ⟨b, off, none⟩ = some (.int .i64 x.id)) (hc1 : w.cell? ⟨b, off + 1, none⟩ = some (.int .i64 x.kind)) (hc2 : w.cell? ⟨b, off + 2, none⟩ = some (.string x.text)) (hc3 : w.cell? ⟨b, off + 3, none⟩ = some (.slice ka (zb x.kids) cap)) (hcap : zb x.kids ≤ cap) (hk : zF w S x.kids ka)
 (hn : zb x.kids ≤ 1000000) (hts : (x.text.size : Int) ≤ 9223372036854775807) (hid : (Lit.int .i64 x.id).wf = true) (hm : qW w mb mn ids) :
 Calls Tryz.prog 132 #[gv, .map (some mb), .int .i64 (d : Int), .pointer (some ⟨b, off, none⟩)] w (Says (atB g ids d x) w) := by
 obtain ⟨ga, gc, rfl, hgk⟩ := hg
 obtain ⟨n, hn0⟩ : ∃ n, n = zb x.kids := ⟨_, rfl⟩
 obtain ⟨gn, hgn⟩ : ∃ gn, gn = g.kinds.length := ⟨_, rfl⟩
 rw [← hn0] at hc3
 rw [← hgn]
 have hal := zg [.cells #[.slice ga gn gc, .int .i64 g.root] 34, .cells #[] 69] w
 have hab := zk [.cells #[.slice ga gn gc, .int .i64 g.root] 34, .cells #[] 69] w
 have hab1 := zk [.cells #[.slice ga gn gc, .int .i64 g.root] 34] w
 have kx := hal 0 _ rfl
 rw [Nat.add_zero] at kx
 obtain ⟨V, hV⟩ : ∃ V, V = zo w [.cells #[.slice ga gn gc, .int .i64 g.root] 34, .cells #[] 69] := ⟨_, rfl⟩
 rw [← hV] at kx hab
 have hbw := hS b hSb
 have hb4 : ∀ X : World, Below w.heap.size w X → X.cell? ⟨b, off, none⟩ = some (.int .i64 x.id) ∧ X.cell? ⟨b, off + 1, none⟩ = some (.int .i64 x.kind) ∧ X.cell? ⟨b, off + 2, none⟩ = some (.string x.text) ∧ X.cell? ⟨b, off + 3, none⟩ = some (.slice ka n cap) := fun X h =>
  ⟨(World.cell?_of_block (a := ⟨b, off, none⟩) (h.block b hbw)).trans hc0, (World.cell?_of_block (a := ⟨b, off + 1, none⟩) (h.block b hbw)).trans hc1, (World.cell?_of_block (a := ⟨b, off + 2, none⟩) (h.block b hbw)).trans hc2, (World.cell?_of_block (a := ⟨b, off + 3, none⟩) (h.block b hbw)).trans hc3⟩
 obtain ⟨SX, hSX⟩ : ∃ SX : World → Prop, SX = fun X => Below V.heap.size V X := ⟨_, rfl⟩
 have hwX : ∀ X, SX X → Below w.heap.size w X := fun X h => by rw [hSX] at h; exact hab.trans (h.mono hab.size)
 have HSx : ∀ X, SX X → X.cell? ⟨w.heap.size, 0, none⟩ = some (.slice ga gn gc) ∧ X.cell? ⟨w.heap.size, 1, none⟩ = some (.int .i64 g.root) ∧ X.cell? ⟨b, off, none⟩ = some (.int .i64 x.id) ∧ X.cell? ⟨b, off + 1, none⟩ = some (.int .i64 x.kind) ∧ X.cell? ⟨b, off + 2, none⟩ = some (.string x.text) ∧ X.cell? ⟨b, off + 3, none⟩ = some (.slice ka n cap) := fun X h => by
  have h4 := hb4 X (hwX X h)
  rw [hSX] at h
  obtain ⟨a0, a1⟩ := zeV ((h.block _ (lt_of_heap kx)).trans kx)
  exact ⟨a0, a1, h4⟩
 have hS0 : SX V.drew := by rw [hSX]; exact ⟨rfl, rfl, rfl, Nat.le_refl _, fun _ _ => rfl⟩
 have HSB := hH (fun (X Y : World) (h : SX X) (hb : Below X.heap.size X Y) => (show SX Y by rw [hSX] at h ⊢; exact h.trans (hb.mono h.size)))
 obtain ⟨nb, hnb⟩ : ∃ nb, nb = za1 g x := ⟨_, rfl⟩
 have HND : Hid (∀ X, SX X → Calls Tryz.prog 146 #[.agg #[.slice ga gn gc, .int .i64 g.root], .agg #[.int .i64 x.id, .int .i64 x.kind, .string x.text, .slice ka n cap]] X (Says nb X)) := hH fun X h => by
  have := zcV X S (.agg #[.slice ga gn gc, .int .i64 g.root]) g (.agg #[.int .i64 x.id, .int .i64 x.kind, .string x.text, .slice ka n cap]) x ⟨ga, gc, by rw [hgn], hgk.below (hwX X h)⟩ hf (fun y hy => nL (hS y hy) (hwX X h).size) ⟨ka, cap, by rw [hn0], hcap, hk.below (hwX X h) hS⟩ hn hts
  rw [← hnb] at this; exact this
 have HNB := hH hnb
 have HFIN := hH hwX
 have HV := hH hV
 obtain ⟨hb, hhb⟩ : ∃ hb, hb = ids.any (· == x.id) := ⟨_, rfl⟩
 have HHB := hH hhb
 have HA := hH (show atB g ids d x = (decide (32 < d) || (decide (x.id < 1) || decide (1125899906842624 < x.id)) || ids.any (· == x.id) || !za1 g x) from rfl)
 have HKEY := hH (keyOf_int_mk (P := Tryz.prog) Tryz.underlying3 hid)
 have hb1 := hb4 _ hab1
 have HM1 := hH (hm.at (hab1.block mb (World.ownsMap.lt hm)))
 obtain ⟨q0, _, _, _⟩ := hb4 V hab
 rw [hV] at q0
 have hSV : SX V := by rw [hSX]; exact Below.refl _ V
 have HVF := hH (show Below w.heap.size w (zo w [.cells #[.slice ga gn gc, .int .i64 g.root] 34, .cells #[] 69]) by rw [← hV]; exact hwX V hSV)
 obtain ⟨p0, _, _, _⟩ := hb1
 change (w.alloc (.cells #[.slice ga gn gc, .int .i64 g.root] 34)).cell? _ = _ at p0
 change ((w.alloc (.cells #[.slice ga gn gc, .int .i64 g.root] 34)).alloc (.cells #[] 69)).cell? _ = _ at q0
 clear hS hSb hc0 hc1 hc2 hc3 hcap hk hn hts hf hgk hn0 hgn hal hab hab1 kx hwX hSX hSV hb4 hbw hid hm hnb hhb hV
 refine (callsIn_wide (n := 8)).1 ?_
 refine callsIn_of_wp_marks Tryz.func132 rfl trivial ?_ rfl
 simp only [Tryz.ntmps132, List.size_toArray, List.length_cons, List.length_nil, Nat.reduceAdd, Nat.reduceSub, Array.replicate_succ, Array.replicate_zero, List.push_toArray, List.append_toArray, List.nil_append, List.cons_append]
 by_cases h32 : 32 < d
 · have hd : (32 : Int) < (d : Int) := by omega
   have HB := hH (show atB g ids d x = true by rw [HA.out]; simp [h32])
   clear h32 HSx hS0
   gi_wp2_with (gi_at_lookup; (refine wpListIn_lookup_own_unit _ rfl _ _ 67 rfl 3 69 zad Tryz.underlying67 (zab _) mb mn _ rfl HM1.out _ _ rfl HKEY.out ?_); rw [kI, ← HHB.out]; clear p0)
   exact ⟨_, results_tmp rfl _ _ _, by rw [HB.out]; rfl, HVF.out⟩
 · have hd : ¬ (32 : Int) < (d : Int) := by omega
   by_cases h1 : x.id < 1
   · have HB := hH (show atB g ids d x = true by rw [HA.out]; simp [h1])
     clear h32 HSx hS0
     gi_wp2_with (gi_at_lookup; (refine wpListIn_lookup_own_unit _ rfl _ _ 67 rfl 3 69 zad Tryz.underlying67 (zab _) mb mn _ rfl HM1.out _ _ rfl HKEY.out ?_); rw [kI, ← HHB.out]; clear p0)
     exact ⟨_, results_tmp rfl _ _ _, by rw [HB.out]; rfl, HVF.out⟩
   · by_cases hM : 1125899906842624 < x.id
     · have HB := hH (show atB g ids d x = true by rw [HA.out]; simp [hM])
       clear h32 HSx hS0
       gi_wp2_with (gi_at_lookup; (refine wpListIn_lookup_own_unit _ rfl _ _ 67 rfl 3 69 zad Tryz.underlying67 (zab _) mb mn _ rfl HM1.out _ _ rfl HKEY.out ?_); rw [kI, ← HHB.out]; clear p0)
       exact ⟨_, results_tmp rfl _ _ _, by rw [HB.out]; rfl, HVF.out⟩
     · cases hb
       · have HB := hH (show atB g ids d x = !nb by rw [HA.out, ← HHB.out, ← HNB.out, decide_eq_false h32, decide_eq_false h1, decide_eq_false hM]; simp)
         clear h32
         gi_wp2_with (gi_at_lookup; (refine wpListIn_lookup_own_unit _ rfl _ _ 67 rfl 3 69 zad Tryz.underlying67 (zab _) mb mn _ rfl HM1.out _ _ rfl HKEY.out ?_); rw [kI, ← HHB.out]; clear p0)
         change Code.wpIn _ _ _ _ _ _ (zo w [.cells #[.slice ga gn gc, .int .i64 g.root] 34, .cells #[] 69])
         rw [← HV.out]
         refine Yc (S := SX) (by kernel_rfl) ?_
         have hHeld := hS0
         clear hS0 HVF q0
         refine zl (i := 0) (oi := _) (v := (.agg #[.slice ga gn gc, .int .i64 g.root])) rfl (by kernel_rfl) (by kernel_rfl) (by kernel_rfl) (fun _ _ _ h => by cases h.1) (Or.inl ⟨by rfl, ?_⟩) hHeld ?_
         · clear hHeld; intro X hSw; obtain ⟨s0, s1, s2, s3, s4, s5⟩ := HSx X hSw; clear hSw; go_simp
         simp only [Act.put, pg]
         refine zl (i := 1) (oi := _) (v := (.pointer (some ⟨b, off, none⟩))) rfl (by kernel_rfl) (by kernel_rfl) (by kernel_rfl) (fun _ _ _ h => by cases h.1) (Or.inl ⟨by rfl, ?_⟩) hHeld ?_
         · clear hHeld; intro X hSw; clear hSw; go_simp
         simp only [Act.put, pg]
         refine zl (i := 2) (oi := _) (v := (.pointer (some ⟨b, off, none⟩))) rfl (by kernel_rfl) (by kernel_rfl) (by kernel_rfl) (fun _ _ _ h => by cases h.1) (Or.inl ⟨by rfl, ?_⟩) hHeld ?_
         · clear hHeld; intro X hSw; clear hSw; go_simp
         simp only [Act.put, pg]
         refine zl (i := 3) (oi := _) (v := (.agg #[.int .i64 x.id, .int .i64 x.kind, .string x.text, .slice ka n cap])) rfl (by kernel_rfl) (by kernel_rfl) (by kernel_rfl) (fun _ _ _ h => by cases h.1) (Or.inl ⟨by rfl, ?_⟩) hHeld ?_
         · clear hHeld; intro X hSw; obtain ⟨s0, s1, s2, s3, s4, s5⟩ := HSx X hSw; clear hSw; go_simp
         simp only [Act.put, pg]
         refine zQ (i := 4) (o := _) (by kernel_rfl) rfl fun K4 hK4 => ?_
         rw [if_pos (by rfl)]
         simp only [pg3]
         have HK4 := hH hK4
         have HH4 := hH hHeld
         clear hK4 hHeld
         gi_wp2_with (refine ⟨trivial, ?_⟩; gi_at_call 146; refine (callsIn_wide.2 (HND.out _ HH4.out)).mono ?_; rintro e X4 ⟨rfl, hb⟩; have HX4 := hH hb; clear hb)
         have hHeld := HSB.out _ X4 HH4.out HX4.out
         refine HK4.out _ _ hHeld ?_
         clear HK4
         refine zl (i := 5) (oi := _) (v := (.bool (!nb))) rfl (by kernel_rfl) (by kernel_rfl) (by kernel_rfl) (fun _ _ _ h => by cases h.1) (Or.inl ⟨by rfl, ?_⟩) hHeld ?_
         · clear hHeld; intro X hSw; clear hSw; go_simp
         simp only [Act.put, pg]
         refine zl (i := 6) (oi := _) (v := (.bool (!nb))) rfl (by kernel_rfl) (by kernel_rfl) (by kernel_rfl) (fun _ _ _ h => by cases h.1) (Or.inl ⟨by rfl, ?_⟩) hHeld ?_
         · clear hHeld; intro X hSw; clear hSw; go_simp
         simp only [Act.put, pg]
         refine yI (by kernel_rfl) ⟨rfl, ?_⟩ _
         have HE := hH (HFIN.out _ hHeld)
         clear hHeld HSx
         cases nb
         · gi_wp2
           exact ⟨_, results_tmp rfl _ _ _, by rw [HB.out]; rfl, HE.out⟩
         · gi_wp2
           exact ⟨_, results_tmp rfl _ _ _, by rw [HB.out]; rfl, HE.out⟩
       · have HB := hH (show atB g ids d x = true by rw [HA.out, ← HHB.out]; simp)
         clear h32 HSx hS0
         gi_wp2_with (gi_at_lookup; (refine wpListIn_lookup_own_unit _ rfl _ _ 67 rfl 3 69 zad Tryz.underlying67 (zab _) mb mn _ rfl HM1.out _ _ rfl HKEY.out ?_); rw [kI, ← HHB.out]; clear p0)
         exact ⟨_, results_tmp rfl _ _ _, by rw [HB.out]; rfl, HVF.out⟩
end Go.Proofs.YtonapijgfalpaaaGreat
namespace Go.Proofs.YtonapijgfalpaaaGreat
def yJ : List Int → Int → List Int
 | [], n => [n]
 | x :: l, n => if n ≤ x then (if x = n then x :: l else n :: x :: l) else x :: yJ l n
def qD (l : List Int) : List Int := l.foldl yJ []
theorem ZG {n : Int} : ∀ {p q : List Int}, (∀ x ∈ p, x < n) → yJ (p ++ q) n = p ++ yJ q n
 | [], q, _ => rfl
 | x :: p, q, h => by
   have h1 := h x (List.mem_cons_self ..)
   rw [List.cons_append, yJ, if_neg (by omega), ZG fun y hy => h y (List.mem_cons_of_mem _ hy)]; rfl
theorem QG {n : Int} : ∀ {l : List Int} {y : Int}, y ∈ yJ l n ↔ y = n ∨ y ∈ l
 | [], y => by simp [yJ]
 | x :: l, y => by
   rw [yJ]
   split
   · split
     · rename_i _ h; subst h; simp
     · simp
   · rw [List.mem_cons, QG, List.mem_cons]
     constructor
     · rintro (h | h | h) <;> simp [h]
     · rintro (h | h | h) <;> simp [h]
theorem QS {n : Int} : ∀ {l : List Int}, l.Pairwise (· < ·) → (yJ l n).Pairwise (· < ·)
 | [], _ => by simp [yJ]
 | x :: l, h => by
   rw [List.pairwise_cons] at h
   rw [yJ]
   split
   · split
     · exact List.pairwise_cons.2 h
     · rename_i h1 h2
       refine List.pairwise_cons.2 ⟨fun y hy => ?_, List.pairwise_cons.2 h⟩
       rcases List.mem_cons.1 hy with e | hy
       · omega
       · have := h.1 y hy; omega
   · rename_i h1
     refine List.pairwise_cons.2 ⟨fun y hy => ?_, QS h.2⟩
     rcases QG.1 hy with e | hy
     · omega
     · exact h.1 y hy
theorem zaN (n : Int) : ∀ l : List Int, (yJ l n).length ≤ l.length + 1
 | [] => by simp [yJ]
 | x :: l => by
   rw [yJ]
   split
   · split <;> simp
   · have := zaN n l; rw [List.length_cons, List.length_cons]; omega
theorem jL : ∀ (l : List Int) {a : List Int}, a.Pairwise (· < ·) → (l.foldl yJ a).Pairwise (· < ·)
 | [], _, h => h
 | x :: l, _, h => jL l (QS h)
theorem j6 : ∀ (l : List Int) {a : List Int} {y : Int}, y ∈ l.foldl yJ a ↔ y ∈ a ∨ y ∈ l
 | [], _, _ => by simp
 | x :: l, a, y => by
   rw [List.foldl_cons, j6 l, QG, List.mem_cons]
   constructor
   · rintro ((h | h) | h) <;> simp [h]
   · rintro (h | h | h) <;> simp [h]
theorem Y5 (l : List Int) : (qD l).Pairwise (· < ·) := jL l List.Pairwise.nil
theorem ZP {l : List Int} {y : Int} : y ∈ qD l ↔ y ∈ l := by rw [qD, j6]; simp
theorem vR : ∀ (l a : List Int), (l.foldl yJ a).length ≤ a.length + l.length
 | [], a => by simp
 | x :: l, a => by
   have h1 := vR l (yJ a x)
   have h2 := zaN x a
   rw [List.foldl_cons, List.length_cons]; omega
theorem QP (l : List Int) : (qD l).length ≤ l.length := by have := vR l []; simpa [qD] using this
theorem zck : ∀ {a b : List Int}, a.Pairwise (· < ·) → b.Pairwise (· < ·) → (∀ x, x ∈ a ↔ x ∈ b) → a = b
 | [], [], _, _, _ => rfl
 | [], y :: b, _, _, h => absurd ((h y).2 (List.mem_cons_self ..)) (by simp)
 | x :: a, [], _, _, h => absurd ((h x).1 (List.mem_cons_self ..)) (by simp)
 | x :: a, y :: b, ha, hb, h => by
   rw [List.pairwise_cons] at ha hb
   have hxy : x = y := by
    rcases List.mem_cons.1 ((h x).1 (List.mem_cons_self ..)) with e | hx
    · exact e
    · rcases List.mem_cons.1 ((h y).2 (List.mem_cons_self ..)) with e | hy
      · exact e.symm
      · have h1 := ha.1 y hy
        have h2 := hb.1 x hx
        omega
   subst hxy
   rw [zck ha.2 hb.2 fun z => ?_]
   constructor
   · intro hz
     rcases List.mem_cons.1 ((h z).1 (List.mem_cons_of_mem _ hz)) with e | h'
     · have := ha.1 z hz; omega
     · exact h'
   · intro hz
     rcases List.mem_cons.1 ((h z).2 (List.mem_cons_of_mem _ hz)) with e | h'
     · have := hb.1 z hz; omega
     · exact h'
theorem zaR {l ss : List Int} (hnd : ss.Nodup) (hm : ∀ x, x ∈ ss ↔ x ∈ l) : ss.mergeSort leI = qD l := by
 have hp := List.mergeSort_perm ss leI
 refine zck ?_ (Y5 l) fun x => by rw [hp.mem_iff, hm, ZP]
 have h1 : (ss.mergeSort leI).Pairwise (fun a b => leI a b = true) := List.pairwise_mergeSort (fun a b c h1 h2 => by simp only [leI, decide_eq_true_eq] at *; exact Int.le_trans h1 h2) (fun a b => by simp only [leI, Bool.or_eq_true, decide_eq_true_eq]; exact Int.le_total a b) ss
 have h2 : (ss.mergeSort leI).Nodup := hp.nodup_iff.2 hnd
 refine (h1.and h2).imp ?_
 intro a b h
 have h3 : a ≤ b := by simpa [leI] using h.1
 have h4 : a ≠ b := h.2
 omega
end Go.Proofs.YtonapijgfalpaaaGreat
namespace Go.Proofs
open Go.Shelf
def Tryz.Jj : Go.Shelf.Ren := ⟨fun | 7 => 33 | 10 => 60 | n => n, fun | 23 => 67 | 26 => 3 | 3 => 69 | 28 => 72 | 0 => 0 | 27 => 71 | 33 => 100 | 4 => 4 | n => n, fun | n => n⟩
theorem Tryz.zfK : Go.Proofs.SlLaysZI.n7 Tryz.prog Tryz.Jj := {
 mixed := by kernel_rfl
 f7 := ⟨Tryz.f33.name, by decide, Tryz.func33.trans (congrArg some (by kernel_rfl))⟩
 f10 := ⟨Tryz.f60.name, by decide, Tryz.func60.trans (congrArg some (by kernel_rfl))⟩
 t0 := Tryz.underlying0
 a0 := Tryz.isAgg0
 z0 := Tryz.sizeOf0
 v0 := Tryz.zeroValue0
 t4 := Tryz.underlying4
 a4 := Tryz.isAgg4
 z4 := Tryz.sizeOf4
 v4 := Tryz.zeroValue4
 t23 := Tryz.underlying67
 a23 := Tryz.isAgg67
 z23 := Tryz.sizeOf67
 v23 := Tryz.zeroValue67
 t26 := Tryz.underlying3
 a26 := Tryz.isAgg3
 z26 := Tryz.sizeOf3
 v26 := Tryz.zeroValue3
 t27 := Tryz.underlying71
 a27 := Tryz.isAgg71
 z27 := Tryz.sizeOf71
 v27 := Tryz.zeroValue71
 t28 := Tryz.underlying72
 a28 := Tryz.isAgg72
 z28 := Tryz.sizeOf72
 v28 := Tryz.zeroValue72
 t33 := Tryz.underlying100
 a33 := Tryz.isAgg100
 z33 := Tryz.sizeOf100
 v33 := Tryz.zeroValue100 }
def Tryz.Yi : Go.Shelf.Ren := ⟨fun | 6 => 32 | 8 => 58 | 9 => 59 | 11 => 78 | 13 => 80 | 12 => 79 | 23 => 101 | 24 => 102 | 14 => 92 | 15 => 93 | 16 => 94 | 17 => 95 | 18 => 96 | 19 => 97 | 20 => 98 | 21 => 99 | 22 => 100 | 25 => 116 | 26 => 117 | 27 => 118 | 28 => 119 | 29 => 120 | 30 => 121 | 31 => 135 | n => n, fun | 26 => 3 | 28 => 72 | 24 => 30 | 0 => 0 | 3 => 3 | 37 => 129 | 48 => 152 | 50 => 154 | 4 => 4 | 40 => 144 | 39 => 143 | 45 => 149 | 5 => 5 | 9 => 9 | 51 => 157 | 55 => 161 | 57 => 179 | 58 => 180 | 33 => 100 | n => n, fun | n => n⟩
theorem Tryz.zfA : Go.Proofs.SlLaysZI.n6 Tryz.prog Tryz.Yi := {
 mixed := by kernel_rfl
 f6 := ⟨Tryz.f32.name, by decide, Tryz.func32.trans (congrArg some (by kernel_rfl))⟩
 f8 := ⟨Tryz.f58.name, by decide, Tryz.func58.trans (congrArg some (by kernel_rfl))⟩
 f11 := ⟨Tryz.f78.name, by decide, Tryz.func78.trans (congrArg some (by kernel_rfl))⟩
 t0 := Tryz.underlying0
 a0 := Tryz.isAgg0
 z0 := Tryz.sizeOf0
 v0 := Tryz.zeroValue0
 t24 := Tryz.underlying30
 a24 := Tryz.isAgg30
 z24 := Tryz.sizeOf30
 v24 := Tryz.zeroValue30
 t26 := Tryz.underlying3
 a26 := Tryz.isAgg3
 z26 := Tryz.sizeOf3
 v26 := Tryz.zeroValue3
 t28 := Tryz.underlying72
 a28 := Tryz.isAgg72
 z28 := Tryz.sizeOf72
 v28 := Tryz.zeroValue72
 i26 := by kernel_rfl }
def Tryz.zcR : Go.Shelf.Ren := ⟨fun | 5 => 59 | 8 => 80 | 7 => 79 | 19 => 101 | 20 => 102 | 10 => 92 | 11 => 93 | 12 => 94 | 13 => 95 | 14 => 96 | 15 => 97 | 16 => 98 | 17 => 99 | 18 => 100 | 30 => 116 | 31 => 117 | 32 => 118 | 33 => 119 | 34 => 120 | 35 => 121 | 40 => 135 | n => n, fun | 23 => 30 | 25 => 3 | 3 => 3 | 32 => 129 | 22 => 30 | 0 => 0 | 44 => 152 | 46 => 154 | 4 => 4 | 36 => 144 | 35 => 143 | 41 => 149 | 5 => 5 | 9 => 9 | 53 => 157 | 57 => 161 | 63 => 179 | 64 => 180 | n => n, fun | n => n⟩
theorem Tryz.zfL : Go.Proofs.SlLaysM.n5 Tryz.prog Tryz.zcR := {
 mixed := by kernel_rfl
 f5 := ⟨Tryz.f59.name, by decide, Tryz.func59.trans (congrArg some (by kernel_rfl))⟩
 f7 := ⟨Tryz.f79.name, by decide, Tryz.func79.trans (congrArg some (by kernel_rfl))⟩
 f8 := Tryz.func80.trans (congrArg some (by kernel_rfl))
 f10 := ⟨Tryz.f92.name, by decide, Tryz.func92.trans (congrArg some (by kernel_rfl))⟩
 f11 := ⟨Tryz.f93.name, by decide, Tryz.func93.trans (congrArg some (by kernel_rfl))⟩
 f12 := ⟨Tryz.f94.name, by decide, Tryz.func94.trans (congrArg some (by kernel_rfl))⟩
 f13 := ⟨Tryz.f95.name, by decide, Tryz.func95.trans (congrArg some (by kernel_rfl))⟩
 f14 := ⟨Tryz.f96.name, by decide, Tryz.func96.trans (congrArg some (by kernel_rfl))⟩
 f15 := ⟨Tryz.f97.name, by decide, Tryz.func97.trans (congrArg some (by kernel_rfl))⟩
 f16 := ⟨Tryz.f98.name, by decide, Tryz.func98.trans (congrArg some (by kernel_rfl))⟩
 f17 := ⟨Tryz.f99.name, by decide, Tryz.func99.trans (congrArg some (by kernel_rfl))⟩
 f18 := ⟨Tryz.f100.name, by decide, Tryz.func100.trans (congrArg some (by kernel_rfl))⟩
 f19 := Tryz.func101.trans (congrArg some (by kernel_rfl))
 f20 := Tryz.func102.trans (congrArg some (by kernel_rfl))
 f30 := ⟨Tryz.f116.name, by decide, Tryz.func116.trans (congrArg some (by kernel_rfl))⟩
 f31 := Tryz.func117.trans (congrArg some (by kernel_rfl))
 f32 := Tryz.func118.trans (congrArg some (by kernel_rfl))
 f33 := ⟨Tryz.f119.name, by decide, Tryz.func119.trans (congrArg some (by kernel_rfl))⟩
 f34 := ⟨Tryz.f120.name, by decide, Tryz.func120.trans (congrArg some (by kernel_rfl))⟩
 f35 := ⟨Tryz.f121.name, by decide, Tryz.func121.trans (congrArg some (by kernel_rfl))⟩
 f40 := ⟨Tryz.f135.name, by decide, Tryz.func135.trans (congrArg some (by kernel_rfl))⟩
 t0 := Tryz.underlying0
 a0 := Tryz.isAgg0
 z0 := Tryz.sizeOf0
 v0 := Tryz.zeroValue0
 t3 := Tryz.underlying3
 a3 := Tryz.isAgg3
 z3 := Tryz.sizeOf3
 v3 := Tryz.zeroValue3
 t4 := Tryz.underlying4
 a4 := Tryz.isAgg4
 z4 := Tryz.sizeOf4
 v4 := Tryz.zeroValue4
 t5 := Tryz.underlying5
 a5 := Tryz.isAgg5
 z5 := Tryz.sizeOf5
 v5 := Tryz.zeroValue5
 t9 := Tryz.underlying9
 a9 := Tryz.isAgg9
 z9 := Tryz.sizeOf9
 v9 := Tryz.zeroValue9
 t22 := Tryz.underlying30
 a22 := Tryz.isAgg30
 z22 := Tryz.sizeOf30
 v22 := Tryz.zeroValue30
 t23 := Tryz.underlying30
 a23 := Tryz.isAgg30
 z23 := Tryz.sizeOf30
 v23 := Tryz.zeroValue30
 t25 := Tryz.underlying3
 a25 := Tryz.isAgg3
 z25 := Tryz.sizeOf3
 v25 := Tryz.zeroValue3
 t32 := Tryz.underlying129
 a32 := Tryz.isAgg129
 z32 := Tryz.sizeOf129
 v32 := Tryz.zeroValue129
 t35 := Tryz.underlying143
 a35 := Tryz.isAgg143
 z35 := Tryz.sizeOf143
 v35 := Tryz.zeroValue143
 t36 := Tryz.underlying144
 a36 := Tryz.isAgg144
 z36 := Tryz.sizeOf144
 v36 := Tryz.zeroValue144
 t41 := Tryz.underlying149
 a41 := Tryz.isAgg149
 z41 := Tryz.sizeOf149
 v41 := Tryz.zeroValue149
 t44 := Tryz.underlying152
 a44 := Tryz.isAgg152
 z44 := Tryz.sizeOf152
 v44 := Tryz.zeroValue152
 t46 := Tryz.underlying154
 a46 := Tryz.isAgg154
 z46 := Tryz.sizeOf154
 v46 := Tryz.zeroValue154
 t53 := Tryz.underlying157
 a53 := Tryz.isAgg157
 z53 := Tryz.sizeOf157
 v53 := Tryz.zeroValue157
 t57 := Tryz.underlying161
 a57 := Tryz.isAgg161
 z57 := Tryz.sizeOf161
 v57 := Tryz.zeroValue161
 t63 := Tryz.underlying179
 a63 := Tryz.isAgg179
 z63 := Tryz.sizeOf179
 v63 := Tryz.zeroValue179
 t64 := Tryz.underlying180
 a64 := Tryz.isAgg180
 z64 := Tryz.sizeOf180
 v64 := Tryz.zeroValue180 }
end Go.Proofs
namespace Go.Proofs.YtonapijgfalpaaaGreat
open Go.RowKit Go.Maps Go.Sort Go.Shelf
theorem zgg (m : Nat) : AnyZI.SortsIn Tryz.prog Tryz.Yi Fence.wide m :=
 ⟨fun blk off cap ss W hH hblk hsz => callsIn_wide.2 (AnyM.slices_Sort_int Tryz.zfL blk off cap ss W hH hblk hsz),
  fun p cap W => callsIn_wide.2 (AnyM.slices_Sort_int_none Tryz.zfL p cap W)⟩
theorem zgt (W : World) (mb : Nat) : Calls Tryz.prog 33 #[.map (some mb)] W fun e w' => e = .returned (.func (.func 60) #[] #[.pointer (some ⟨W.heap.size, 0, none⟩)]) ∧ w' = W.alloc (.cells #[.map (some mb)] 67) :=
 callsIn_wide.1 (AnyZI.keys_in Tryz.zfK Fence.wide 5 trivial rfl (some mb) W)
theorem zfm {H : Type} (W : World) (b nn : Nat) (D0 : DataW H) (R : Value → Option (DataW H × List MemPlace)) (hown : W.ownsMap Tryz.prog 3 R b nn D0) (hmax : Maps.size D0 ≤ 1000000) :
 Calls Tryz.prog 32 #[.func (.func 60) #[] #[.pointer (some ⟨W.heap.size, 0, none⟩)]] (W.alloc (.cells #[.map (some b)] 67)) fun e w' => ∃ (v : Value) (ss : List Int), e = .returned v ∧ ss.Perm (intKeys D0) ∧ w'.ownsRow W.heap.size 3 1 v ss.length ((ss.mergeSort leI).map qF) ∧ Below W.heap.size W w' := by
 have hbl := hown.lt
 have hseq : SeqGives Fence.wide 2 Tryz.prog 60 #[.pointer (some ⟨W.heap.size, 0, none⟩)] encZ (fun ss => ss.Perm (intKeys D0)) (Maps.size D0) (W.alloc (.cells #[.map (some b)] 67)) :=
  AnyZI.keys_gives (ρ := Tryz.Jj) { Tryz.zfK with } Fence.wide _ trivial rfl (by omega) W.heap.size b nn D0 _ (by simp) (by simp) (by
   obtain ⟨es, clock, hb, Ft, hs, hD⟩ := hown
   exact ⟨es, clock, (Below.heap_alloc _ _ b hbl).trans hb, Ft, hs, hD⟩)
 have cS := AnyZI.sorted_in Tryz.zfA Fence.wide 5 trivial trivial trivial trivial rfl (by omega) (zgg _) (enters_of Tryz.func59 (by kernel_rfl) rfl) 60 #[.pointer (some ⟨W.heap.size, 0, none⟩)] trivial (enters_of Tryz.func60 (by kernel_rfl) rfl) _ _ (by unfold maxLen; omega) (by omega) _ hseq
 refine (callsIn_wide.1 cS).mono ?_
 rintro e w' ⟨v, ss, rfl, hp, hrow, _, hb⟩
 exact ⟨v, ss, rfl, hp, ⟨hrow.1, hrow.2.imp (fun h => h) (fun ⟨g, cap, cur, h1, h2, h3⟩ => ⟨g, cap, cur, h1, Nat.le_trans (by simp) h2, h3⟩)⟩, (zh _ _).trans (hb.mono (by simp))⟩
end Go.Proofs.YtonapijgfalpaaaGreat
namespace Go.Proofs.YtonapijgfalpaaaGreat
open Go.RowKit
theorem zfv (w : World) (B1 B2 : Nat) (v1 v2 : Value) (l1 l2 : List Int) (h1 : w.ownsRow B1 3 1 v1 l1.length (l1.map qF)) (h2 : w.ownsRow B2 3 1 v2 l2.length (l2.map qF)) (hl1 : l1.length ≤ 1000000) (hl2 : l2.length ≤ 1000000) :
 Calls Tryz.prog 12 #[v1, v2] w fun e w' => e = .returned (.bool (decide (l1 = l2))) ∧ Below w.heap.size w w' := by
 obtain ⟨a1, c1, rfl⟩ := zw h1
 obtain ⟨a2, c2, rfl⟩ := zw h2
 obtain ⟨n1, hn1⟩ : ∃ n, n = l1.length := ⟨_, rfl⟩
 obtain ⟨n2, hn2⟩ : ∃ n, n = l2.length := ⟨_, rfl⟩
 have H := hH (aN h1 (aN h2 (aN hn1 hn2)))
 rw [← hn1, ← hn2]
 rw [← hn1] at hl1
 rw [← hn2] at hl2
 clear h1 h2 hn1 hn2
 by_cases hne : n1 = n2
 · subst hne
   have hnn : ((n1 : Int) == (n1 : Int)) = true := by simp
   go_enter Tryz.func12, Tryz.ntmps12
   go_wp2_with fail
   go_loopw [13] (fun i wr => ∃ k : Nat, k ≤ n1 ∧ i = .int .i64 (k : Int) ∧ Hid (l1.take k = l2.take k) ∧ Hid (Below w.heap.size w wr)) (fun i _ => n1 - (intOf i).toNat)
   case atStart => exact ⟨0, Nat.zero_le _, rfl, hH rfl, hH (Below.refl _ _)⟩
   case round =>
    obtain ⟨k, hk, rfl, hs, hb⟩ := hrel
    by_cases hlt : k < n1
    · obtain ⟨x, hx⟩ : ∃ x, l1[k]? = some x := ⟨_, List.getElem?_eq_getElem (by rw [← H.out.2.2.1]; exact hlt)⟩
      obtain ⟨y, hy⟩ : ∃ y, l2[k]? = some y := ⟨_, List.getElem?_eq_getElem (by rw [← H.out.2.2.2]; exact hlt)⟩
      have q1 := H.out.1
      have q2 := H.out.2.1
      obtain ⟨g1, rfl, c1⟩ := Yo q1 hx
      obtain ⟨g2, rfl, c2⟩ := Yo q2 hy
      obtain ⟨W, hW⟩ : ∃ W, W = wr.drew := ⟨_, rfl⟩
      have d1 : W.cell? ⟨g1, k, none⟩ = some (.int .i64 x) := by rw [hW]; exact (hb.out.cell (World.block_lt_of_cell? _ _ c1)).trans c1
      have d2 : W.cell? ⟨g2, k, none⟩ = some (.int .i64 y) := by rw [hW]; exact (hb.out.cell (World.block_lt_of_cell? _ _ c2)).trans c2
      have HBW := hH (show Below w.heap.size w W by rw [hW]; exact ⟨hb.out.os, hb.out.tape, hb.out.output, hb.out.size, hb.out.block⟩)
      have HW := hH hW
      have HXY := hH (aN hx hy)
      have HLT := hH hlt
      have hkl : (k : Int) < (n1 : Int) := by omega
      clear c1 c2 hx hy hW q1 q2 hk hlt
      by_cases hxy : x = y
      · have hbq : (x == y) = true := by simpa using hxy
        go_wp2_with fail
        have hdr : ({ heap := wr.heap, tape := wr.tape, drawn := wr.drawn + 1, os := wr.os, output := wr.output } : World) = W := HW.out.symm
        refine wp_region_still_tail 8 (by kernel_rfl) (by kernel_rfl) ?_
        simp only [List.take_succ_cons, List.take_zero, List.drop_succ_cons, List.drop_zero]
        rw [hdr]
        clear hdr
        repeat still_step
        try refine wpStill_nil ?_
        go_wp2_with fail
        exact ⟨⟨k + 1, by have := HLT.out; omega, by go_num, hH (take_same hs.out HXY.out.1 (by rw [hxy]; exact HXY.out.2)), hH HBW.out⟩, by have := HLT.out; simp [intOf]; omega⟩
      · have hbq : (x == y) = false := by simpa using hxy
        have HD := hH (show decide (l1 = l2) = false from by
         simp only [decide_eq_false_iff_not]
         intro e
         have h1 := HXY.out.1
         rw [e, HXY.out.2] at h1
         exact hxy (Option.some.inj h1).symm)
        go_wp2_with fail
        have hdr : ({ heap := wr.heap, tape := wr.tape, drawn := wr.drawn + 1, os := wr.os, output := wr.output } : World) = W := HW.out.symm
        refine wp_region_still_tail 8 (by kernel_rfl) (by kernel_rfl) ?_
        simp only [List.take_succ_cons, List.take_zero, List.drop_succ_cons, List.drop_zero]
        rw [hdr]
        clear hdr
        repeat still_step
        try refine wpStill_nil ?_
        go_wp2_with fail
        go_ret
        exact ⟨by rw [HD.out]; rfl, HBW.out⟩
    · have hkq : k = n1 := by omega
      have HKQ := hH hkq
      have hkl : ¬ (k : Int) < (n1 : Int) := by omega
      have HD := hH (show decide (l1 = l2) = true from by
       have h3 := hs.out
       rw [List.take_of_length_le (by rw [← H.out.2.2.1]; omega), List.take_of_length_le (by rw [← H.out.2.2.2]; omega)] at h3
       simpa using h3)
      clear hkq hk
      go_wp2_with fail
      go_ret
      exact ⟨by rw [HD.out]; rfl, hb.out⟩
 · have hnn : ¬ (n1 : Int) = (n2 : Int) := by omega
   have HD := hH (show decide (l1 = l2) = false from by
    have h3 := H.out.2.2
    simp only [decide_eq_false_iff_not]
    intro e; rw [e] at h3; omega)
   go_enter Tryz.func12, Tryz.ntmps12
   clear hne
   go_wp2_with fail
   go_ret
   exact ⟨by rw [HD.out]; rfl, Below.refl _ _⟩
end Go.Proofs.YtonapijgfalpaaaGreat
