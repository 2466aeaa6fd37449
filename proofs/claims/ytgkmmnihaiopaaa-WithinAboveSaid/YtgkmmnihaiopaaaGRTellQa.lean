/-
  .
-/
import Derived.Test.YtgkmmnihaiopaaaGRCheckQa
import Derived.Test.YtgkmmnihaiopaaaGWideQa
import Derived.Test.YtgkmmnihaiopaaaJPgQa
set_option maxRecDepth 100000
set_option maxHeartbeats 40000000

namespace Go.Proofs.Ytgkmmnihaiopaaa
open Go.RowKit Go.Maps
def jI (o : Option Kd) (s : ByteArray) : Bool := match o with
 | none => false
 | some k => s.toList.isEmpty || (k.text && decide (s.size ≤ 40))
def zgr (l : List Sl) : Prop := l.length ≤ 8 ∧ ∀ s ∈ l, 0 ≤ s.least ∧ s.least ≤ 1000
theorem zbj {g : Gr} {n : Int} {k : Kd} (h : kindOf g n = some k) : zgr k.slots := by
 obtain ⟨hg, j, _, _, hx⟩ := kJ h
 simp only [yL, Bool.and_eq_true, List.all_eq_true] at hg
 have h1 := hg.1.2 k (List.mem_of_getElem? hx)
 simp only [kindOk, jC, Bool.and_eq_true, decide_eq_true_eq, List.all_eq_true] at h1
 refine ⟨h1.1.2, fun s hs => ?_⟩
 have h2 := h1.2 s hs
 simp only [yo, yR, Bool.and_eq_true, decide_eq_true_eq] at h2
 omega
theorem zfu (w : World) (v : Value) (g : Gr) (n : Int) (s : ByteArray) (hv : GrV w v g) (hf : g.few) (hs : (s.size : Int) ≤ 9223372036854775807) : Calls Try.prog 131 #[v, .int .i64 n, .string s] w (Says (jI (kindOf g n) s) w) := by
 obtain ⟨ka, kc, rfl, hk⟩ := hv
 obtain ⟨l, root⟩ := g
 simp only at hk
 have HF := hH hf
 have HK := hH hk
 clear hf hk
 cases ho : kindOf ⟨l, root⟩ n with
 | none =>
   have HO := hH ho
   clear ho
   go_enter Try.func131, Try.ntmps131
   go_wp2_with (go_at_call 135; ((with_reducible refine (Jy _ _ _ n (grV (HK.out.below (zh _ _))) HF.out HO.out).mono ?_); rintro e w2 ⟨rfl, h2⟩; have H2 := hH h2; clear h2))
   go_ret
   exact ⟨rfl, ((zh w _).trans (H2.out.mono (zh w _).size)).alloc ((zh w _).trans (H2.out.mono (zh w _).size)).size _⟩
 | some k =>
   have HO := hH ho
   clear ho
   obtain ⟨nm, tx, sl⟩ := k
   by_cases he : s.toList.isEmpty = true
   · have he2 : s.toList = [] := by simpa using he
     have HV := hH (show jI (some ⟨nm, tx, sl⟩) s = true by simp [jI, he2])
     go_enter Try.func131, Try.ntmps131
     go_wp2_with (go_at_call 135; ((with_reducible refine (qP _ _ _ n _ (grV (HK.out.below (zh _ _))) HF.out HO.out).mono ?_); rintro e w2 ⟨sa, sc, rfl, h2, _⟩; have H2 := hH ((zh w _).trans (h2.mono (zh w _).size)); clear h2))
     go_ret
     exact Says.mk HV.out (H2.out.alloc H2.out.size _)
   · have he1 : s.toList.isEmpty = false := by simpa using he
     have he2 : ¬ s.toList = [] := by simpa using he
     have HV := hH (show jI (some ⟨nm, tx, sl⟩) s = (tx && decide (s.size ≤ 40)) by rw [jI, he1]; rfl)
     clear he
     cases tx
     · go_enter Try.func131, Try.ntmps131
       go_wp2_with (go_at_call 135; ((with_reducible refine (qP _ _ _ n _ (grV (HK.out.below (zh _ _))) HF.out HO.out).mono ?_); rintro e w2 ⟨sa, sc, rfl, h2, _⟩; have H2 := hH ((zh w _).trans (h2.mono (zh w _).size)); clear h2))
       go_ret
       exact Says.mk HV.out (H2.out.alloc H2.out.size _)
     · by_cases h4 : s.size ≤ 40
       · have h4' : (s.size : Int) ≤ 40 := by omega
         go_enter Try.func131, Try.ntmps131
         go_wp2_with (go_at_call 135; ((with_reducible refine (qP _ _ _ n _ (grV (HK.out.below (zh _ _))) HF.out HO.out).mono ?_); rintro e w2 ⟨sa, sc, rfl, h2, _⟩; have H2 := hH ((zh w _).trans (h2.mono (zh w _).size)); clear h2))
         go_ret
         exact Says.mk (by rw [HV.out, decide_eq_true h4]; rfl) (H2.out.alloc H2.out.size _)
       · have h4' : ¬ (s.size : Int) ≤ 40 := by omega
         go_enter Try.func131, Try.ntmps131
         go_wp2_with (go_at_call 135; ((with_reducible refine (qP _ _ _ n _ (grV (HK.out.below (zh _ _))) HF.out HO.out).mono ?_); rintro e w2 ⟨sa, sc, rfl, h2, _⟩; have H2 := hH ((zh w _).trans (h2.mono (zh w _).size)); clear h2))
         go_ret
         exact Says.mk (by rw [HV.out, decide_eq_false h4]; first | rfl | (rw [decide_eq_false (by omega)]; rfl)) (H2.out.alloc H2.out.size _)
end Go.Proofs.Ytgkmmnihaiopaaa
namespace Go.Proofs.Ytgkmmnihaiopaaa
open Go.RowKit
theorem YW {w wr : World} (h : Below w.heap.size w wr) (o o' : Obj) : Below w.heap.size w ((wr.alloc o).alloc o') := (h.alloc h.size _).alloc (by have := h.size; simp; omega) _
theorem zbK (w : World) (o o' : Obj) : ((w.alloc o).alloc o').heap[w.heap.size]? = some o ∧ ((w.alloc o).alloc o').heap[w.heap.size + 1]? = some o' := by
 refine ⟨by rw [Below.heap_alloc _ _ _ (by simp)]; exact heap_alloc_new w o, ?_⟩
 have := heap_alloc_new (w.alloc o) o'
 simpa using this
theorem cell0 {w : World} {b : Nat} {cs : Array Value} {t : TypeId} (h : w.heap[b]? = some (.cells cs t (0, 0))) (j : Nat) {v : Value} (hv : cs[j]? = some v) : w.cell? ⟨b, j, none⟩ = some v := by
 rw [cell_of_row w b j _ _ _ h]; exact hv
end Go.Proofs.Ytgkmmnihaiopaaa
namespace Go.Proofs.Ytgkmmnihaiopaaa
structure YZ (kids : List Int) (s : Sl) (b j : Nat) : Prop where
 le : b ≤ j
 ends : j ≤ kids.length
 least : s.least ≤ ((j - b : Nat) : Int)
 most : ((j - b : Nat) : Int) ≤ s.most
 all : ∀ i x, b ≤ i → i < j → kids[i]? = some x → yN s.kinds x = true
def Q7 (kids : List Int) (s : Sl) (b j : Nat) : Bool :=
 decide (b ≤ j) && decide (j ≤ kids.length) && decide (s.least ≤ ((j - b : Nat) : Int)) && decide (((j - b : Nat) : Int) ≤ s.most) && ((kids.drop b).take (j - b)).all (yN s.kinds)
theorem zaj {kids : List Int} {s : Sl} {b j : Nat} : Q7 kids s b j = true ↔ YZ kids s b j := by
 simp only [Q7, Bool.and_eq_true, decide_eq_true_eq, List.all_eq_true]
 constructor
 · rintro ⟨⟨⟨⟨h1, h2⟩, h3⟩, h4⟩, h5⟩
   refine ⟨h1, h2, h3, h4, fun i x hi hj hx => h5 x ?_⟩
   rw [List.mem_iff_getElem?]
   exact ⟨i - b, by rw [List.getElem?_take, if_pos (by omega), List.getElem?_drop, show b + (i - b) = i by omega]; exact hx⟩
 · rintro ⟨h1, h2, h3, h4, h5⟩
   refine ⟨⟨⟨⟨h1, h2⟩, h3⟩, h4⟩, fun x hx => ?_⟩
   obtain ⟨i, hi⟩ := List.mem_iff_getElem?.1 hx
   rw [List.getElem?_take] at hi
   split at hi
   · rw [List.getElem?_drop] at hi
     exact h5 (b + i) x (by omega) (by omega) hi
   · cases hi
def YJ (kids : List Int) (s : Sl) (T : Nat → Bool) : Nat → Bool := fun j => (List.range (j + 1)).any fun b => T b && Q7 kids s b j
theorem zdM {kids : List Int} {s : Sl} {T : Nat → Bool} {j : Nat} : YJ kids s T j = true ↔ ∃ b, T b = true ∧ YZ kids s b j := by
 simp only [YJ, List.any_eq_true, List.mem_range, Bool.and_eq_true, zaj]
 exact ⟨fun ⟨b, _, h⟩ => ⟨b, h⟩, fun ⟨b, h⟩ => ⟨b, by have := h.2.le; omega, h⟩⟩
def j5 (kids : List Int) (slots : List Sl) : Nat → Bool := slots.foldl (fun T s => YJ kids s T) Za
def jg (o : Option Kd) (kids : List Int) : Bool := match o with
 | none => false
 | some k => decide (kids.length ≤ 200) && j5 kids k.slots kids.length
theorem Js {kids : List Int} {slots : List Sl} {k : Nat} {s : Sl} (hs : slots[k]? = some s) : j5 kids (slots.take (k + 1)) = YJ kids s (j5 kids (slots.take k)) := by
 rw [kV hs, j5, List.foldl_append]; rfl
def vF (kids : List Int) (kinds : List Int) : Nat → Bool := fun i => match kids[i]? with
 | some x => yN kinds x
 | none => false
theorem kS {kids kinds : List Int} {i : Nat} {x : Int} (h : kids[i]? = some x) : vF kids kinds i = yN kinds x := by simp [vF, h]
theorem Yr {kids kinds : List Int} {i : Nat} (h : kids.length ≤ i) : vF kids kinds i = false := by simp [vF, List.getElem?_eq_none h]
end Go.Proofs.Ytgkmmnihaiopaaa
namespace Go.Proofs.Ytgkmmnihaiopaaa
def FP (kids : List Int) (s : Sl) (T : Nat → Bool) (c : Nat) (f : Nat → Bool) : Prop := ∀ j, f j = true ↔ ∃ b, b < c ∧ T b = true ∧ YZ kids s b j
def FI (kids : List Int) (s : Sl) (T : Nat → Bool) (c n : Nat) (f : Nat → Bool) : Prop := ∀ j, f j = true ↔ (∃ b, b < c ∧ T b = true ∧ YZ kids s b j) ∨ ∃ m : Nat, m < n ∧ s.least ≤ (m : Int) ∧ j = c + m
def zgU (kids : List Int) (s : Sl) (c n : Nat) : Prop := ∀ i, c ≤ i → i < c + n → vF kids s.kinds i = true
theorem FP.start (kids : List Int) (s : Sl) (T : Nat → Bool) : FP kids s T 0 noF := fun j => ⟨fun h => by simp [noF] at h, fun ⟨b, h, _⟩ => by omega⟩
theorem FP.skip {kids : List Int} {s : Sl} {T : Nat → Bool} {c : Nat} {f : Nat → Bool} (h : FP kids s T c f) (hT : T c = false) : FP kids s T (c + 1) f := fun j => by
 rw [h j]
 constructor
 · rintro ⟨b, h1, h2⟩; exact ⟨b, by omega, h2⟩
 · rintro ⟨b, h1, h2, h3⟩
   refine ⟨b, ?_, h2, h3⟩
   by_cases e : b = c
   · subst e; rw [hT] at h2; cases h2
   · omega
theorem FP.all {kids : List Int} {s : Sl} {T : Nat → Bool} {f : Nat → Bool} (h : FP kids s T (kids.length + 1) f) : f = YJ kids s T := by
 funext j
 rw [Bool.eq_iff_iff, h j, zdM]
 constructor
 · rintro ⟨b, _, h⟩; exact ⟨b, h⟩
 · rintro ⟨b, h1, h2⟩; exact ⟨b, by have := h2.le; have := h2.ends; omega, h1, h2⟩
theorem FI.start {kids : List Int} {s : Sl} {T : Nat → Bool} {c : Nat} {f : Nat → Bool} (h : FP kids s T c f) : FI kids s T c 0 f := fun j => by
 rw [h j]
 exact ⟨Or.inl, fun h => h.elim id fun ⟨m, h, _⟩ => by omega⟩
theorem FI.skip {kids : List Int} {s : Sl} {T : Nat → Bool} {c n : Nat} {f : Nat → Bool} (h : FI kids s T c n f) (hn : (n : Int) < s.least) : FI kids s T c (n + 1) f := fun j => by
 rw [h j]
 constructor
 · rintro (h | ⟨m, h1, h2⟩)
   · exact Or.inl h
   · exact Or.inr ⟨m, by omega, h2⟩
 · rintro (h | ⟨m, h1, h2, h3⟩)
   · exact Or.inl h
   · exact Or.inr ⟨m, by omega, h2, h3⟩
theorem FI.put {kids : List Int} {s : Sl} {T : Nat → Bool} {c n : Nat} {f : Nat → Bool} (h : FI kids s T c n f) (hn : s.least ≤ (n : Int)) : FI kids s T c (n + 1) (fun j => if j = c + n then true else f j) := fun j => by
 show (if j = c + n then true else f j) = true ↔ _
 by_cases e : j = c + n
 · rw [if_pos e]
   exact ⟨fun _ => Or.inr ⟨n, by omega, hn, e⟩, fun _ => rfl⟩
 · rw [if_neg e, h j]
   constructor
   · rintro (h | ⟨m, h1, h2⟩)
     · exact Or.inl h
     · exact Or.inr ⟨m, by omega, h2⟩
   · rintro (h | ⟨m, h1, h2, h3⟩)
     · exact Or.inl h
     · exact Or.inr ⟨m, by omega, h2, h3⟩
theorem zae {kids : List Int} {kinds : List Int} {i : Nat} (h : vF kids kinds i = true) : i < kids.length ∧ ∀ x, kids[i]? = some x → yN kinds x = true := by
 by_cases hi : i < kids.length
 · refine ⟨hi, fun x hx => ?_⟩
   rw [kS hx] at h; exact h
 · rw [Yr (by omega)] at h; cases h
theorem FI.done {kids : List Int} {s : Sl} {T : Nat → Bool} {c N : Nat} {f : Nat → Bool} (h : FI kids s T c N f) (hc : c ≤ kids.length) (hT : T c = true) (ho : ∀ i, c ≤ i → i + 1 < c + N → vF kids s.kinds i = true)
 (hN : (N : Int) ≤ s.most + 1) (hend : (N : Int) = s.most + 1 ∨ 1 ≤ N ∧ vF kids s.kinds (c + N - 1) = false) : FP kids s T (c + 1) f := fun j => by
 rw [h j]
 constructor
 · rintro (⟨b, h1, h2⟩ | ⟨m, h1, h2, h3⟩)
   · exact ⟨b, by omega, h2⟩
   · refine ⟨c, by omega, hT, by omega, ?_, ?_, ?_, fun i x hi hj hx => (zae (ho i hi (by omega))).2 x hx⟩
     · by_cases e : m = 0
       · omega
       · have := (zae (ho (c + m - 1) (by omega) (by omega))).1; omega
     · rw [show j - c = m by omega]; exact h2
     · rw [show j - c = m by omega]; omega
 · rintro ⟨b, h1, h2, h3⟩
   by_cases e : b = c
   · subst e
     refine Or.inr ⟨j - b, ?_, h3.least, by have := h3.le; omega⟩
     rcases hend with hend | ⟨h1N, hend⟩
     · have := h3.most; omega
     · by_cases hlt : j - b < N
       · exact hlt
       · exfalso
         have hj := h3.ends
         have hle := h3.le
         have hi : b + N - 1 < kids.length := by omega
         have hx := List.getElem?_eq_getElem hi
         have := h3.all (b + N - 1) _ (by omega) (by omega) hx
         rw [kS hx, this] at hend
         cases hend
   · exact Or.inl ⟨b, by omega, h2, h3⟩
end Go.Proofs.Ytgkmmnihaiopaaa
namespace Go.Proofs.Ytgkmmnihaiopaaa
open Go.RowKit
theorem QL {g : Gr} {n : Int} (h : yL g = false) : kindOf g n = none := by rw [kindOf, if_neg (by rw [h]; simp)]
theorem QM {g : Gr} {n : Int} (h : n < 0) : kindOf g n = none := by rw [kindOf, if_neg (by omega)]
theorem YH {g : Gr} {n : Int} (h : (g.kinds.length : Int) ≤ n) : kindOf g n = none := by
 unfold kindOf; split
 · exact List.getElem?_eq_none (by omega)
 · rfl
theorem Jz {g : Gr} {j : Nat} {k : Kd} (h : yL g = true) (hk : g.kinds[j]? = some k) : kindOf g (j : Int) = some k := by
 rw [kindOf, if_pos ⟨h, by omega⟩]; simpa using hk
theorem zd2 (w : World) (v : Value) (g : Gr) (n : Int) (s : ByteArray) (hv : GrV w v g) (hf : g.few) (hs : (s.size : Int) ≤ 9223372036854775807) : Calls Try.prog 66 #[v, .int .i64 n, .string s] w (Says (jI (kindOf g n) s) w) := by
 obtain ⟨ka, kc, rfl, hk⟩ := hv
 obtain ⟨l, root⟩ := g
 simp only at hk
 have hfl : l.length ≤ 1000000 := hf.1
 have HF := hH hf
 have HK := hH hk
 obtain ⟨bb, hbb⟩ : ∃ bb, yL ⟨l, root⟩ = bb := ⟨_, rfl⟩
 have HBB := hH hbb
 clear hf hk hbb
 cases bb
 · go_enter Try.func66, Try.ntmps66
   go_wp2_with (go_at_call 28; ((with_reducible refine (zV _ _ _ (grV (HK.out.below (zh _ _))) HF.out).mono ?_); rintro e w2 ⟨rfl, h2⟩; rw [qG HBB.out]; have H2 := hH ((zh w _).trans (h2.mono (zh w _).size)); clear h2))
   go_ret
   exact Says.mk (by rw [QL HBB.out]; rfl) H2.out
 · by_cases h1 : n < 0
   · go_enter Try.func66, Try.ntmps66
     go_wp2_with (go_at_call 28; ((with_reducible refine (zV _ _ _ (grV (HK.out.below (zh _ _))) HF.out).mono ?_); rintro e w2 ⟨rfl, h2⟩; rw [y8 HBB.out]; have H2 := hH ((zh w _).trans (h2.mono (zh w _).size)); clear h2))
     go_ret
     exact Says.mk (by rw [QM h1]; rfl) H2.out
   by_cases h2 : (l.length : Int) ≤ n
   · go_enter Try.func66, Try.ntmps66
     go_wp2_with (go_at_call 28; ((with_reducible refine (zV _ _ _ (grV (HK.out.below (zh _ _))) HF.out).mono ?_); rintro e w2 ⟨rfl, h2⟩; rw [y8 HBB.out]; have H2 := hH ((zh w _).trans (h2.mono (zh w _).size)); have p0 := zT h2 0 _ rfl; clear h2))
     go_ret
     exact Says.mk (by rw [YH h2]; rfl) H2.out
   obtain ⟨j, rfl⟩ : ∃ j : Nat, n = (j : Int) := ⟨n.toNat, by omega⟩
   obtain ⟨k, hx⟩ : ∃ x, l[j]? = some x := ⟨l[j]'(by omega), List.getElem?_eq_getElem _⟩
   have HO := hH (Jz (g := ⟨l, root⟩) HBB.out hx)
   obtain ⟨b, off, rfl, hblt, hc⟩ := HK.out (by omega)
   obtain ⟨sa, sc, _, c1, _, _⟩ := hc j k hx
   have HC := hH c1
   have hj2 : (j : Int) < (l.length : Int) := by omega
   clear hx hc c1 h1 h2
   obtain ⟨nm, tx, sl⟩ := k
   by_cases he : s.toList.isEmpty = true
   · have he2 : s.toList = [] := by simpa using he
     have HV := hH (show jI (kindOf ⟨l, root⟩ (j : Int)) s = true by rw [HO.out]; simp [jI, he2])
     go_enter Try.func66, Try.ntmps66
     go_wp2_with (go_at_call 28; ((with_reducible refine (zV _ _ _ (grV (HK.out.below (zh _ _))) HF.out).mono ?_); rintro e w2 ⟨rfl, h2⟩; rw [y8 HBB.out]; have H2 := hH ((zh w _).trans (h2.mono (zh w _).size)); have p0 := zT h2 0 _ rfl; clear h2))
     go_ret
     exact Says.mk HV.out H2.out
   · have he1 : s.toList.isEmpty = false := by simpa using he
     have he2 : ¬ s.toList = [] := by simpa using he
     have HV := hH (show jI (kindOf ⟨l, root⟩ (j : Int)) s = (tx && decide (s.size ≤ 40)) by rw [HO.out, jI, he1]; rfl)
     clear he
     cases tx
     · go_enter Try.func66, Try.ntmps66
       go_wp2_with (go_at_call 28; ((with_reducible refine (zV _ _ _ (grV (HK.out.below (zh _ _))) HF.out).mono ?_); rintro e w2 ⟨rfl, h2⟩; rw [y8 HBB.out]; have H2 := hH ((zh w _).trans (h2.mono (zh w _).size)); have p0 := zT h2 0 _ rfl; have d1 := (H2.out.cell hblt).trans HC.out; clear h2))
       go_ret
       exact Says.mk HV.out H2.out
     · by_cases h4 : s.size ≤ 40
       · have h4' : (s.size : Int) ≤ 40 := by omega
         go_enter Try.func66, Try.ntmps66
         go_wp2_with (go_at_call 28; ((with_reducible refine (zV _ _ _ (grV (HK.out.below (zh _ _))) HF.out).mono ?_); rintro e w2 ⟨rfl, h2⟩; rw [y8 HBB.out]; have H2 := hH ((zh w _).trans (h2.mono (zh w _).size)); have p0 := zT h2 0 _ rfl; have d1 := (H2.out.cell hblt).trans HC.out; clear h2))
         go_ret
         exact Says.mk (by rw [HV.out, decide_eq_true h4]; rfl) H2.out
       · have h4' : ¬ (s.size : Int) ≤ 40 := by omega
         go_enter Try.func66, Try.ntmps66
         go_wp2_with (go_at_call 28; ((with_reducible refine (zV _ _ _ (grV (HK.out.below (zh _ _))) HF.out).mono ?_); rintro e w2 ⟨rfl, h2⟩; rw [y8 HBB.out]; have H2 := hH ((zh w _).trans (h2.mono (zh w _).size)); have p0 := zT h2 0 _ rfl; have d1 := (H2.out.cell hblt).trans HC.out; clear h2))
         go_ret
         exact Says.mk (by rw [HV.out, decide_eq_false h4]; first | rfl | (rw [decide_eq_false (by omega)]; rfl)) H2.out
end Go.Proofs.Ytgkmmnihaiopaaa
