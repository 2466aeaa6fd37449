/-
  .
-/
import Derived.Test.YtonapijgfalpaaaGTellQw
import Derived.Test.YtonapijgfalpaaaGWideQw
import Derived.Laws.CopyOwn
import Derived.Deep.LoopGhost
import Derived.WalkMore

namespace Go.Proofs.Ytonapijgfalpaaa
open Go.RowKit Go.Maps
def textV (o : Option Kd) (s : ByteArray) : Bool := match o with
 | none => false
 | some k => s.toList.isEmpty || (k.text && decide (s.size ≤ 40))
def Least3 (l : List Sl) : Prop := l.length ≤ 8 ∧ ∀ s ∈ l, 0 ≤ s.least ∧ s.least ≤ 1000
theorem ok_least {g : Gr} {n : Int} {k : Kd} (h : kindOf g n = some k) : Least3 k.slots := by
 obtain ⟨hg, j, _, _, hx⟩ := kindOf_some h
 simp only [grOk, Bool.and_eq_true, List.all_eq_true] at hg
 have h1 := hg.1.2 k (List.mem_of_getElem? hx)
 simp only [kindOk, kindRest, Bool.and_eq_true, decide_eq_true_eq, List.all_eq_true] at h1
 refine ⟨h1.1.2, fun s hs => ?_⟩
 have h2 := h1.2 s hs
 simp only [slotOk, slotRest, Bool.and_eq_true, decide_eq_true_eq] at h2
 omega
set_option maxRecDepth 100000 in
set_option maxHeartbeats 1000000 in
theorem text_any (w : World) (v : Value) (g : Gr) (n : Int) (s : ByteArray) (hv : GrV w v g) (hf : g.few) (hs : (s.size : Int) ≤ 9223372036854775807) : Calls Try.prog 39 #[v, .int .i64 n, .string s] w (Says (textV (kindOf g n) s) w) := by
 obtain ⟨ka, kc, rfl, hk⟩ := hv
 obtain ⟨l, root⟩ := g
 simp only at hk
 have HF := Lib.hid hf
 have HK := Lib.hid hk
 clear hf hk
 cases ho : kindOf ⟨l, root⟩ n with
 | none =>
   have HO := Lib.hid ho
   clear ho
   go_enter Try.func39, Try.ntmps39
   go_wp2_with (go_at_call 104; ((with_reducible refine (kindAt_no _ _ _ n (grV (HK.out.below (box_below _ _))) HF.out HO.out).mono ?_); rintro e w2 ⟨rfl, h2⟩; have H2 := Lib.hid h2; clear h2))
   go_ret
   exact ⟨rfl, ((box_below w _).trans (H2.out.mono (box_below w _).size)).alloc ((box_below w _).trans (H2.out.mono (box_below w _).size)).size _⟩
 | some k =>
   have HO := Lib.hid ho
   clear ho
   obtain ⟨nm, tx, sl⟩ := k
   by_cases he : s.toList.isEmpty = true
   · have he2 : s.toList = [] := by simpa using he
     have HV := Lib.hid (show textV (some ⟨nm, tx, sl⟩) s = true by simp [textV, he2])
     go_enter Try.func39, Try.ntmps39
     go_wp2_with (go_at_call 104; ((with_reducible refine (kindAt_yes _ _ _ n _ (grV (HK.out.below (box_below _ _))) HF.out HO.out).mono ?_); rintro e w2 ⟨sa, sc, rfl, h2, _⟩; have H2 := Lib.hid ((box_below w _).trans (h2.mono (box_below w _).size)); clear h2))
     go_ret
     exact Says.mk HV.out (H2.out.alloc H2.out.size _)
   · have he1 : s.toList.isEmpty = false := by simpa using he
     have he2 : ¬ s.toList = [] := by simpa using he
     have HV := Lib.hid (show textV (some ⟨nm, tx, sl⟩) s = (tx && decide (s.size ≤ 40)) by rw [textV, he1]; rfl)
     clear he
     cases tx
     · go_enter Try.func39, Try.ntmps39
       go_wp2_with (go_at_call 104; ((with_reducible refine (kindAt_yes _ _ _ n _ (grV (HK.out.below (box_below _ _))) HF.out HO.out).mono ?_); rintro e w2 ⟨sa, sc, rfl, h2, _⟩; have H2 := Lib.hid ((box_below w _).trans (h2.mono (box_below w _).size)); clear h2))
       go_ret
       exact Says.mk HV.out (H2.out.alloc H2.out.size _)
     · by_cases h4 : s.size ≤ 40
       · have h4' : (s.size : Int) ≤ 40 := by omega
         go_enter Try.func39, Try.ntmps39
         go_wp2_with (go_at_call 104; ((with_reducible refine (kindAt_yes _ _ _ n _ (grV (HK.out.below (box_below _ _))) HF.out HO.out).mono ?_); rintro e w2 ⟨sa, sc, rfl, h2, _⟩; have H2 := Lib.hid ((box_below w _).trans (h2.mono (box_below w _).size)); clear h2))
         go_ret
         exact Says.mk (by rw [HV.out, decide_eq_true h4]; rfl) (H2.out.alloc H2.out.size _)
       · have h4' : ¬ (s.size : Int) ≤ 40 := by omega
         go_enter Try.func39, Try.ntmps39
         go_wp2_with (go_at_call 104; ((with_reducible refine (kindAt_yes _ _ _ n _ (grV (HK.out.below (box_below _ _))) HF.out HO.out).mono ?_); rintro e w2 ⟨sa, sc, rfl, h2, _⟩; have H2 := Lib.hid ((box_below w _).trans (h2.mono (box_below w _).size)); clear h2))
         go_ret
         exact Says.mk (by rw [HV.out, decide_eq_false h4]; first | rfl | (rw [decide_eq_false (by omega)]; rfl)) (H2.out.alloc H2.out.size _)
end Go.Proofs.Ytonapijgfalpaaa
namespace Go.Proofs.Ytonapijgfalpaaa
open Go.RowKit
theorem two_boxes_alloc {w wr : World} (h : Below w.heap.size w wr) (o o' : Obj) : Below w.heap.size w ((wr.alloc o).alloc o') := (h.alloc h.size _).alloc (by have := h.size; simp; omega) _
theorem two_heap (w : World) (o o' : Obj) : ((w.alloc o).alloc o').heap[w.heap.size]? = some o ∧ ((w.alloc o).alloc o').heap[w.heap.size + 1]? = some o' := by
 refine ⟨by rw [Below.heap_alloc _ _ _ (by simp)]; exact heap_alloc_new w o, ?_⟩
 have := heap_alloc_new (w.alloc o) o'
 simpa using this
theorem cell0 {w : World} {b : Nat} {cs : Array Value} {t : TypeId} (h : w.heap[b]? = some (.cells cs t (0, 0))) (j : Nat) {v : Value} (hv : cs[j]? = some v) : w.cell? ⟨b, j, none⟩ = some v := by
 rw [cell_of_row w b j _ _ _ h]; exact hv
end Go.Proofs.Ytonapijgfalpaaa
namespace Go.Proofs.Ytonapijgfalpaaa
structure Stretch (kids : List Int) (s : Sl) (b j : Nat) : Prop where
 le : b ≤ j
 ends : j ≤ kids.length
 least : s.least ≤ ((j - b : Nat) : Int)
 most : ((j - b : Nat) : Int) ≤ s.most
 all : ∀ i x, b ≤ i → i < j → kids[i]? = some x → hasInt s.kinds x = true
def stretchB (kids : List Int) (s : Sl) (b j : Nat) : Bool :=
 decide (b ≤ j) && decide (j ≤ kids.length) && decide (s.least ≤ ((j - b : Nat) : Int)) && decide (((j - b : Nat) : Int) ≤ s.most) && ((kids.drop b).take (j - b)).all (hasInt s.kinds)
theorem stretchB_iff {kids : List Int} {s : Sl} {b j : Nat} : stretchB kids s b j = true ↔ Stretch kids s b j := by
 simp only [stretchB, Bool.and_eq_true, decide_eq_true_eq, List.all_eq_true]
 constructor
 · rintro ⟨⟨⟨⟨h1, h2⟩, h3⟩, h4⟩, h5⟩
   refine ⟨h1, h2, h3, h4, fun i x hi hj hx => h5 x ?_⟩
   rw [List.mem_iff_getElem?]
   exact ⟨i - b, by rw [List.getElem?_take, if_pos (by omega), List.getElem?_drop, show b + (i - b) = i by omega]; exact hx⟩
 · rintro ⟨h1, h2, h3, h4, h5⟩
   refine ⟨⟨⟨⟨h1, h2⟩, h3⟩, h4⟩, fun x hx => ?_⟩
   obtain ⟨i, hi⟩ := List.mem_iff_getElem?.1 hx
   rw [List.getElem?_take] at hi
   split at hi
   · rw [List.getElem?_drop] at hi
     exact h5 (b + i) x (by omega) (by omega) hi
   · cases hi
def nextT (kids : List Int) (s : Sl) (T : Nat → Bool) : Nat → Bool := fun j => (List.range (j + 1)).any fun b => T b && stretchB kids s b j
theorem nextT_iff {kids : List Int} {s : Sl} {T : Nat → Bool} {j : Nat} : nextT kids s T j = true ↔ ∃ b, T b = true ∧ Stretch kids s b j := by
 simp only [nextT, List.any_eq_true, List.mem_range, Bool.and_eq_true, stretchB_iff]
 exact ⟨fun ⟨b, _, h⟩ => ⟨b, h⟩, fun ⟨b, h⟩ => ⟨b, by have := h.2.le; omega, h⟩⟩
def endsT (kids : List Int) (slots : List Sl) : Nat → Bool := slots.foldl (fun T s => nextT kids s T) onlyF
def fitsV (o : Option Kd) (kids : List Int) : Bool := match o with
 | none => false
 | some k => decide (kids.length ≤ 200) && endsT kids k.slots kids.length
theorem ends_step {kids : List Int} {slots : List Sl} {k : Nat} {s : Sl} (hs : slots[k]? = some s) : endsT kids (slots.take (k + 1)) = nextT kids s (endsT kids (slots.take k)) := by
 rw [take_snoc hs, endsT, List.foldl_append]; rfl
def ownF (kids : List Int) (kinds : List Int) : Nat → Bool := fun i => match kids[i]? with
 | some x => hasInt kinds x
 | none => false
theorem ownF_some {kids kinds : List Int} {i : Nat} {x : Int} (h : kids[i]? = some x) : ownF kids kinds i = hasInt kinds x := by simp [ownF, h]
theorem ownF_none {kids kinds : List Int} {i : Nat} (h : kids.length ≤ i) : ownF kids kinds i = false := by simp [ownF, List.getElem?_eq_none h]
end Go.Proofs.Ytonapijgfalpaaa
namespace Go.Proofs.Ytonapijgfalpaaa
open Go.RowKit
attribute [local go_sem ↓] loadT wpLoadT storeT wpStoreT allocT wpAllocT buildT wpBuildT
attribute [local go_sem] headB_ptr isHead_ptr aggC_agg isT_vec vec_size freeRow_alloc setRow_alloc_at blk_alloc_new
def ArrC (f : Nat → Bool) (w : World) (e : Ending) (w' : World) : Prop := e = .returned (.agg (vec f)) ∧ Below w.heap.size w w'
theorem results_arr {w : World} {b : Nat} {f : Nat → Bool} {t : TypeId} (h : w.heap[b]? = some (.cells (vec f) t (0, 0))) : (loadVar 174 ⟨b, 0, none⟩).run Try.prog w = .ok (.agg (vec f)) w := by
 have := loadVar_blk0 (P := Try.prog) w b 201 174 _ Try.underlying174 rfl Try.sizeT (by rw [blk_of h, vec_size])
 rwa [blk_of h] at this
theorem results_cell {P : Program} {fn : Func} {p : Tmp} {ty : TypeId} (h : fn.results = #[.cell p ty]) (tmps : Array Value) (w : World) (a : Addr) (v : Value) (hp : tmps.getD p undef = .pointer (some a)) (hv : (loadVar ty a).run P w = .ok v w) :
 (results fn tmps).run P w = .ok v w := by
 have hp' : tmps[p]?.getD undef = .pointer (some a) := by simpa using hp
 simp [results, h, hp', asAddr, hv]
def FittingR (w : World) (c : Array Value) (kids kinds : List Int) (i : Value) (wr : World) : Prop :=
 ∃ (k : Nat) (f : Nat → Bool), k ≤ kids.length ∧ i = .int .i64 k ∧ wr.heap[w.heap.size]? = some (.cells c 118 (0, 0)) ∧ wr.heap[w.heap.size + 1]? = some (.cells (vec noF) 174 (0, 0)) ∧ wr.heap[w.heap.size + 2]? = some (.cells (vec f) 174 (0, 0)) ∧
  Below w.heap.size w wr ∧ ∀ j, f j = (decide (j < k) && ownF kids kinds j)
theorem three_heap (w : World) (o o' o'' : Obj) : (((w.alloc o).alloc o').alloc o'').heap[w.heap.size]? = some o ∧ (((w.alloc o).alloc o').alloc o'').heap[w.heap.size + 1]? = some o' ∧ (((w.alloc o).alloc o').alloc o'').heap[w.heap.size + 2]? = some o'' := by
 have h1 := heap_alloc_new (w.alloc o) o'
 have h2 := heap_alloc_new ((w.alloc o).alloc o') o''
 simp only [World.size_alloc] at h1 h2
 exact ⟨by rw [Below.heap_alloc _ _ _ (by simp; omega), Below.heap_alloc _ _ _ (by simp)]; exact heap_alloc_new w o, by rw [Below.heap_alloc _ _ _ (by simp)]; exact h1, h2⟩
theorem three_below (w : World) (o o' o'' : Obj) : Below w.heap.size w (((w.alloc o).alloc o').alloc o'') := (((Below.refl _ _).alloc (Nat.le_refl _) _).alloc (by simp) _).alloc (by simp; omega) _
set_option maxRecDepth 100000 in
set_option maxHeartbeats 1000000 in
theorem fitting_any (w : World) (a : Option Addr) (cap : Nat) (kids : List Int) (v : Value) (s : Sl) (h : IntsAt w a kids) (hl : kids.length ≤ 200) (hv : SlotV w v s) (hf : s.few) :
 Calls Try.prog 176 #[.slice a kids.length cap, v] w (ArrC (ownF kids s.kinds) w) := by
 obtain ⟨ka, kc, rfl, hk⟩ := hv
 obtain ⟨l, lo, hi⟩ := s
 simp only at hk ⊢
 have hfl : l.length ≤ 1000000 := hf
 have HK := Lib.hid hk
 have HA := Lib.hid h
 clear hf hk h
 go_enter Try.func176, Try.ntmps176
 go_wp2_with fail
 go_loopw [10] (fun i wr => FittingR w #[.slice ka l.length kc, .int .i64 lo, .int .i64 hi] kids l i wr) (fun i _ => kids.length - (intOf i).toNat)
 case atStart => exact ⟨0, noF, Nat.zero_le _, rfl, (three_heap w _ _ _).1, (three_heap w _ _ _).2.1, (three_heap w _ _ _).2.2, three_below _ _ _ _, fun j => by simp [noF]⟩
 case round =>
  obtain ⟨k, f, hkl, rfl, hb0, hb1, hb2, hbel, hff⟩ := hrel
  have HB := Lib.hid (And.intro hb0 (And.intro hb1 (And.intro hb2 hbel)))
  have HF := Lib.hid hff
  by_cases hlt : k < kids.length
  · obtain ⟨x, hx⟩ : ∃ x, kids[k]? = some x := ⟨kids[k], List.getElem?_eq_getElem hlt⟩
    obtain ⟨b, off, rfl, hblt, hc⟩ := (HA.out.below hbel) (by omega)
    have c0 := hc k x hx
    have p0 := cell0 hb0 0 rfl
    have q0 : wr.cell? ⟨w.heap.size + 2, k, none⟩ = some (.bool (f k)) := cell0 hb2 k (vec_at f k (by omega))
    have q1 : ∀ j, wr.frozen? ⟨w.heap.size + 2, j, none⟩ = false := fun j => frozen_of_row wr _ j _ _ hb2
    have q2 := q1 k
    have HC := Lib.hid (contains_any wr ka kc l x (HK.out.below hbel) hfl)
    have HX := Lib.hid hx
    have hk2 : (k : Int) < (kids.length : Int) := by omega
    have hk3 : (k : Int) < 201 := by omega
    clear hx hc hb0 hb1 hb2 hbel hff q1
    obtain ⟨bb, hbb⟩ : ∃ bb, bb = hasInt l x := ⟨_, rfl⟩
    rw [← hbb] at HC
    have HBB := Lib.hid hbb
    clear hbb
    go_wp2_with (go_at_call 194; ((with_reducible refine HC.out.mono ?_); rintro e w2 ⟨rfl, rfl⟩))
    refine ⟨⟨k + 1, fun j => if j = k then bb else f j, by omega, by go_num, ?_, ?_, ?_, ?_, ?_⟩, by simp [intOf]; omega⟩
    · rw [Below.heap_setCell _ _ _ _ (by show w.heap.size ≠ w.heap.size + 2; omega)]; exact HB.out.1
    · rw [Below.heap_setCell _ _ _ _ (by show w.heap.size + 1 ≠ w.heap.size + 2; omega)]; exact HB.out.2.1
    · rw [heap_setCell_same _ _ k _ _ _ HB.out.2.2.1, vec_set]
    · exact HB.out.2.2.2.setCell (by show w.heap.size ≤ w.heap.size + 2; omega) _
    · intro j
      by_cases e : j = k
      · subst e; show (if j = j then bb else f j) = _; rw [if_pos rfl, ownF_some HX.out, HBB.out, decide_eq_true (by omega)]; rfl
      · show (if j = k then bb else f j) = _
        rw [if_neg e, HF.out]
        congr 1
        exact decide_eq_decide.2 (by omega)
  · obtain rfl : k = kids.length := by omega
    have hfe : vec f = vec (ownF kids l) := vec_ext fun j _ => by
     rw [hff]
     by_cases e : j < kids.length
     · rw [decide_eq_true e]; rfl
     · rw [decide_eq_false e, ownF_none (by omega)]; rfl
    rw [hfe] at hb2
    have e1 := blk_of hb2
    have e2 := freeRow_of hb1 (vec_size _)
    have hk2 : ¬ (kids.length : Int) < (kids.length : Int) := by omega
    clear hlt hfe hff HF HB
    have HB1 := Lib.hid hb1
    have HB2 := Lib.hid hbel
    clear hb0 hb1 hb2 hbel
    go_wp2_with fail
    have hr := results_arr (setRow_heap wr (w.heap.size + 1) _ (vec (ownF kids l)) _ _ HB1.out)
    refine bodyPost_ret (v := .agg (vec (ownF kids l))) (results_cell rfl _ _ ⟨w.heap.size + 1, 0, none⟩ _ rfl hr) rfl ⟨rfl, ?_⟩
    exact below_setRow HB2.out (by omega) _
end Go.Proofs.Ytonapijgfalpaaa
namespace Go.Proofs.Ytonapijgfalpaaa
def FP (kids : List Int) (s : Sl) (T : Nat → Bool) (c : Nat) (f : Nat → Bool) : Prop := ∀ j, f j = true ↔ ∃ b, b < c ∧ T b = true ∧ Stretch kids s b j
def FI (kids : List Int) (s : Sl) (T : Nat → Bool) (c n : Nat) (f : Nat → Bool) : Prop := ∀ j, f j = true ↔ (∃ b, b < c ∧ T b = true ∧ Stretch kids s b j) ∨ ∃ m : Nat, m < n ∧ s.least ≤ (m : Int) ∧ j = c + m
def OwnTo (kids : List Int) (s : Sl) (c n : Nat) : Prop := ∀ i, c ≤ i → i < c + n → ownF kids s.kinds i = true
theorem FP.start (kids : List Int) (s : Sl) (T : Nat → Bool) : FP kids s T 0 noF := fun j => ⟨fun h => by simp [noF] at h, fun ⟨b, h, _⟩ => by omega⟩
theorem FP.skip {kids : List Int} {s : Sl} {T : Nat → Bool} {c : Nat} {f : Nat → Bool} (h : FP kids s T c f) (hT : T c = false) : FP kids s T (c + 1) f := fun j => by
 rw [h j]
 constructor
 · rintro ⟨b, h1, h2⟩; exact ⟨b, by omega, h2⟩
 · rintro ⟨b, h1, h2, h3⟩
   refine ⟨b, ?_, h2, h3⟩
   by_cases e : b = c
   · subst e; rw [hT] at h2; cases h2
   · omega
theorem FP.all {kids : List Int} {s : Sl} {T : Nat → Bool} {f : Nat → Bool} (h : FP kids s T (kids.length + 1) f) : f = nextT kids s T := by
 funext j
 rw [Bool.eq_iff_iff, h j, nextT_iff]
 constructor
 · rintro ⟨b, _, h⟩; exact ⟨b, h⟩
 · rintro ⟨b, h1, h2⟩; exact ⟨b, by have := h2.le; have := h2.ends; omega, h1, h2⟩
theorem FI.start {kids : List Int} {s : Sl} {T : Nat → Bool} {c : Nat} {f : Nat → Bool} (h : FP kids s T c f) : FI kids s T c 0 f := fun j => by
 rw [h j]
 exact ⟨Or.inl, fun h => h.elim id fun ⟨m, h, _⟩ => by omega⟩
theorem FI.skip {kids : List Int} {s : Sl} {T : Nat → Bool} {c n : Nat} {f : Nat → Bool} (h : FI kids s T c n f) (hn : (n : Int) < s.least) : FI kids s T c (n + 1) f := fun j => by
 rw [h j]
 constructor
 · rintro (h | ⟨m, h1, h2⟩)
   · exact Or.inl h
   · exact Or.inr ⟨m, by omega, h2⟩
 · rintro (h | ⟨m, h1, h2, h3⟩)
   · exact Or.inl h
   · exact Or.inr ⟨m, by omega, h2, h3⟩
theorem FI.put {kids : List Int} {s : Sl} {T : Nat → Bool} {c n : Nat} {f : Nat → Bool} (h : FI kids s T c n f) (hn : s.least ≤ (n : Int)) : FI kids s T c (n + 1) (fun j => if j = c + n then true else f j) := fun j => by
 show (if j = c + n then true else f j) = true ↔ _
 by_cases e : j = c + n
 · rw [if_pos e]
   exact ⟨fun _ => Or.inr ⟨n, by omega, hn, e⟩, fun _ => rfl⟩
 · rw [if_neg e, h j]
   constructor
   · rintro (h | ⟨m, h1, h2⟩)
     · exact Or.inl h
     · exact Or.inr ⟨m, by omega, h2⟩
   · rintro (h | ⟨m, h1, h2, h3⟩)
     · exact Or.inl h
     · exact Or.inr ⟨m, by omega, h2, h3⟩
theorem own_lt {kids : List Int} {kinds : List Int} {i : Nat} (h : ownF kids kinds i = true) : i < kids.length ∧ ∀ x, kids[i]? = some x → hasInt kinds x = true := by
 by_cases hi : i < kids.length
 · refine ⟨hi, fun x hx => ?_⟩
   rw [ownF_some hx] at h; exact h
 · rw [ownF_none (by omega)] at h; cases h
theorem FI.done {kids : List Int} {s : Sl} {T : Nat → Bool} {c N : Nat} {f : Nat → Bool} (h : FI kids s T c N f) (hc : c ≤ kids.length) (hT : T c = true) (ho : ∀ i, c ≤ i → i + 1 < c + N → ownF kids s.kinds i = true)
 (hN : (N : Int) ≤ s.most + 1) (hend : (N : Int) = s.most + 1 ∨ 1 ≤ N ∧ ownF kids s.kinds (c + N - 1) = false) : FP kids s T (c + 1) f := fun j => by
 rw [h j]
 constructor
 · rintro (⟨b, h1, h2⟩ | ⟨m, h1, h2, h3⟩)
   · exact ⟨b, by omega, h2⟩
   · refine ⟨c, by omega, hT, by omega, ?_, ?_, ?_, fun i x hi hj hx => (own_lt (ho i hi (by omega))).2 x hx⟩
     · by_cases e : m = 0
       · omega
       · have := (own_lt (ho (c + m - 1) (by omega) (by omega))).1; omega
     · rw [show j - c = m by omega]; exact h2
     · rw [show j - c = m by omega]; omega
 · rintro ⟨b, h1, h2, h3⟩
   by_cases e : b = c
   · subst e
     refine Or.inr ⟨j - b, ?_, h3.least, by have := h3.le; omega⟩
     rcases hend with hend | ⟨h1N, hend⟩
     · have := h3.most; omega
     · by_cases hlt : j - b < N
       · exact hlt
       · exfalso
         have hj := h3.ends
         have hle := h3.le
         have hi : b + N - 1 < kids.length := by omega
         have hx := List.getElem?_eq_getElem hi
         have := h3.all (b + N - 1) _ (by omega) (by omega) hx
         rw [ownF_some hx, this] at hend
         cases hend
   · exact Or.inl ⟨b, by omega, h2, h3⟩
end Go.Proofs.Ytonapijgfalpaaa
namespace Go.Proofs.Ytonapijgfalpaaa
open Go.RowKit
attribute [local go_sem ↓] loadT wpLoadT storeT wpStoreT allocT wpAllocT buildT wpBuildT
attribute [local go_sem] headB_ptr isHead_ptr aggC_agg isT_vec vec_size freeRow_alloc setRow_alloc_at blk_alloc_new
theorem slice_tr (W : World) (b k : Nat) (h : k ≤ 200) : (Instr.sliceAt 174 (.pointer (some ⟨b, 0, none⟩)) none (some (.int .i64 ((k : Int) + 1))) none).run Try.prog W = .ok (.slice (some ⟨b, 0, none⟩) (k + 1) 201) W := by
 have ha : Try.prog.arrayLen 174 = 201 := by kernel_rfl
 have hs : ∀ W, (sizeOf (Try.prog.elem 174)).run Try.prog W = .ok 1 W := fun W => by kernel_rfl
 rw [run_sliceAt_array_h (P := Try.prog) W 174 ⟨b, 0, none⟩ (by kernel_rfl) .i64 ((k : Int) + 1) (by omega) (by rw [ha]; omega), hs, ha]
 show Result.ok _ _ = _
 have e : ((k : Int) + 1).toNat = k + 1 := by omega
 simp only [slicedAt, e]
 congr 2
structure StrB (w : World) (O : Nat) (c : Array Value) (T own f : Nat → Bool) (wr : World) : Prop where
 slot : wr.heap[w.heap.size]? = some (.cells c 118 (0, 0))
 from_ : wr.heap[w.heap.size + 1]? = some (.cells (vec T) 174 (0, 0))
 res : wr.heap[w.heap.size + 2]? = some (.cells (vec noF) 174 (0, 0))
 own : wr.heap[O]? = some (.cells (vec own) 174 (0, 0))
 ends : wr.heap[O + 1]? = some (.cells (vec f) 174 (0, 0))
 lt : w.heap.size + 2 < O
 below : Below w.heap.size w wr
theorem StrB.set {w wr : World} {O : Nat} {c : Array Value} {T own f : Nat → Bool} (h : StrB w O c T own f wr) (i : Nat) : StrB w O c T own (fun j => if j = i then true else f j) (wr.setCell ⟨O + 1, i, none⟩ (.bool true)) := by
 have hlt := h.lt
 exact ⟨by rw [Below.heap_setCell _ _ _ _ (by show w.heap.size ≠ O + 1; omega)]; exact h.slot, by rw [Below.heap_setCell _ _ _ _ (by show w.heap.size + 1 ≠ O + 1; omega)]; exact h.from_,
  by rw [Below.heap_setCell _ _ _ _ (by show w.heap.size + 2 ≠ O + 1; omega)]; exact h.res, by rw [Below.heap_setCell _ _ _ _ (by show O ≠ O + 1; omega)]; exact h.own,
  by rw [heap_setCell_same _ (O + 1) i _ _ _ h.ends, vec_set], hlt, h.below.setCell (by show w.heap.size ≤ O + 1; omega) _⟩
def StrR (w : World) (O : Nat) (c : Array Value) (kids : List Int) (s : Sl) (T : Nat → Bool) (g : Nat) (i : Value) (wr : World) : Prop :=
 ∃ (k : Nat) (f : Nat → Bool), k + g = kids.length + 1 ∧ i = .int .i64 k ∧ StrB w O c T (ownF kids s.kinds) f wr ∧ FP kids s T k f
def StrR2 (w : World) (O : Nat) (c : Array Value) (kids : List Int) (s : Sl) (T : Nat → Bool) (k : Nat) (g : Nat) (i : Value) (wr : World) : Prop :=
 ∃ (n : Nat) (f : Nat → Bool), (n : Int) + (g : Int) = s.most + 1 ∧ i = .int .i64 n ∧ k + n ≤ kids.length ∧ StrB w O c T (ownF kids s.kinds) f wr ∧ FI kids s T k n f ∧ OwnTo kids s k n
set_option maxRecDepth 100000 in
set_option maxHeartbeats 1000000 in
theorem stretched_any (w : World) (a : Option Addr) (cap : Nat) (kids : List Int) (v : Value) (s : Sl) (T : Nat → Bool) (h : IntsAt w a kids) (hl : kids.length ≤ 200) (hv : SlotV w v s) (hf : s.few) (h0 : 0 ≤ s.least) (h1 : s.least ≤ s.most) (h2 : s.most ≤ 1000) :
 Calls Try.prog 150 #[.slice a kids.length cap, v, .agg (vec T)] w (ArrC (nextT kids s T) w) := by
 obtain ⟨ka, kc, rfl, hk⟩ := hv
 obtain ⟨l, lo, hi⟩ := s
 simp only at hk h0 h1 h2
 have HK := Lib.hid hk
 have HA := Lib.hid h
 have HFEW := Lib.hid hf
 clear hf hk h
 have hsl := fun W => slice_tr W (w.heap.size + 1) kids.length hl
 go_enter Try.func150, Try.ntmps150
 go_wp2_with fail
 go_step3
 go_wp2_with (go_at_call 176; ((with_reducible refine (fitting_any _ _ _ kids _ ⟨l, lo, hi⟩ (HA.out.below (three_below _ _ _ _)) hl (slotV (s := ⟨l, lo, hi⟩) (HK.out.below (three_below _ _ _ _))) HFEW.out).mono ?_); rintro e w2 ⟨rfl, h2⟩; have H2 := Lib.hid h2; clear h2))
 go_step3
 go_wp2_with fail
 have HSTART := Lib.hid (show StrB w w2.heap.size #[.slice ka l.length kc, .int .i64 lo, .int .i64 hi] T (ownF kids l) noF ((w2.alloc (.cells (vec (ownF kids l)) 174)).alloc (.cells (vec noF) 174)) from by
  have h3 := three_heap w (.cells #[.slice ka l.length kc, .int .i64 lo, .int .i64 hi] 118) (.cells (vec T) 174) (.cells (vec noF) 174)
  have hz := H2.out.size
  have hbb := two_boxes_alloc (Below.refl w2.heap.size w2) (.cells (vec (ownF kids l)) 174) (.cells (vec noF) 174)
  have hbo := fun k hk => (hbb.block k (Nat.lt_of_lt_of_le hk hz)).trans (H2.out.block k hk)
  simp only [World.size_alloc] at hbo hz
  exact ⟨(hbo _ (by omega)).trans h3.1, (hbo _ (by omega)).trans h3.2.1, (hbo _ (by omega)).trans h3.2.2, (two_heap w2 _ _).1, (two_heap w2 _ _).2, by omega, (three_below w _ _ _).trans ((H2.out.trans (hbb.mono H2.out.size)).mono (three_below w _ _ _).size)⟩)
 obtain ⟨O, hO⟩ : ∃ O, O = w2.heap.size := ⟨_, rfl⟩
 rw [← hO] at HSTART
 rw [← hO]
 clear hO hsl
 go_loopg [20] (kids.length + 1) (fun g i wr => StrR w O #[.slice ka l.length kc, .int .i64 lo, .int .i64 hi] kids ⟨l, lo, hi⟩ T g i wr)
 case atStart => exact ⟨0, noF, by omega, rfl, HSTART.out, FP.start _ _ _⟩
 case round =>
  obtain ⟨k, f, hkg, rfl, hB, hFP⟩ := hrel
  have HB := Lib.hid hB
  have HFP := Lib.hid hFP
  cases gk with
  | zero =>
    obtain rfl : k = kids.length + 1 := by omega
    have hfe := hFP.all
    rw [hfe] at hB
    have e1 := blk_of hB.ends
    have e2 := freeRow_of hB.res (vec_size _)
    have HR := Lib.hid (And.intro hB.res (And.intro hB.below hB.lt))
    clear hB hFP hfe HB HFP
    go_wp2_with fail
    try rw [Exit.noGoto_ret]
    have hr := results_arr (setRow_heap wr (w.heap.size + 2) _ (vec (nextT kids ⟨l, lo, hi⟩ T)) _ _ HR.out.1)
    refine bodyPost_ret (v := .agg (vec (nextT kids ⟨l, lo, hi⟩ T))) (results_cell rfl _ _ ⟨w.heap.size + 2, 0, none⟩ _ rfl hr) rfl ⟨rfl, ?_⟩
    exact below_setRow HR.out.2.1 (by omega) _
  | succ g =>
    have hk1 : k ≤ kids.length := by omega
    have hk2 : (k : Int) < (kids.length : Int) + 1 := by omega
    have c0 : wr.cell? ⟨w.heap.size + 1, k, none⟩ = some (.bool (T k)) := cell0 hB.from_ k (vec_at T k (by omega))
    have c1 : wr.cell? ⟨w.heap.size, 2, none⟩ = some (.int .i64 hi) := cell0 hB.slot 2 rfl
    obtain ⟨bb, hbb⟩ : ∃ bb, bb = T k := ⟨_, rfl⟩
    rw [← hbb] at c0
    have HBB := Lib.hid hbb
    clear hB hFP hbb
    cases bb
    · go_wp2_with fail
      go_roundg g
      case measure => omega
      case rel => exact ⟨k + 1, f, by omega, by go_num, HB.out, HFP.out.skip HBB.out.symm⟩
    · go_wp2_with fail
      clear c0 c1
      obtain ⟨w3, rfl⟩ : ∃ w3, w3 = wr := ⟨_, rfl⟩
      go_loopg [30] (hi + 1).toNat (fun g2 i wr => StrR2 w O #[.slice ka l.length kc, .int .i64 lo, .int .i64 hi] kids ⟨l, lo, hi⟩ T k g2 i wr)
      case atStart => exact ⟨0, f, by simp only; omega, rfl, by omega, HB.out, FI.start HFP.out, fun i h1 h2 => by omega⟩
      case round =>
       obtain ⟨n, f2, hng, rfl, hkn, hB2, hFI, hown⟩ := hrel
       simp only at hng
       have HB2 := Lib.hid hB2
       have HFI := Lib.hid hFI
       have HOWN := Lib.hid hown
       have c1 : wr.cell? ⟨w.heap.size, 1, none⟩ = some (.int .i64 lo) := cell0 hB2.slot 1 rfl
       cases gk with
       | zero =>
         have hn1 : ¬ (n : Int) < hi + 1 := by omega
         have HD := Lib.hid (HFI.out.done (N := n) (by omega) HBB.out.symm (fun i h3 h4 => HOWN.out i h3 (by omega)) (by simp only; omega) (Or.inl (by simp only; omega)))
         clear hB2 hFI hown c1
         go_wp2_with fail
         go_roundg g
         case measure => omega
         case rel => exact ⟨k + 1, f2, by omega, by go_num, HB2.out, HD.out⟩
       | succ g2 =>
         have hn1 : (n : Int) < hi + 1 := by omega
         have hkn2 : k + n < 201 := by omega
         have hkn3 : (k : Int) + (n : Int) < 201 := by omega
         have d0 : wr.cell? ⟨O, k + n, none⟩ = some (.bool (ownF kids l (k + n))) := cell0 hB2.own (k + n) (vec_at _ _ hkn2)
         have d1 : wr.cell? ⟨O + 1, k + n, none⟩ = some (.bool (f2 (k + n))) := cell0 hB2.ends (k + n) (vec_at _ _ hkn2)
         have d2 : wr.frozen? ⟨O + 1, k + n, none⟩ = false := frozen_of_row wr _ _ _ _ hB2.ends
         obtain ⟨ob, hob⟩ : ∃ ob, ob = ownF kids l (k + n) := ⟨_, rfl⟩
         rw [← hob] at d0
         have HOB := Lib.hid hob
         clear hB2 hFI hown hob
         by_cases hlo : lo ≤ (n : Int)
         · cases ob
           · have HD := Lib.hid ((HFI.out.put (n := n) hlo).done (N := n + 1) (by omega) HBB.out.symm (fun i h3 h4 => HOWN.out i h3 (by omega)) (by simp only; omega) (Or.inr ⟨by omega, HOB.out.symm⟩))
             go_wp2_with fail
             go_roundg g
             case measure => omega
             case rel => exact ⟨k + 1, _, by omega, by go_num, HB2.out.set (k + n), HD.out⟩
           · have HO2 := Lib.hid (own_lt HOB.out.symm).1
             go_wp2_with fail
             go_roundg g2
             case measure => omega
             case rel => exact ⟨n + 1, _, by simp only; omega, by go_num, by have := HO2.out; omega, HB2.out.set (k + n), HFI.out.put (n := n) hlo, fun i h3 h4 => by by_cases e : i = k + n; exact e ▸ HOB.out.symm; exact HOWN.out i h3 (by omega)⟩
         · cases ob
           · have HD := Lib.hid ((HFI.out.skip (n := n) (by simp only; omega)).done (N := n + 1) (by omega) HBB.out.symm (fun i h3 h4 => HOWN.out i h3 (by omega)) (by simp only; omega) (Or.inr ⟨by omega, HOB.out.symm⟩))
             go_wp2_with fail
             go_roundg g
             case measure => omega
             case rel => exact ⟨k + 1, _, by omega, by go_num, HB2.out, HD.out⟩
           · have HO2 := Lib.hid (own_lt HOB.out.symm).1
             go_wp2_with fail
             go_roundg g2
             case measure => omega
             case rel => exact ⟨n + 1, _, by simp only; omega, by go_num, by have := HO2.out; omega, HB2.out, HFI.out.skip (n := n) (by simp only; omega), fun i h3 h4 => by by_cases e : i = k + n; exact e ▸ HOB.out.symm; exact HOWN.out i h3 (by omega)⟩
end Go.Proofs.Ytonapijgfalpaaa
namespace Go.Proofs.Ytonapijgfalpaaa
open Go.RowKit
attribute [local go_sem ↓] loadT wpLoadT storeT wpStoreT allocT wpAllocT buildT wpBuildT
attribute [local go_sem] headB_ptr isHead_ptr aggC_agg isT_vec vec_size freeRow_alloc setRow_alloc_at blk_alloc_new
theorem vec_ne (f : Nat → Bool) : (vec f = #[]) = False := by
 simp only [eq_iff_iff, iff_false]; intro h
 have := congrArg Array.size h
 rw [vec_size] at this; simp at this
theorem vec_first : (vec noF).setIfInBounds 0 (.bool true) = vec onlyF := by rw [vec_set]; exact vec_ext fun j _ => by by_cases e : j = 0 <;> simp [onlyF, noF, e]
attribute [local go_sem] vec_ne vec_first
def Slots3 (l : List Sl) : Prop := ∀ s ∈ l, s.few ∧ 0 ≤ s.least ∧ s.least ≤ s.most ∧ s.most ≤ 1000
theorem ok_slots {g : Gr} {n : Int} {k : Kd} (h : kindOf g n = some k) (hf : g.few) : Slots3 k.slots := by
 obtain ⟨hg, j, _, _, hx⟩ := kindOf_some h
 simp only [grOk, Bool.and_eq_true, List.all_eq_true] at hg
 have h1 := hg.1.2 k (List.mem_of_getElem? hx)
 simp only [kindOk, Bool.and_eq_true, List.all_eq_true] at h1
 intro s hs
 have h2 := h1.2 s hs
 simp only [slotOk, slotRest, Bool.and_eq_true, decide_eq_true_eq] at h2
 exact ⟨(hf.2 k (List.mem_of_getElem? hx)).2.2 s hs, by omega, by omega, by omega⟩
def CutR (w : World) (kids : List Int) (l : List Sl) (i : Value) (wr : World) : Prop :=
 ∃ (k : Nat), k ≤ l.length ∧ i = .int .i64 k ∧ wr.heap[w.heap.size]? = some (.cells (vec (endsT kids (l.take k))) 174 (0, 0)) ∧ Below w.heap.size w wr
set_option maxRecDepth 100000 in
set_option maxHeartbeats 1000000 in
theorem canBeCut_any (w : World) (a : Option Addr) (cap : Nat) (kids : List Int) (a2 : Option Addr) (cap2 : Nat) (l : List Sl) (h : IntsAt w a kids) (hl : kids.length ≤ 200) (h2 : SlotsAt w a2 l) (hl2 : l.length ≤ 1000000) (h3 : Slots3 l) :
 Calls Try.prog 109 #[.slice a kids.length cap, .slice a2 l.length cap2] w (Says (endsT kids l kids.length) w) := by
 have HA := Lib.hid h
 have HK := Lib.hid h2
 have H3 := Lib.hid h3
 clear h h2 h3
 have hbd : ∀ W, (zeroValue 174).run Try.prog W = .ok (.agg (vec noF)) W := fun W => by kernel_rfl
 go_enter Try.func109, Try.ntmps109
 go_wp2_with fail
 clear hbd
 go_loopw [11] (fun i wr => CutR w kids l i wr) (fun i _ => l.length - (intOf i).toNat)
 case atStart => exact ⟨0, Nat.zero_le _, rfl, heap_alloc_new w _, box_below _ _⟩
 case round =>
  obtain ⟨k, hkl, rfl, hb, hbel⟩ := hrel
  have HB := Lib.hid (And.intro hb hbel)
  by_cases hlt : k < l.length
  · obtain ⟨s, hx⟩ : ∃ s, l[k]? = some s := ⟨l[k], List.getElem?_eq_getElem hlt⟩
    obtain ⟨hs0, hs1, hs2, hs3⟩ := H3.out s (List.mem_of_getElem? hx)
    obtain ⟨b, off, rfl, hblt, hc⟩ := (HK.out.below hbel) (by omega)
    obtain ⟨ka2, kc2, d0, d1, d2, hi⟩ := hc k s hx
    have HI := Lib.hid hi
    have HFEW := Lib.hid hs0
    have HX := Lib.hid (ends_step (kids := kids) hx)
    obtain ⟨T, hT⟩ : ∃ T, T = endsT kids (l.take k) := ⟨_, rfl⟩
    rw [← hT] at hb HX
    have HAW := Lib.hid (HA.out.below hbel)
    have hbk : blk (wr.alloc (.cells #[.slice ka2 s.kinds.length kc2, .int .i64 s.least, .int .i64 s.most] 118)) w.heap.size = vec T := blk_of ((Below.heap_alloc _ _ _ (lt_of_some' hb)).trans hb)
    have hkl2 : (k : Int) < (l.length : Int) := by omega
    have HHB := Lib.hid hb
    have HBEL := Lib.hid hbel
    clear hx hc hi hb hbel hs0 HB hT
    go_wp2_with (go_at_call 150; ((with_reducible refine (stretched_any _ _ _ kids _ s T (HAW.out.below (box_below _ _)) hl (slotV (HI.out.below (box_below _ _))) HFEW.out hs1 hs2 hs3).mono ?_); rintro e w2 ⟨rfl, h2⟩; have H2 := Lib.hid ((box_below wr _).trans (h2.mono (box_below wr _).size)); have HF2 := Lib.hid ((H2.out.block _ (lt_of_some' HHB.out)).trans HHB.out); have hfr := freeRow_of HF2.out (vec_size _); clear h2))
    refine ⟨⟨k + 1, by omega, by go_num, ?_, ?_⟩, by simp [intOf]; omega⟩
    · rw [setRow_heap _ _ _ _ _ _ HF2.out, HX.out]
    · exact below_setRow (HBEL.out.trans (H2.out.mono HBEL.out.size)) (Nat.le_refl _) _
  · obtain rfl : k = l.length := by omega
    rw [List.take_of_length_le (Nat.le_refl _)] at hb
    have c0 := cell0 hb kids.length (vec_at _ _ (by omega))
    obtain ⟨bb, hbb⟩ : ∃ bb, bb = endsT kids l kids.length := ⟨_, rfl⟩
    rw [← hbb] at c0
    have HBB := Lib.hid hbb
    have hk2 : (kids.length : Int) < 201 := by omega
    have hkl2 : ¬ (l.length : Int) < (l.length : Int) := by omega
    have HBEL := Lib.hid hbel
    clear hb hbel hlt HB hbb
    go_wp2_with fail
    go_ret
    exact Says.mk HBB.out.symm HBEL.out
set_option maxRecDepth 100000 in
set_option maxHeartbeats 1000000 in
theorem fits_any (w : World) (v : Value) (g : Gr) (n : Int) (a : Option Addr) (cap : Nat) (kids : List Int) (hv : GrV w v g) (hf : g.few) (h : IntsAt w a kids) (hl : kids.length ≤ 1000000) :
 Calls Try.prog 45 #[v, .int .i64 n, .slice a kids.length cap] w (Says (fitsV (kindOf g n) kids) w) := by
 obtain ⟨ka, kc, rfl, hk⟩ := hv
 obtain ⟨l, root⟩ := g
 simp only at hk
 have HF := Lib.hid hf
 have HK := Lib.hid hk
 have HA := Lib.hid h
 cases ho : kindOf ⟨l, root⟩ n with
 | none =>
   have HO := Lib.hid ho
   clear ho hf hk h
   go_enter Try.func45, Try.ntmps45
   go_wp2_with (go_at_call 104; ((with_reducible refine (kindAt_no _ _ _ n (grV (HK.out.below (box_below _ _))) HF.out HO.out).mono ?_); rintro e w2 ⟨rfl, h2⟩; have H2 := Lib.hid ((box_below w _).trans (h2.mono (box_below w _).size)); clear h2))
   go_ret
   exact Says.mk rfl (H2.out.alloc H2.out.size _)
 | some k =>
   have HO := Lib.hid ho
   have HS := Lib.hid (ok_slots ho hf)
   have HS8 := Lib.hid (ok_least ho).1
   clear ho hf hk h
   by_cases h200 : kids.length ≤ 200
   · have h200' : (kids.length : Int) ≤ 200 := by omega
     have HV := Lib.hid (show fitsV (some k) kids = endsT kids k.slots kids.length by rw [fitsV, decide_eq_true h200]; rfl)
     go_enter Try.func45, Try.ntmps45
     go_wp2_with (first
      | (go_at_call 104; ((with_reducible refine (kindAt_yes _ _ _ n _ (grV (HK.out.below (box_below _ _))) HF.out HO.out).mono ?_); rintro e w2 ⟨sa, sc, rfl, h2, hs⟩; have H2 := Lib.hid ((box_below w _).trans (h2.mono (box_below w _).size)); have HSA := Lib.hid hs; clear h2 hs))
      | (go_at_call 109; ((with_reducible refine (canBeCut_any _ _ _ kids _ _ _ ((HA.out.below H2.out).below (box_below _ _)) h200 (HSA.out.below (box_below _ _)) (Nat.le_trans HS8.out (by decide)) HS.out).mono ?_); rintro e w3 ⟨rfl, h3⟩; have H3 := Lib.hid h3; clear h3)))
     go_ret
     exact Says.mk HV.out ((H2.out.alloc H2.out.size _).trans (H3.out.mono (by have := H2.out.size; simp; omega)))
   · have h200' : ¬ (kids.length : Int) ≤ 200 := by omega
     have HV := Lib.hid (show fitsV (some k) kids = false by rw [fitsV, decide_eq_false h200]; rfl)
     go_enter Try.func45, Try.ntmps45
     go_wp2_with (go_at_call 104; ((with_reducible refine (kindAt_yes _ _ _ n _ (grV (HK.out.below (box_below _ _))) HF.out HO.out).mono ?_); rintro e w2 ⟨sa, sc, rfl, h2, hs⟩; have H2 := Lib.hid ((box_below w _).trans (h2.mono (box_below w _).size)); clear h2 hs))
     go_ret
     exact Says.mk HV.out (H2.out.alloc H2.out.size _)
end Go.Proofs.Ytonapijgfalpaaa
