/-
  .
-/
import Derived.Test.YtgkmmnihaiopaaaGOpenQa
import Derived.Maps.OwnSet
import Derived.Maps.OwnOps
import Derived.Deep.QuietTactic
import Derived.BigQuiet
import Derived.Deep.MidRow
import Derived.Deep.WholeRow
import Derived.Test.YtgkmmnihaiopaaaJPgQa
set_option maxRecDepth 100000
set_option maxHeartbeats 40000000

namespace Go.Proofs.Ytgkmmnihaiopaaa
def rise (n : Int) : Int → List Int → Bool
 | _, [] => true
 | a, x :: r => decide (a < x) && decide (x < n) && rise n x r
theorem zbs (n : Int) : ∀ (l : List Int) (a : Int), rise n a l = true → l = [] ∨ (l.length : Int) + a < n
 | [], _, _ => Or.inl rfl
 | x :: r, a, h => by
   simp only [rise, Bool.and_eq_true, decide_eq_true_eq] at h
   right
   rcases zbs n r x h.2 with h1 | h1
   · subst h1; simp; omega
   · simp only [List.length_cons]; omega
theorem JG {n a : Int} {l : List Int} {k : Nat} {x : Int} {r : Bool} (hr : r = rise n a (l.drop k)) (h : l[k]? = some x) : r = (decide (a < x) && decide (x < n) && rise n x (l.drop (k + 1))) := by rw [hr, Yj h]; rfl
theorem QZ {n a : Int} {l : List Int} {k : Nat} {r : Bool} (hr : r = rise n a (l.drop k)) (h : l.length ≤ k) : r = true := by rw [hr, List.drop_eq_nil_of_le h]; rfl
def yR (s : Sl) : Bool := decide (0 < s.kinds.length) && decide (0 ≤ s.least) && decide (s.least ≤ s.most) && decide (s.most ≤ 1000)
def yo (n : Int) (s : Sl) : Bool := rise n (-1) s.kinds && yR s
def jC (k : Kd) : Bool := decide (1 ≤ k.name.size) && decide (k.name.size ≤ 40) && decide (k.slots.length ≤ 8)
def kindOk (n : Int) (k : Kd) : Bool := jC k && k.slots.all (yo n)
def fresh (l : List Kd) (s : List UInt8) : Bool := l.all fun k => decide (k.name.data.toList ≠ s)
def apart : List Kd → Bool
 | [] => true
 | k :: r => fresh r k.name.data.toList && apart r
def zcc (g : Gr) : Bool := decide (g.kinds.length ≤ 32) && decide (0 ≤ g.root) && decide (g.root < (g.kinds.length : Int))
def yL (g : Gr) : Bool := zcc g && g.kinds.all (kindOk g.kinds.length) && apart g.kinds
theorem Ql {α : Type} {f : α → Bool} {l : List α} {k : Nat} {x : α} {r : Bool} (hr : r = (l.drop k).all f) (h : l[k]? = some x) : r = (f x && (l.drop (k + 1)).all f) := by rw [hr, Yj h]; rfl
theorem JP {α : Type} {f : α → Bool} {l : List α} {k : Nat} {r : Bool} (hr : r = (l.drop k).all f) (h : l.length ≤ k) : r = true := by rw [hr, List.drop_eq_nil_of_le h]; rfl
theorem QC (l : List Kd) (k : Kd) (s : List UInt8) : fresh (l ++ [k]) s = (fresh l s && decide (k.name.data.toList ≠ s)) := by simp [fresh]
theorem Qo : ∀ (l : List Kd) (k : Kd), apart (l ++ [k]) = (apart l && fresh l k.name.data.toList)
 | [], k => by simp [apart, fresh]
 | x :: r, k => by
   rw [List.cons_append, apart, apart, Qo r k, QC]
   have e : decide (k.name.data.toList ≠ x.name.data.toList) = decide (x.name.data.toList ≠ k.name.data.toList) := by
    congr 1; simp only [ne_eq, eq_iff_iff]; exact ⟨fun h e => h e.symm, fun h e => h e.symm⟩
   rw [e]
   simp only [fresh, List.all_cons]
   cases List.all r _ <;> cases apart r <;> cases decide (x.name.data.toList ≠ k.name.data.toList) <;> simp
theorem kV {α : Type} {l : List α} {k : Nat} {x : α} (h : l[k]? = some x) : l.take (k + 1) = l.take k ++ [x] := by
 rw [List.take_add_one, h]; rfl
theorem zaX {l : List Kd} {s : List UInt8} {k : Nat} {x : Kd} (h : fresh l s = true) (hx : l[k]? = some x) : x.name.data.toList ≠ s := by
 have := List.all_eq_true.1 h x (List.mem_of_getElem? hx)
 simpa using this
theorem Zq {l : List Kd} {s : List UInt8} {k : Nat} {x : Kd} (hx : l[k]? = some x) : fresh (l.take (k + 1)) s = (fresh (l.take k) s && decide (x.name.data.toList ≠ s)) := by rw [kV hx, QC]
theorem Zh {l : List Kd} {k : Nat} {x : Kd} (hx : l[k]? = some x) : apart (l.take (k + 1)) = (apart (l.take k) && fresh (l.take k) x.name.data.toList) := by rw [kV hx, Qo]
end Go.Proofs.Ytgkmmnihaiopaaa
namespace Go.Proofs.Ytgkmmnihaiopaaa
open Go.RowKit
theorem YO {s : Sl} (h : ¬ (0 < s.kinds.length ∧ 0 ≤ s.least ∧ s.least ≤ s.most ∧ s.most ≤ 1000)) : yR s = false := by
 cases h2 : yR s
 · rfl
 · simp [yR] at h2
   exact absurd ⟨List.length_pos_iff.2 (by first | exact h2.1.1.1 | exact List.length_pos_iff.1 h2.1.1.1), h2.1.1.2, h2.1.2, h2.2⟩ h
def zgZ (w : World) (c : Array Value) (n : Int) (l : List Int) (a i : Value) (wr : World) : Prop :=
 ∃ (k : Nat) (x : Int), k ≤ l.length ∧ i = .int .i64 k ∧ a = .int .i64 x ∧ wr.heap[w.heap.size]? = some (.cells c 67 (0, 0)) ∧ Below w.heap.size w wr ∧ rise n (-1) l = rise n x (l.drop k)
theorem zby (w : World) (v : Value) (s : Sl) (n : Int) (hv : Yy w v s) (hf : s.few) : Calls Try.prog 124 #[v, .int .i64 n] w (Says (yo n s) w) := by
 obtain ⟨ka, kc, rfl, hk⟩ := hv
 obtain ⟨l, lo, hi⟩ := s
 simp only at hk
 have hfl : l.length ≤ 1000000 := hf
 have HK := hH hk
 clear hf hk
 go_enter Try.func124, Try.ntmps124
 go_wp2_with fail
 go_loopw [5, 11] (fun a i wr => zgZ w #[.slice ka l.length kc, .int .i64 lo, .int .i64 hi] n l a i wr) (fun _ i _ => l.length - (intOf i).toNat)
 case atStart => exact ⟨0, -1, Nat.zero_le _, rfl, rfl, heap_alloc_new w _, zh _ _, rfl⟩
 case round =>
  obtain ⟨k, a, hkl, rfl, rfl, hb, hbel, hany⟩ := hrel
  have HB := hH (aN hb hbel)
  have HA := hH hany
  by_cases hlt : k < l.length
  · obtain ⟨x, hx⟩ : ∃ x, l[k]? = some x := ⟨l[k], List.getElem?_eq_getElem hlt⟩
    obtain ⟨b, off, rfl, hblt, hc⟩ := (HK.out.below hbel) (by omega)
    have c0 := hc k x hx
    have HX := hH (JG HA.out hx)
    have hkl2 : (k : Int) < (l.length : Int) := by omega
    clear hx hc hb hbel hany
    by_cases h1 : x ≤ a
    · go_wp2_with fail
      go_ret
      exact Says.mk (by rw [yo, HX.out]; simp; intro h; omega) HB.out.2
    · by_cases h2 : n ≤ x
      · go_wp2_with fail
        go_ret
        exact Says.mk (by rw [yo, HX.out]; simp; intro _ h; omega) HB.out.2
      · go_wp2_with fail
        exact ⟨⟨k + 1, x, by omega, by go_num, rfl, HB.out.1, HB.out.2, by rw [HX.out]; simp; omega⟩, by simp [intOf]; omega⟩
  · have p0 : wr.cell? ⟨w.heap.size, 0, none⟩ = some (.slice ka l.length kc) := by rw [cell_of_row wr _ 0 _ _ _ hb]; rfl
    have p1 : wr.cell? ⟨w.heap.size, 1, none⟩ = some (.int .i64 lo) := by rw [cell_of_row wr _ 1 _ _ _ hb]; rfl
    have p2 : wr.cell? ⟨w.heap.size, 2, none⟩ = some (.int .i64 hi) := by rw [cell_of_row wr _ 2 _ _ _ hb]; rfl
    have HE := hH (show yo n ⟨l, lo, hi⟩ = yR ⟨l, lo, hi⟩ by rw [yo, QZ HA.out (by omega)]; rfl)
    have hkl2 : ¬ (k : Int) < (l.length : Int) := by omega
    have HN : ¬ (0 < l.length ∧ 0 ≤ lo ∧ lo ≤ hi ∧ hi ≤ 1000) → yo n ⟨l, lo, hi⟩ = false := fun h => HE.out.trans (YO (s := ⟨l, lo, hi⟩) h)
    have HNN := hH HN
    clear HN hb hbel hany
    by_cases h1 : 0 < l.length
    · have h1' : (0 : Int) < (l.length : Int) := by omega
      by_cases h2 : 0 ≤ lo
      · by_cases h3 : lo ≤ hi
        · by_cases h4 : hi ≤ 1000
          · go_wp2_with fail
            go_ret
            exact Says.mk (by rw [HE.out]; simp [yR, h2, h3, h4]; omega) HB.out.2
          · go_wp2_with fail
            go_ret
            exact Says.mk (HNN.out (by omega)) HB.out.2
        · go_wp2_with fail
          go_ret
          exact Says.mk (HNN.out (by omega)) HB.out.2
      · go_wp2_with fail
        go_ret
        exact Says.mk (HNN.out (by omega)) HB.out.2
    · have h1' : ¬ (0 : Int) < (l.length : Int) := by omega
      go_wp2_with fail
      go_ret
      exact Says.mk (HNN.out (by omega)) HB.out.2
def zgR (w : World) (n : Int) (l : List Sl) (i : Value) (wr : World) : Prop :=
 ∃ (k : Nat), k ≤ l.length ∧ i = .int .i64 k ∧ Below w.heap.size w wr ∧ l.all (yo n) = (l.drop k).all (yo n)
theorem za7 (w : World) (v : Value) (x : Kd) (n : Int) (hv : zas w v x) (hf : x.few) : Calls Try.prog 116 #[v, .int .i64 n] w (Says (kindOk n x) w) := by
 obtain ⟨sa, sc, rfl, hk⟩ := hv
 obtain ⟨nm, tx, l⟩ := x
 simp only at hk
 obtain ⟨hf1, hf2, hf3⟩ := hf
 simp only at hf1 hf2 hf3
 have HK := hH hk
 have HF := hH hf3
 clear hf3 hk
 have HN : ¬ (1 ≤ nm.size ∧ nm.size ≤ 40 ∧ l.length ≤ 8) → kindOk n ⟨nm, tx, l⟩ = false := fun h => by
  cases h2 : kindOk n ⟨nm, tx, l⟩
  · rfl
  · simp [kindOk, jC] at h2
    omega
 have HNN := hH HN
 clear HN
 by_cases h1 : nm.size < 1
 · have h1' : (nm.size : Int) < 1 := by omega
   go_enter Try.func116, Try.ntmps116
   go_wp2_with fail
   go_ret
   exact Says.mk (HNN.out (by omega)) (zh _ _)
 · have h1' : ¬ (nm.size : Int) < 1 := by omega
   by_cases h2 : 40 < nm.size
   · have h2' : (40 : Int) < (nm.size : Int) := by omega
     go_enter Try.func116, Try.ntmps116
     go_wp2_with fail
     go_ret
     exact Says.mk (HNN.out (by omega)) (zh _ _)
   · have h2' : ¬ (40 : Int) < (nm.size : Int) := by omega
     by_cases h3 : 8 < l.length
     · have h3' : (8 : Int) < (l.length : Int) := by omega
       go_enter Try.func116, Try.ntmps116
       go_wp2_with fail
       go_ret
       exact Says.mk (HNN.out (by omega)) (zh _ _)
     · have h3' : ¬ (8 : Int) < (l.length : Int) := by omega
       have HY := hH (show kindOk n ⟨nm, tx, l⟩ = l.all (yo n) by simp only [kindOk, jC]; rw [decide_eq_true (by omega : 1 ≤ nm.size), decide_eq_true (by omega : nm.size ≤ 40), decide_eq_true (by omega : l.length ≤ 8)]; rfl)
       clear HNN
       go_enter Try.func116, Try.ntmps116
       go_wp2_with fail
       go_loopw [26] (fun i wr => zgR w n l i wr) (fun i _ => l.length - (intOf i).toNat)
       case atStart => exact ⟨0, Nat.zero_le _, rfl, zh _ _, rfl⟩
       case round =>
        obtain ⟨k, hkl, rfl, hbel, hany⟩ := hrel
        have HB := hH hbel
        have HA := hH hany
        by_cases hlt : k < l.length
        · obtain ⟨s, hx⟩ : ∃ s, l[k]? = some s := ⟨l[k], List.getElem?_eq_getElem hlt⟩
          have hfs := HF.out s (List.mem_of_getElem? hx)
          obtain ⟨b, off, rfl, hblt, hc⟩ := (HK.out.below hbel) (by omega)
          obtain ⟨ka2, kc2, d0, d1, d2, hi⟩ := hc k s hx
          have HI := hH (aN hi hfs)
          obtain ⟨bb, hbb⟩ : ∃ bb, yo n s = bb := ⟨_, rfl⟩
          have HX := hH ((Ql HA.out hx).trans (by rw [hbb]))
          have HBB := hH hbb
          have hkl2 : (k : Int) < (l.length : Int) := by omega
          clear hx hc hi hfs hbb hbel hany
          cases bb
          · go_wp2_with (go_at_call 124; ((with_reducible refine (zby _ _ s n (Q6 (HI.out.1.below (zh _ _))) HI.out.2).mono ?_); rintro e w2 ⟨rfl, h2⟩; rw [HBB.out]; have H2 := hH ((zh wr _).trans (h2.mono (zh wr _).size)); clear h2))
            go_ret
            exact Says.mk (by rw [HY.out, HX.out]; rfl) (HB.out.trans (H2.out.mono HB.out.size))
          · go_wp2_with (go_at_call 124; ((with_reducible refine (zby _ _ s n (Q6 (HI.out.1.below (zh _ _))) HI.out.2).mono ?_); rintro e w2 ⟨rfl, h2⟩; rw [HBB.out]; have H2 := hH ((zh wr _).trans (h2.mono (zh wr _).size)); clear h2))
            exact ⟨⟨k + 1, by omega, by go_num, HB.out.trans (H2.out.mono HB.out.size), by rw [HX.out]; rfl⟩, by simp [intOf]; omega⟩
        · have HE := hH (JP HA.out (by omega))
          have hkl2 : ¬ (k : Int) < (l.length : Int) := by omega
          clear hbel hany
          go_wp2_with fail
          go_ret
          exact Says.mk (HY.out.trans HE.out) HB.out
end Go.Proofs.Ytgkmmnihaiopaaa
namespace Go.Proofs.Ytgkmmnihaiopaaa
open Go.RowKit Go.Maps
theorem zhu : Keyed Try.prog 9 := string_keyed Try.underlying9
theorem zdI (q : IntKind) (n : Int) (w : World) : (Instr.makeMap 174 (some (.int q n))).run Try.prog w = .ok (.map (some w.heap.size)) (w.alloc (.map #[] 0)) := by
 simp [Instr.makeMap, run_underlying Try.underlying174, asInt, asIntOf, Result.andThen]
theorem zgJ {k : Nat} (h : k ≤ 1000000) : (Lit.int .i64 (k : Int)).wf = true := by
 simp only [Lit.wf, Bool.and_eq_true, decide_eq_true_eq]
 have e1 : IntKind.i64.min = -9223372036854775808 := rfl
 have e2 : IntKind.i64.max = 9223372036854775807 := rfl
 omega
theorem zcC (s : List UInt8) : WideAt.IsKeyLit (.string s) := True.intro
structure zaw (l : List Kd) (k : Nat) (D : DataW Value) : Prop where
 tidy : Tidy D
 le : Maps.size D ≤ k
 size : Maps.size D = k ↔ apart (l.take k) = true
 has : ∀ s, Maps.has D (.string s) = !fresh (l.take k) s
 find : apart (l.take k) = true → ∀ j x, j < k → l[j]? = some x → D.atKey (.string x.name.data.toList) (.lit (.int .i64 0)) = .lit (.int .i64 (j : Int))
theorem zaw.start (l : List Kd) : zaw l 0 (.map []) := ⟨tidy_empty, Nat.le_refl _, ⟨fun _ => rfl, fun _ => rfl⟩, fun _ => rfl, fun _ j _ h => by omega⟩
theorem zaw.next {l : List Kd} {k : Nat} {D : DataW Value} {x : Kd} (h : zaw l k D) (hx : l[k]? = some x) : zaw l (k + 1) (D.put (.string x.name.data.toList) (.lit (.int .i64 (k : Int)))) := by
 have hs := size_put (k := .string x.name.data.toList) h.tidy (.lit (.int .i64 (k : Int)))
 have hh := h.has x.name.data.toList
 refine ⟨h.tidy.put (zcC _) _, ?_, ?_, fun s => ?_, fun ha j y hj hy => ?_⟩
 · rw [hs]; have := h.le; split <;> omega
 · rw [hs, Zh hx, hh, Bool.and_eq_true, ← h.size]
   have := h.le
   cases fresh (l.take k) x.name.data.toList
   · simp; omega
   · simp
 · by_cases e : s = x.name.data.toList
   · subst e
     rw [has_put_same h.tidy.isMap (zcC _), Zq hx]
     simp
   · rw [has_put_other (by simpa using e), h.has, Zq hx]
     have : decide (x.name.data.toList ≠ s) = true := by simpa using fun h => e h.symm
     rw [this, Bool.and_true]
 · rw [Zh hx, Bool.and_eq_true] at ha
   by_cases e : j = k
   · subst e
     rw [hx] at hy; cases hy
     exact atKey_put_same h.tidy.isMap (zcC _) _ _
   · have hjk : j < k := by omega
     have hne := zaX (k := j) ha.2 (by rw [List.getElem?_take, if_pos hjk]; exact hy)
     rw [atKey_put_other (by simpa using hne)]
     exact h.find ha.1 j y hjk hy
def zgd (w : World) (b n : Nat) (D : DataW Value) : Prop := w.ownsMap Try.prog 9 (plainElem Try.prog 3) b n D
def zfF (l : List Kd) (w : World) (e : Ending) (w' : World) : Prop := ∃ D b, e = .returned (.map (some b)) ∧ w.heap.size ≤ b ∧ zgd w' b l.length D ∧ Below w.heap.size w w' ∧ zaw l l.length D
def zfG (w : World) (b : Nat) (l : List Kd) (i : Value) (wr : World) : Prop := ∃ (k : Nat) (D : DataW Value), k ≤ l.length ∧ i = .int .i64 k ∧ zgd wr b k D ∧ Below w.heap.size w wr ∧ zaw l k D
theorem zcr (w : World) (a : Option Addr) (cap : Nat) (l : List Kd) (h : jd w a l) (hl : l.length ≤ 1000000) (hf : ∀ k ∈ l, k.few) : Calls Try.prog 117 #[.slice a l.length cap] w (zfF l w) := by
 have hmm := zdI
 have HK := hH h
 have HF := hH hf
 clear h hf
 go_enter Try.func117, Try.ntmps117
 go_wp2_with fail
 clear hmm
 go_loopw [11] (fun i wr => zfG w w.heap.size l i wr) (fun i _ => l.length - (intOf i).toNat)
 case atStart => exact ⟨0, .map [], Nat.zero_le _, rfl, World.ownsMap_made _ _ _ _, zh _ _, zaw.start l⟩
 case round =>
  obtain ⟨k, D, hkl, rfl, hown, hbel, hpl⟩ := hrel
  have HB := hH hbel
  have HP := hH hpl
  have HO := hH hown
  by_cases hlt : k < l.length
  · obtain ⟨x, hx⟩ : ∃ x, l[k]? = some x := ⟨l[k], List.getElem?_eq_getElem hlt⟩
    have hfx := (HF.out x (List.mem_of_getElem? hx)).1
    obtain ⟨b, off, rfl, hblt, hc⟩ := (HK.out.below hbel) (by omega)
    obtain ⟨sa, sc, c0, c1, c2, hs⟩ := hc k x hx
    have HX := hH (hpl.next hx)
    have HKEY := hH (WideMaps.keyOf_string_mk (P := Try.prog) Try.underlying9 (s := x.name) (by unfold maxLen; omega))
    have HW := hH (plainElem_int (H := Value) Try.underlying3 (zgJ (k := k) (by omega)))
    have hkl2 : (k : Int) < (l.length : Int) := by omega
    clear hx hc hs hfx hown hbel hpl
    go_wp2_with (at_mapUpdate; refine wpList_mapUpdate_own _ rfl _ _ _ 174 rfl 9 3 zhu Try.underlying174 _ w.heap.size k _ rfl (World.ownsMap.alloc HO.out _) (by unfold maxLen; omega) _ _ _ rfl rfl HKEY.out _ [] HW.out ?_; intro w1 hown1 hgrow1; have HO1 := hH hown1; have HG1 := hH hgrow1; clear hown1 hgrow1)
    exact ⟨⟨k + 1, _, by omega, by go_num, HO1.out, (HB.out.alloc HB.out.size _).grown HG1.out (by have := HB.out.size; simp; omega) (fun j hj => by cases hj; exact Nat.le_refl _), HX.out⟩, by simp [intOf]; omega⟩
  · obtain rfl : k = l.length := by omega
    have hkl2 : ¬ (l.length : Int) < (l.length : Int) := by omega
    clear hown hbel hpl hlt
    go_wp2_with fail
    go_ret
    exact ⟨D, _, rfl, Nat.le_refl _, HO.out, HB.out, HP.out⟩
end Go.Proofs.Ytgkmmnihaiopaaa
namespace Go.Proofs.Ytgkmmnihaiopaaa
open Go.RowKit
def Ahead (l : List Int) (k : Nat) (a : Int) : Prop := (k = 0 → a = -1) ∧ ∀ m, k = m + 1 → l[m]? = some a
def zgW (w : World) (n : Int) (l : List Int) (i : Value) (wr : World) : Prop :=
 ∃ (k : Nat) (a : Int), k ≤ l.length ∧ i = .int .i64 k ∧ -1 ≤ a ∧ Ahead l k a ∧ Below w.heap.size w wr ∧ rise n (-1) l = rise n a (l.drop k)
def rising (n : Int) (l : List Int) : Bool := rise n (-1) l && decide (0 < l.length)
theorem vS (w : World) (a : Option Addr) (cap : Nat) (l : List Int) (n : Int) (hn : n ≤ 32) (h : yK w a l) (hf : l.length ≤ 1000000) : Calls Try.prog 44 #[.slice a l.length cap, .int .i64 n] w (Says (rising n l) w) := by
 have HK := hH h
 clear h
 go_enter Try.func44, Try.ntmps44
 go_wp2_with fail
 go_loopw [5] (fun i wr => zgW w n l i wr) (fun i _ => l.length - (intOf i).toNat)
 case atStart => exact ⟨0, -1, Nat.zero_le _, rfl, by omega, ⟨fun _ => rfl, fun m h => by omega⟩, Below.refl _ _, rfl⟩
 case round =>
  obtain ⟨k, y, hkl, rfl, hy, ⟨hy0, hy1⟩, hbel, hany⟩ := hrel
  have HB := hH hbel
  have HA := hH hany
  by_cases hlt : k < l.length
  · obtain ⟨x, hx⟩ : ∃ x, l[k]? = some x := ⟨l[k], List.getElem?_eq_getElem hlt⟩
    obtain ⟨b, off, rfl, hblt, hc⟩ := (HK.out.below hbel) (by omega)
    have c0 := hc k x hx
    have HX := hH (JG HA.out hx)
    have hkl2 : (k : Int) < (l.length : Int) := by omega
    have hk0 : (0 : Int) ≤ (k : Int) := by omega
    have HXX := hH hx
    by_cases hx0 : x < 0
    · have hx0' : decide (x < 0) = true := by simpa using hx0
      clear hx hc hbel hany hy0 hy1
      go_wp2_with fail
      go_quiet (fail)
      go_wp2_with fail
      go_ret
      exact Says.mk (by rw [rising, HX.out]; simp; omega) (below_drewN HB.out _)
    · have hx0' : decide (x < 0) = false := by simpa using hx0
      by_cases hxn : n ≤ x
      · have hxn' : decide (n ≤ x) = true := by simpa using hxn
        clear hx hc hbel hany hy0 hy1
        go_wp2_with fail
        go_quiet (fail)
        go_wp2_with fail
        go_ret
        exact Says.mk (by rw [rising, HX.out]; simp; omega) (below_drewN HB.out _)
      · have hxn' : decide (n ≤ x) = false := by simpa using hxn
        by_cases hk1 : k = 0
        · have hka := hy0 hk1
          subst hka
          have hk2 : decide ((0 : Int) < (k : Int)) = false := by simp; omega
          have hk3 : decide (0 < k) = false := by simp; omega
          have HK1 := hH hk1
          clear hx hc hbel hany hy0 hy1 hk1
          go_wp2_with fail
          go_quiet (fail)
          go_wp2_with fail
          exact ⟨⟨k + 1, x, by omega, by go_num, by omega, ⟨fun h => by omega, fun m h => by obtain rfl : m = k := (by omega); exact HXX.out⟩, below_drewN HB.out _, by rw [HX.out]; simp; omega⟩, by simp [intOf]; omega⟩
        · obtain ⟨m, rfl⟩ : ∃ m, k = m + 1 := ⟨k - 1, by omega⟩
          have hym := hy1 m rfl
          have c1 := hc m y hym
          have hk2 : decide ((0 : Int) < ((m : Int) + 1)) = true := by rw [decide_eq_true]; omega
          have hk3 : decide (0 < m + 1) = true := by simp
          by_cases hle : x ≤ y
          · have hle' : decide (x ≤ y) = true := by simpa using hle
            clear hx hc hbel hany hy0 hy1 hym
            go_wp2_with fail
            go_quiet (fail)
            go_wp2_with fail
            go_ret
            exact Says.mk (by rw [rising, HX.out]; simp; omega) (below_drewN HB.out _)
          · have hle' : decide (x ≤ y) = false := by simpa using hle
            clear hx hc hbel hany hy0 hy1 hym
            go_wp2_with fail
            go_quiet (fail)
            go_wp2_with fail
            exact ⟨⟨m + 2, x, by omega, by go_num, by omega, ⟨fun h => by omega, fun j h => by obtain rfl : j = m + 1 := (by omega); exact HXX.out⟩, below_drewN HB.out _, by rw [HX.out]; simp; omega⟩, by simp [intOf]; omega⟩
  · have HE := hH (show rising n l = decide (0 < l.length) by rw [rising, QZ HA.out (by omega)]; rfl)
    have hkl2 : ¬ (k : Int) < (l.length : Int) := by omega
    have hlen := zbs n l (-1) (QZ HA.out (by omega))
    have h32 : l.length ≤ 32 := by
     rcases hlen with h | h
     · rw [h]; simp
     · omega
    clear hbel hany hlen hy0 hy1
    by_cases h1 : 0 < l.length
    · have h1' : (1 : Int) ≤ (l.length : Int) := by omega
      have h2' : (l.length : Int) ≤ 32 := by omega
      go_wp2_with fail
      go_ret
      exact Says.mk (by rw [HE.out, decide_eq_true h1]) HB.out
    · have h1' : ¬ (1 : Int) ≤ (l.length : Int) := by omega
      go_wp2_with fail
      go_ret
      exact Says.mk (by rw [HE.out, decide_eq_false h1]) HB.out
def yN (l : List Int) (x : Int) : Bool := l.any fun y => decide (y = x)
def zhj (w : World) (l : List Int) (x : Int) (i : Value) (wr : World) : Prop := ∃ k : Nat, k ≤ l.length ∧ i = .int .i64 k ∧ w = wr ∧ yN l x = yN (l.drop k) x
def zbR (b : Bool) (w : World) (e : Ending) (w' : World) : Prop := ∃ n : Int, e = .returned (.int .i64 n) ∧ (b = true → 0 ≤ n) ∧ (b = false → n < 0) ∧ w = w'
theorem zbR.yes {b : Bool} {w : World} {k : Nat} (h : b = true) : zbR b w (.returned (.int .i64 (k : Int))) w := ⟨k, rfl, (fun _ => by omega), (fun e => by rw [h] at e; cases e), rfl⟩
theorem zbR.no {b : Bool} {w : World} (h : b = false) : zbR b w (.returned (.int .i64 (-1))) w := ⟨-1, rfl, (fun e => by rw [h] at e; cases e), (fun _ => by omega), rfl⟩
theorem za0 {l : List Int} {x y : Int} {k : Nat} {r : Bool} (hr : r = yN (l.drop k) x) (h : l[k]? = some y) : r = (decide (y = x) || yN (l.drop (k + 1)) x) := Qm hr h
theorem zdC (w : World) (a : Option Addr) (cap : Nat) (l : List Int) (x : Int) (h : yK w a l) (hf : l.length ≤ 1000000) : Calls Try.prog 140 #[.slice a l.length cap, .int .i64 x] w (zbR (yN l x) w) := by
 have HK := hH h
 clear h
 go_enter Try.func140, Try.ntmps140
 go_wp2_with fail
 go_loopw [8] (fun i wr => zhj w l x i wr) (fun i _ => l.length - (intOf i).toNat)
 case atStart => exact ⟨0, Nat.zero_le _, rfl, rfl, rfl⟩
 case round =>
  obtain ⟨k, hkl, rfl, rfl, hany⟩ := hrel
  have HA := hH hany
  clear hany
  by_cases hlt : k < l.length
  · obtain ⟨y, hy⟩ : ∃ y, l[k]? = some y := ⟨l[k], List.getElem?_eq_getElem hlt⟩
    obtain ⟨b, off, rfl, hblt, hc⟩ := HK.out (by omega)
    have c0 := hc k y hy
    have HX := hH (za0 HA.out hy)
    have hkl2 : (k : Int) < (l.length : Int) := by omega
    clear hy hc
    by_cases he : x = y
    · have HE := hH he.symm
      subst he
      go_wp2_with fail
      go_ret
      exact zbR.yes (by rw [HX.out]; simp)
    · have HE := hH he
      go_wp2_with fail
      exact ⟨⟨k + 1, by omega, by go_num, rfl, by rw [HX.out, decide_eq_false (fun e => HE.out e.symm)]; rfl⟩, by simp [intOf]; omega⟩
  · have HE := hH (show yN l x = false from Y3 HA.out (by omega))
    have hkl2 : ¬ (k : Int) < (l.length : Int) := by omega
    go_wp2_with fail
    go_ret
    exact zbR.no HE.out
theorem J2 (w : World) (a : Option Addr) (cap : Nat) (l : List Int) (x : Int) (h : yK w a l) (hf : l.length ≤ 1000000) : Calls Try.prog 139 #[.slice a l.length cap, .int .i64 x] w fun e w' => e = .returned (.bool (yN l x)) ∧ w = w' := by
 have HK := hH (zdC w a cap l x h hf)
 clear h
 obtain ⟨bb, hbb⟩ : ∃ bb, yN l x = bb := ⟨_, rfl⟩
 rw [hbb]
 rw [hbb] at HK
 clear hbb
 go_enter Try.func139, Try.ntmps139
 cases bb
 · go_wp2_with (go_at_call 140; ((with_reducible refine HK.out.mono ?_); rintro e w2 ⟨n, rfl, _, h2, rfl⟩; have h3 := hH (h2 rfl); clear h2))
   go_ret
   exact ⟨by show Ending.returned (.bool (decide (0 ≤ n))) = _; rw [decide_eq_false (by have := h3.out; omega)], rfl⟩
 · go_wp2_with (go_at_call 140; ((with_reducible refine HK.out.mono ?_); rintro e w2 ⟨n, rfl, h2, _, rfl⟩; have h3 := h2 rfl; clear h2))
   go_ret
   exact ⟨rfl, rfl⟩
def zhl (w : World) (c : Array Value) (l : List Int) (x : Int) (i : Value) (wr : World) : Prop := ∃ k : Nat, k ≤ l.length ∧ i = .int .i64 k ∧ wr.heap[w.heap.size]? = some (.cells c 67 (0, 0)) ∧ Below w.heap.size w wr ∧ yN l x = yN (l.drop k) x
theorem zaa (w : World) (v : Value) (s : Sl) (x : Int) (hv : Yy w v s) (hf : s.few) : Calls Try.prog 100 #[v, .int .i64 x] w (Says (yN s.kinds x) w) := by
 obtain ⟨ka, kc, rfl, hk⟩ := hv
 obtain ⟨l, lo, hi⟩ := s
 simp only at hk ⊢
 have hfl : l.length ≤ 1000000 := hf
 have HK := hH hk
 clear hf hk
 go_enter Try.func100, Try.ntmps100
 go_wp2_with fail
 go_loopw [5] (fun i wr => zhl w #[.slice ka l.length kc, .int .i64 lo, .int .i64 hi] l x i wr) (fun i _ => l.length - (intOf i).toNat)
 case atStart => exact ⟨0, Nat.zero_le _, rfl, heap_alloc_new w _, zh _ _, rfl⟩
 case round =>
  obtain ⟨k, hkl, rfl, hb, hbel, hany⟩ := hrel
  have p0 : wr.cell? ⟨w.heap.size, 0, none⟩ = some (.slice ka l.length kc) := by rw [cell_of_row wr _ 0 _ _ _ hb]; rfl
  have HB := hH (aN hb hbel)
  have HA := hH hany
  by_cases hlt : k < l.length
  · obtain ⟨y, hy⟩ : ∃ y, l[k]? = some y := ⟨l[k], List.getElem?_eq_getElem hlt⟩
    obtain ⟨b, off, rfl, hblt, hc⟩ := (HK.out.below hbel) (by omega)
    have c0 := hc k y hy
    have HX := hH (za0 HA.out hy)
    have hkl2 : (k : Int) < (l.length : Int) := by omega
    clear hy hc hb hbel hany
    by_cases he : y = x
    · subst he
      go_wp2_with fail
      go_ret
      exact Says.mk (by rw [HX.out]; simp) HB.out.2
    · have HE := hH he
      go_wp2_with fail
      exact ⟨⟨k + 1, by omega, by go_num, HB.out.1, HB.out.2, by rw [HX.out, decide_eq_false HE.out]; rfl⟩, by simp [intOf]; omega⟩
  · have HE := hH (show yN l x = false from Y3 HA.out (by omega))
    have hkl2 : ¬ (k : Int) < (l.length : Int) := by omega
    clear hb hbel hany
    go_wp2_with fail
    go_ret
    exact Says.mk HE.out HB.out.2
def vec (f : Nat → Bool) : Array Value := ((List.range 201).map fun j => Value.bool (f j)).toArray
theorem yD (f : Nat → Bool) : (vec f).size = 201 := by simp [vec]
theorem jY (f : Nat → Bool) (j : Nat) (h : j < 201) : (vec f)[j]? = some (.bool (f j)) := by
 simp [vec, h]
theorem zam (f : Nat → Bool) (i : Nat) (b : Bool) : (vec f).setIfInBounds i (.bool b) = vec (fun j => if j = i then b else f j) := by
 apply Array.ext_getElem?
 intro j
 by_cases hj : j < 201
 · rw [jY _ j hj, Array.getElem?_setIfInBounds]
   by_cases e : i = j
   · subst e; rw [if_pos rfl, if_pos (by rw [yD]; exact hj), if_pos rfl]
   · rw [if_neg e, jY _ j hj, if_neg (fun h => e h.symm)]
 · rw [Array.getElem?_eq_none (by simp [yD]; omega), Array.getElem?_eq_none (by rw [yD]; omega)]
theorem zc3 {f g : Nat → Bool} (h : ∀ j, j < 201 → f j = g j) : vec f = vec g := by
 apply Array.ext_getElem?
 intro j
 by_cases hj : j < 201
 · rw [jY _ j hj, jY _ j hj, h j hj]
 · rw [Array.getElem?_eq_none (by rw [yD]; omega), Array.getElem?_eq_none (by rw [yD]; omega)]
def zbZ (cs : Array Value) : Bool := cs.all (·.oneCell')
theorem zf6 (f : Nat → Bool) : zbZ (vec f) = true := by
 refine Array.all_eq_true_iff_forall_mem.2 fun u hu => ?_
 simp only [vec, List.mem_toArray, List.mem_map] at hu
 obtain ⟨b, _, rfl⟩ := hu; rfl
def blk (w : World) (b : Nat) : Array Value := match w.heap[b]? with
 | some (.cells cs _ _) => cs
 | _ => #[]
theorem Yf {w : World} {b : Nat} {cs : Array Value} {t : TypeId} {fr : Nat × Nat} (h : w.heap[b]? = some (.cells cs t fr)) : blk w b = cs := by simp [blk, h]
theorem blk_alloc_new (w : World) (cs : Array Value) (t : TypeId) (n : Nat) (hn : n = w.heap.size) : blk (w.alloc (.cells cs t)) n = cs := by
 subst hn; exact Yf (heap_alloc_new w _)
theorem zeM {w : World} {b : Nat} {v : Value} (j : Nat) (h : (blk w b)[j]? = some v) : w.cell? ⟨b, j, none⟩ = some v := by
 unfold blk at h
 split at h
 · rename_i cs t fr hb; rw [cell_of_row w b j cs t fr hb]; exact h
 · simp at h
theorem Z0 {P : Program} (w : World) (b s : Nat) (ty : TypeId) (d : TypeDesc) (hu : P.underlying ty = some d) (hd : d.isRow = true) (hi : (P.info? ty).map (·.size) = some s) (h : (blk w b).size = s) :
 (loadVar ty ⟨b, 0, none⟩).run P w = .ok (.agg (blk w b)) w := by
 have := run_loadVar_mid (P := P) w b 0 ty (blk w b).toList d (fun j v hv => by
  refine zeM _ ?_
  rw [Nat.zero_add]; rw [Array.getElem?_toList] at hv; exact hv) hu hd (by rw [Array.length_toList, h]; exact hi)
 rw [Array.toArray_toList] at this
 exact this
theorem Try.zfs : (Try.prog.info? 192).map (·.size) = some 201 := by kernel_rfl
def j6 : Value → Nat
 | .pointer (some a) => a.block
 | _ => 0
def kI : Value → Bool
 | .pointer (some a) => a.off == 0 && a.spot.isNone
 | _ => false
theorem jw (a : Addr) : j6 (.pointer (some a)) = a.block := rfl
theorem Zt (b n : Nat) : kI (.pointer (some ⟨b, n, none⟩)) = (n == 0) := by simp [kI]
theorem QJ {v : Value} (h : kI v = true) : v = .pointer (some ⟨j6 v, 0, none⟩) := by
 unfold kI at h
 split at h
 · rename_i a
   obtain ⟨b, n, s⟩ := a
   simp at h
   obtain ⟨rfl, rfl⟩ := h
   rfl
 · cases h
def zbY : Value → Array Value
 | .agg cs => cs
 | _ => #[]
def isT : Value → Bool
 | .agg cs => cs.size == 201 && zbZ cs
 | _ => false
theorem Qk (cs : Array Value) : zbY (.agg cs) = cs := rfl
theorem J6 (f : Nat → Bool) : isT (.agg (vec f)) = true := by simp [isT, yD, zf6]
theorem zfU {v : Value} (h : isT v = true) : v = .agg (zbY v) ∧ (zbY v).size = 201 ∧ zbZ (zbY v) = true := by
 unfold isT at h
 split at h
 · simp at h; exact ⟨rfl, h.1, h.2⟩
 · cases h
def jh (w : World) (b : Nat) : Bool := match w.heap[b]? with
 | some (.cells cs _ fr) => cs.size == 201 && fr == (0, 0)
 | _ => false
theorem jk (w : World) (c : Array Value) (t : TypeId) (n : Nat) (hn : n = w.heap.size) : jh (w.alloc (.cells c t)) n = (c.size == 201) := by
 subst hn
 unfold jh
 rw [heap_alloc_new]
 simp
theorem Zp {w : World} {b : Nat} {cs : Array Value} {t : TypeId} (h : w.heap[b]? = some (.cells cs t (0, 0))) (hs : cs.size = 201) : jh w b = true := by simp [jh, h, hs]
theorem zaW {w : World} {b : Nat} (h : jh w b = true) : ∃ cs t, w.heap[b]? = some (.cells cs t (0, 0)) ∧ cs.size = 201 := by
 unfold jh at h
 split at h
 · rename_i cs t fr hb
   simp at h
   obtain ⟨h1, rfl⟩ := h
   exact ⟨cs, t, hb, h1⟩
 · cases h
theorem vB (w : World) (c c' : Array Value) (t : TypeId) (n : Nat) (hn : n = w.heap.size) : (w.alloc (.cells c t)).setRow n c' = w.alloc (.cells c' t) := by
 subst hn; exact World.setRow_alloc_new w c c' t
def noF : Nat → Bool := fun _ => false
def Za : Nat → Bool := fun j => decide (j = 0)
section
variable (w : World) (ρ : Operand → Value) (a : Act) (dst : Option Tmp) (x y : Operand) (ty' : TypeId) (pos : String) (aft : Array Edge) (g : Option (Nat × Bool)) (K : Act → World → Prop) (Q : Exit → Act → World → Prop)
theorem loadT (h : kI (ρ x) = true) (h2 : (blk w (j6 (ρ x))).size = 201) : (execOp ρ ⟨dst, .load 192 x, ty', pos, aft, g⟩).run Try.prog w = .ok (.value (.agg (blk w (j6 (ρ x))))) w := by
 have e := QJ h
 simp only [execOp, Sem.run_bind]
 rw [e]
 simp only [Instr.loadAt, Instr.sureAddr, Sem.run_bind, Sem.run_pure, Result.andThen_ok, jw]
 rw [Z0 (P := Try.prog) w (j6 (ρ x)) 201 192 _ Try.underlying192 rfl Try.zfs h2]
 rfl
theorem zan (h : kI (a.eval x) = true) (h2 : (blk w (j6 (a.eval x))).size = 201) : Oper.wp Try.prog ⟨dst, .load 192 x, ty', pos, aft, g⟩ a w K Q = K (a.put dst (.agg (blk w (j6 (a.eval x))))) w := by
 unfold Oper.wp
 rw [loadT w a.eval dst x ty' pos aft g h h2]
 rfl
theorem storeT (h : kI (ρ x) = true) (h2 : jh w (j6 (ρ x)) = true) (h3 : isT (ρ y) = true) :
 (execOp ρ ⟨dst, .store 192 x y, ty', pos, aft, g⟩).run Try.prog w = .ok .skip (w.setRow (j6 (ρ x)) (zbY (ρ y))) := by
 have e1 := QJ h
 obtain ⟨e2, e3, e4⟩ := zfU h3
 obtain ⟨cs, t, hb, hs⟩ := zaW h2
 have hr := run_storeVar_row (P := Try.prog) w (j6 (ρ x)) t 192 cs (zbY (ρ y)) hb (by rw [e3]; exact Try.zfs) (by omega) e4
 simp only [execOp, Sem.run_bind]
 rw [e2, e1]
 simp only [Instr.storeAt, Instr.sureAddr, Sem.run_bind, Sem.run_pure, Result.andThen_ok, jw]
 rw [hr]
 rfl
theorem Ja (h : kI (a.eval x) = true) (h2 : jh w (j6 (a.eval x)) = true) (h3 : isT (a.eval y) = true) :
 Oper.wp Try.prog ⟨dst, .store 192 x y, ty', pos, aft, g⟩ a w K Q = K (a.put dst undef) (w.setRow (j6 (a.eval x)) (zbY (a.eval y))) := by
 unfold Oper.wp
 rw [storeT w a.eval dst x y ty' pos aft g h h2 h3]
 rfl
theorem JQ : (execOp ρ ⟨dst, .alloc 192, ty', pos, aft, g⟩).run Try.prog w = .ok (.value (.pointer (some ⟨w.heap.size, 0, none⟩))) (w.alloc (.cells (vec noF) 192)) := by kernel_rfl
theorem Q8 : Oper.wp Try.prog ⟨dst, .alloc 192, ty', pos, aft, g⟩ a w K Q = K (a.put dst (.pointer (some ⟨w.heap.size, 0, none⟩))) (w.alloc (.cells (vec noF) 192)) := by
 unfold Oper.wp
 rw [JQ w a.eval dst ty' pos aft g]
 rfl
theorem zfM : (Instr.build 192 #[(0, .bool true)]).run Try.prog w = .ok (.agg (vec Za)) w := by kernel_rfl
theorem JW (h : ρ x = .bool true) : (execOp ρ ⟨dst, .build 192 #[(0, x)], ty', pos, aft, g⟩).run Try.prog w = .ok (.value (.agg (vec Za))) w := by
 simp only [execOp, List.map_toArray, List.map_cons, List.map_nil, Sem.run_bind]
 rw [h, zfM]
 rfl
theorem Q9 (h : a.eval x = .bool true) : Oper.wp Try.prog ⟨dst, .build 192 #[(0, x)], ty', pos, aft, g⟩ a w K Q = K (a.put dst (.agg (vec Za))) w := by
 unfold Oper.wp
 rw [JW w a.eval dst x ty' pos aft g h]
 rfl
end
end Go.Proofs.Ytgkmmnihaiopaaa
