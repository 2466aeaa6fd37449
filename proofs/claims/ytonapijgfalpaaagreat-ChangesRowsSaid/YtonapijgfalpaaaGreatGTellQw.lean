/-
  .
-/
import Derived.Test.YtonapijgfalpaaaGreatGWideQw
import Derived.Maps.OwnSet
import Derived.Maps.OwnOps
import Derived.Test.YtonapijgfalpaaaGreatETSameQw
import Derived.Test.YtonapijgfalpaaaGreatJPgQw
set_option maxRecDepth 100000
set_option maxHeartbeats 40000000

namespace Go.Proofs.YtonapijgfalpaaaGreat
open Go.RowKit
def zgQ (w : World) (n : Int) (l : List Sl) (i : Value) (wr : World) : Prop :=
 ∃ (k : Nat), k ≤ l.length ∧ i = .int .i64 k ∧ Below w.heap.size w wr ∧ l.all (qN n) = (l.drop k).all (qN n)
theorem zaP (w : World) (v : Value) (x : Kd) (n : Int) (hv : zfH w v x) (hf : x.few) : Calls Tryz.prog 129 #[v, .int .i64 n] w (Says (kindOk n x) w) := by
 obtain ⟨sa, sc, rfl, hk⟩ := hv
 obtain ⟨nm, tx, l⟩ := x
 simp only at hk
 obtain ⟨hf1, hf2, hf3⟩ := hf
 simp only at hf1 hf2 hf3
 have HK := hH hk
 have HF := hH hf3
 clear hf3 hk
 have HN : ¬ (1 ≤ nm.size ∧ nm.size ≤ 40 ∧ l.length ≤ 8) → kindOk n ⟨nm, tx, l⟩ = false := fun h => by
  cases h2 : kindOk n ⟨nm, tx, l⟩
  · rfl
  · simp [kindOk, Zp] at h2
    omega
 have HNN := hH HN
 clear HN
 by_cases h1 : nm.size < 1
 · have h1' : (nm.size : Int) < 1 := by omega
   go_enter Tryz.func129, Tryz.ntmps129
   go_wp2_with fail
   go_ret
   exact Says.mk (HNN.out (by omega)) (zh _ _)
 · have h1' : ¬ (nm.size : Int) < 1 := by omega
   by_cases h2 : 40 < nm.size
   · have h2' : (40 : Int) < (nm.size : Int) := by omega
     go_enter Tryz.func129, Tryz.ntmps129
     go_wp2_with fail
     go_ret
     exact Says.mk (HNN.out (by omega)) (zh _ _)
   · have h2' : ¬ (40 : Int) < (nm.size : Int) := by omega
     by_cases h3 : 8 < l.length
     · have h3' : (8 : Int) < (l.length : Int) := by omega
       go_enter Tryz.func129, Tryz.ntmps129
       go_wp2_with fail
       go_ret
       exact Says.mk (HNN.out (by omega)) (zh _ _)
     · have h3' : ¬ (8 : Int) < (l.length : Int) := by omega
       have HY := hH (show kindOk n ⟨nm, tx, l⟩ = l.all (qN n) by simp only [kindOk, Zp]; rw [decide_eq_true (by omega : 1 ≤ nm.size), decide_eq_true (by omega : nm.size ≤ 40), decide_eq_true (by omega : l.length ≤ 8)]; rfl)
       clear HNN
       go_enter Tryz.func129, Tryz.ntmps129
       go_wp2_with fail
       go_loopw [26] (fun i wr => zgQ w n l i wr) (fun i _ => l.length - (intOf i).toNat)
       case atStart => exact ⟨0, Nat.zero_le _, rfl, zh _ _, rfl⟩
       case round =>
        obtain ⟨k, hkl, rfl, hbel, hany⟩ := hrel
        have HB := hH hbel
        have HA := hH hany
        by_cases hlt : k < l.length
        · obtain ⟨s, hx⟩ : ∃ s, l[k]? = some s := ⟨l[k], List.getElem?_eq_getElem hlt⟩
          have hfs := HF.out s (List.mem_of_getElem? hx)
          obtain ⟨b, off, rfl, hblt, hc⟩ := (HK.out.below hbel) (by omega)
          obtain ⟨ka2, kc2, d0, d1, d2, hi⟩ := hc k s hx
          have HI := hH (aN hi hfs)
          obtain ⟨bb, hbb⟩ : ∃ bb, qN n s = bb := ⟨_, rfl⟩
          have HX := hH ((zbf HA.out hx).trans (by rw [hbb]))
          have HBB := hH hbb
          have hkl2 : (k : Int) < (l.length : Int) := by omega
          clear hx hc hi hfs hbb hbel hany
          cases bb
          · go_wp2_with (go_at_call 143; ((with_reducible refine (zac _ _ s n (zch (HI.out.1.below (zh _ _))) HI.out.2).mono ?_); rintro e w2 ⟨rfl, h2⟩; rw [HBB.out]; have H2 := hH ((zh wr _).trans (h2.mono (zh wr _).size)); clear h2))
            go_ret
            exact Says.mk (by rw [HY.out, HX.out]; rfl) (HB.out.trans (H2.out.mono HB.out.size))
          · go_wp2_with (go_at_call 143; ((with_reducible refine (zac _ _ s n (zch (HI.out.1.below (zh _ _))) HI.out.2).mono ?_); rintro e w2 ⟨rfl, h2⟩; rw [HBB.out]; have H2 := hH ((zh wr _).trans (h2.mono (zh wr _).size)); clear h2))
            exact ⟨⟨k + 1, by omega, by go_num, HB.out.trans (H2.out.mono HB.out.size), by rw [HX.out]; rfl⟩, by simp [intOf]; omega⟩
        · have HE := hH (zcn HA.out (by omega))
          have hkl2 : ¬ (k : Int) < (l.length : Int) := by omega
          clear hbel hany
          go_wp2_with fail
          go_ret
          exact Says.mk (HY.out.trans HE.out) HB.out
end Go.Proofs.YtonapijgfalpaaaGreat
namespace Go.Proofs.YtonapijgfalpaaaGreat
open Go.RowKit Go.Maps
theorem zgY : Keyed Tryz.prog 9 := string_keyed Tryz.underlying9
theorem zc2 (q : IntKind) (n : Int) (w : World) : (Instr.makeMap 172 (some (.int q n))).run Tryz.prog w = .ok (.map (some w.heap.size)) (w.alloc (.map #[] 0)) := by
 simp [Instr.makeMap, run_underlying Tryz.underlying172, asInt, asIntOf, Result.andThen]
theorem zf2 {k : Nat} (h : k ≤ 1000000) : (Lit.int .i64 (k : Int)).wf = true := by
 simp only [Lit.wf, Bool.and_eq_true, decide_eq_true_eq]
 have e1 : IntKind.i64.min = -9223372036854775808 := rfl
 have e2 : IntKind.i64.max = 9223372036854775807 := rfl
 omega
theorem zb9 (s : List UInt8) : WideAt.IsKeyLit (.string s) := True.intro
structure za6 (l : List Kd) (k : Nat) (D : DataW Value) : Prop where
 tidy : Tidy D
 le : Maps.size D ≤ k
 size : Maps.size D = k ↔ apart (l.take k) = true
 has : ∀ s, Maps.has D (.string s) = !fresh (l.take k) s
 find : apart (l.take k) = true → ∀ j x, j < k → l[j]? = some x → D.atKey (.string x.name.data.toList) (.lit (.int .i64 0)) = .lit (.int .i64 (j : Int))
theorem za6.start (l : List Kd) : za6 l 0 (.map []) := ⟨tidy_empty, Nat.le_refl _, ⟨fun _ => rfl, fun _ => rfl⟩, fun _ => rfl, fun _ j _ h => by omega⟩
theorem za6.next {l : List Kd} {k : Nat} {D : DataW Value} {x : Kd} (h : za6 l k D) (hx : l[k]? = some x) : za6 l (k + 1) (D.put (.string x.name.data.toList) (.lit (.int .i64 (k : Int)))) := by
 have hs := size_put (k := .string x.name.data.toList) h.tidy (.lit (.int .i64 (k : Int)))
 have hh := h.has x.name.data.toList
 refine ⟨h.tidy.put (zb9 _) _, ?_, ?_, fun s => ?_, fun ha j y hj hy => ?_⟩
 · rw [hs]; have := h.le; split <;> omega
 · rw [hs, YT hx, hh, Bool.and_eq_true, ← h.size]
   have := h.le
   cases fresh (l.take k) x.name.data.toList
   · simp; omega
   · simp
 · by_cases e : s = x.name.data.toList
   · subst e
     rw [has_put_same h.tidy.isMap (zb9 _), YI hx]
     simp
   · rw [has_put_other (by simpa using e), h.has, YI hx]
     have : decide (x.name.data.toList ≠ s) = true := by simpa using fun h => e h.symm
     rw [this, Bool.and_true]
 · rw [YT hx, Bool.and_eq_true] at ha
   by_cases e : j = k
   · subst e
     rw [hx] at hy; cases hy
     exact atKey_put_same h.tidy.isMap (zb9 _) _ _
   · have hjk : j < k := by omega
     have hne := zee (k := j) ha.2 (by rw [List.getElem?_take, if_pos hjk]; exact hy)
     rw [atKey_put_other (by simpa using hne)]
     exact h.find ha.1 j y hjk hy
def zfJ (w : World) (b n : Nat) (D : DataW Value) : Prop := w.ownsMap Tryz.prog 9 (plainElem Tryz.prog 3) b n D
def zft (l : List Kd) (w : World) (e : Ending) (w' : World) : Prop := ∃ D b, e = .returned (.map (some b)) ∧ w.heap.size ≤ b ∧ zfJ w' b l.length D ∧ Below w.heap.size w w' ∧ za6 l l.length D
def ze7 (w : World) (b : Nat) (l : List Kd) (i : Value) (wr : World) : Prop := ∃ (k : Nat) (D : DataW Value), k ≤ l.length ∧ i = .int .i64 k ∧ zfJ wr b k D ∧ Below w.heap.size w wr ∧ za6 l k D
theorem zbX (w : World) (a : Option Addr) (cap : Nat) (l : List Kd) (h : kH w a l) (hl : l.length ≤ 1000000) (hf : ∀ k ∈ l, k.few) : Calls Tryz.prog 130 #[.slice a l.length cap] w (zft l w) := by
 have hmm := zc2
 have HK := hH h
 have HF := hH hf
 clear h hf
 go_enter Tryz.func130, Tryz.ntmps130
 go_wp2_with fail
 clear hmm
 go_loopw [11] (fun i wr => ze7 w w.heap.size l i wr) (fun i _ => l.length - (intOf i).toNat)
 case atStart => exact ⟨0, .map [], Nat.zero_le _, rfl, World.ownsMap_made _ _ _ _, zh _ _, za6.start l⟩
 case round =>
  obtain ⟨k, D, hkl, rfl, hown, hbel, hpl⟩ := hrel
  have HB := hH hbel
  have HP := hH hpl
  have HO := hH hown
  by_cases hlt : k < l.length
  · obtain ⟨x, hx⟩ : ∃ x, l[k]? = some x := ⟨l[k], List.getElem?_eq_getElem hlt⟩
    have hfx := (HF.out x (List.mem_of_getElem? hx)).1
    obtain ⟨b, off, rfl, hblt, hc⟩ := (HK.out.below hbel) (by omega)
    obtain ⟨sa, sc, c0, c1, c2, hs⟩ := hc k x hx
    have HX := hH (hpl.next hx)
    have HKEY := hH (WideMaps.keyOf_string_mk (P := Tryz.prog) Tryz.underlying9 (s := x.name) (by unfold maxLen; omega))
    have HW := hH (plainElem_int (H := Value) Tryz.underlying3 (zf2 (k := k) (by omega)))
    have hkl2 : (k : Int) < (l.length : Int) := by omega
    clear hx hc hs hfx hown hbel hpl
    go_wp2_with (at_mapUpdate; refine wpList_mapUpdate_own _ rfl _ _ _ 172 rfl 9 3 zgY Tryz.underlying172 _ w.heap.size k _ rfl (World.ownsMap.alloc HO.out _) (by unfold maxLen; omega) _ _ _ rfl rfl HKEY.out _ [] HW.out ?_; intro w1 hown1 hgrow1; have HO1 := hH hown1; have HG1 := hH hgrow1; clear hown1 hgrow1)
    exact ⟨⟨k + 1, _, by omega, by go_num, HO1.out, (HB.out.alloc HB.out.size _).grown HG1.out (by have := HB.out.size; simp; omega) (fun j hj => by cases hj; exact Nat.le_refl _), HX.out⟩, by simp [intOf]; omega⟩
  · obtain rfl : k = l.length := by omega
    have hkl2 : ¬ (l.length : Int) < (l.length : Int) := by omega
    clear hown hbel hpl hlt
    go_wp2_with fail
    go_ret
    exact ⟨D, _, rfl, Nat.le_refl _, HO.out, HB.out, HP.out⟩
def zf8 (w : World) (c : Array Value) (n : Int) (l : List Kd) (i : Value) (wr : World) : Prop :=
 ∃ (k : Nat), k ≤ l.length ∧ i = .int .i64 k ∧ wr.heap[w.heap.size]? = some (.cells c 34 (0, 0)) ∧ Below w.heap.size w wr ∧ l.all (kindOk n) = (l.drop k).all (kindOk n)
theorem ze9 {g : Gr} (h : ¬ (g.kinds.length ≤ 32 ∧ 0 ≤ g.root ∧ g.root < (g.kinds.length : Int))) : je g = false := by
 cases h2 : je g
 · rfl
 · simp [je, zbR] at h2
   omega
theorem zde {g : Gr} (h1 : g.kinds.length ≤ 32) (h2 : 0 ≤ g.root) (h3 : g.root < (g.kinds.length : Int)) : je g = (g.kinds.all (kindOk g.kinds.length) && apart g.kinds) := by
 simp only [je, zbR]; rw [decide_eq_true h1, decide_eq_true h2, decide_eq_true h3]; rfl
theorem kz (w : World) (v : Value) (g : Gr) (hv : GrV w v g) (hf : g.few) : Calls Tryz.prog 108 #[v] w (Says (je g) w) := by
 obtain ⟨ka, kc, rfl, hk⟩ := hv
 obtain ⟨l, root⟩ := g
 simp only at hk ⊢
 have hfl : l.length ≤ 1000000 := hf.1
 have HF := hH hf.2
 have HK := hH hk
 clear hf hk
 have HN := hH (fun (h : ¬ (l.length ≤ 32 ∧ 0 ≤ root ∧ root < (l.length : Int))) => ze9 (g := ⟨l, root⟩) h)
 by_cases h1 : 32 < l.length
 · have h1' : (32 : Int) < (l.length : Int) := by omega
   go_enter Tryz.func108, Tryz.ntmps108
   go_wp2_with fail
   go_ret
   exact Says.mk (HN.out (by omega)) (zh _ _)
 · have h1' : ¬ (32 : Int) < (l.length : Int) := by omega
   by_cases h2 : root < 0
   · go_enter Tryz.func108, Tryz.ntmps108
     go_wp2_with fail
     go_ret
     exact Says.mk (HN.out (by omega)) (zh _ _)
   · by_cases h3 : (l.length : Int) ≤ root
     · go_enter Tryz.func108, Tryz.ntmps108
       go_wp2_with fail
       go_ret
       exact Says.mk (HN.out (by omega)) (zh _ _)
     · have HY := hH (zde (g := ⟨l, root⟩) (by simp only; omega) (by simp only; omega) (by simp only; omega))
       clear HN
       go_enter Tryz.func108, Tryz.ntmps108
       go_wp2_with fail
       go_loopw [25] (fun i wr => zf8 w #[.slice ka l.length kc, .int .i64 root] l.length l i wr) (fun i _ => l.length - (intOf i).toNat)
       case atStart => exact ⟨0, Nat.zero_le _, rfl, heap_alloc_new w _, zh _ _, rfl⟩
       case round =>
        obtain ⟨k, hkl, rfl, hb, hbel, hany⟩ := hrel
        have HB := hH (aN hb hbel)
        have HA := hH hany
        by_cases hlt : k < l.length
        · obtain ⟨x, hx⟩ : ∃ x, l[k]? = some x := ⟨l[k], List.getElem?_eq_getElem hlt⟩
          have hfs := HF.out x (List.mem_of_getElem? hx)
          obtain ⟨b, off, rfl, hblt, hc⟩ := (HK.out.below hbel) (by omega)
          obtain ⟨sa, sc, d0, d1, d2, hi⟩ := hc k x hx
          have HI := hH (aN hi hfs)
          obtain ⟨bb, hbb⟩ : ∃ bb, kindOk (l.length : Int) x = bb := ⟨_, rfl⟩
          have HX := hH ((zbf HA.out hx).trans (by rw [hbb]))
          have HBB := hH hbb
          have hkl2 : (k : Int) < (l.length : Int) := by omega
          clear hx hc hi hfs hbb hb hbel hany
          cases bb
          · go_wp2_with (go_at_call 129; ((with_reducible refine (zaP _ _ x _ (zfO (HI.out.1.below (zh _ _))) HI.out.2).mono ?_); rintro e w2 ⟨rfl, h2⟩; rw [HBB.out]; have H2 := hH ((zh wr _).trans (h2.mono (zh wr _).size)); clear h2))
            go_ret
            exact Says.mk (by rw [HY.out, HX.out]; rfl) (HB.out.2.trans (H2.out.mono HB.out.2.size))
          · go_wp2_with (go_at_call 129; ((with_reducible refine (zaP _ _ x _ (zfO (HI.out.1.below (zh _ _))) HI.out.2).mono ?_); rintro e w2 ⟨rfl, h2⟩; rw [HBB.out]; have H2 := hH ((zh wr _).trans (h2.mono (zh wr _).size)); clear h2))
            exact ⟨⟨k + 1, by omega, by go_num, (H2.out.block _ (ko HB.out.1)).trans HB.out.1, HB.out.2.trans (H2.out.mono HB.out.2.size), by rw [HX.out]; rfl⟩, by simp [intOf]; omega⟩
        · have HE := hH (zcn HA.out (by omega))
          have p0 : wr.cell? ⟨w.heap.size, 0, none⟩ = some (.slice ka l.length kc) := by rw [cell_of_row wr _ 0 _ _ _ hb]; rfl
          have hkl2 : ¬ (k : Int) < (l.length : Int) := by omega
          have HKW := hH (HK.out.below hbel)
          clear hb hbel hany
          go_wp2_with (first
           | (go_at_call 130; ((with_reducible refine (zbX _ _ _ l HKW.out hfl HF.out).mono ?_); rintro e w2 ⟨D, mb, rfl, hmb, hown, h2, hpl⟩; have H2 := hH h2; have HP := hH hpl; have HO := hH hown; clear h2 hpl hown))
           | (at_len; (refine wpList_len_own _ rfl _ 172 rfl 9 3 Tryz.underlying172 _ mb _ D rfl HO.out ?_); obtain ⟨sz, hsz⟩ : ∃ sz, sz = Maps.size D := ⟨_, rfl⟩; rw [← hsz]; have HZ := hH hsz; clear hsz))
          go_ret
          refine Says.mk ?_ (HB.out.2.trans (H2.out.mono HB.out.2.size))
          have hall := HP.out.size
          rw [List.take_of_length_le (Nat.le_refl _), ← HZ.out] at hall
          rw [HY.out, HE.out]
          cases hap : apart l
          · have : ¬ sz = l.length := fun h => by rw [hall.1 h] at hap; cases hap
            simp; omega
          · have := hall.2 hap
            simp; omega
def zbU (b : Bool) : Int := if b then 0 else 50
theorem zbC {w w2 : World} {cs : Array Value} {t : TypeId} (h : Below (w.alloc (.cells cs t)).heap.size (w.alloc (.cells cs t)) w2) (j : Nat) (v : Value) (hv : cs[j]? = some v) : w2.cell? ⟨w.heap.size, j, none⟩ = some v := by
 rw [World.cell?_of_block (h.block w.heap.size (by simp)), cell_of_row _ _ j _ _ _ (heap_alloc_new w _)]; exact hv
theorem Jg (w : World) (v : Value) (g : Gr) (hv : GrV w v g) (hf : g.few) : Calls Tryz.prog 86 #[v] w (zbk (zbU (je g)) w) := by
 obtain ⟨ka, kc, rfl, hk⟩ := hv
 obtain ⟨l, root⟩ := g
 simp only at hk
 have HF := hH hf
 have HK := hH hk
 obtain ⟨bb, hbb⟩ : ∃ bb, je ⟨l, root⟩ = bb := ⟨_, rfl⟩
 rw [hbb]
 have HBB := hH hbb
 clear hf hk hbb
 go_enter Tryz.func86, Tryz.ntmps86
 cases bb
 · go_wp2_with (go_at_call 108; ((with_reducible refine (kz _ _ _ (grV (HK.out.below (zh _ _))) HF.out).mono ?_); rintro e w2 ⟨rfl, h2⟩; rw [HBB.out]; have H2 := hH ((zh w _).trans (h2.mono (zh w _).size)); clear h2))
   go_ret
   exact ⟨rfl, H2.out⟩
 · go_wp2_with (go_at_call 108; ((with_reducible refine (kz _ _ _ (grV (HK.out.below (zh _ _))) HF.out).mono ?_); rintro e w2 ⟨rfl, h2⟩; rw [HBB.out]; have H2 := hH ((zh w _).trans (h2.mono (zh w _).size)); clear h2))
   go_ret
   exact ⟨rfl, H2.out⟩
def kindOf (g : Gr) (n : Int) : Option Kd := if je g = true ∧ 0 ≤ n then g.kinds[n.toNat]? else none
def ZV (w : World) (e : Ending) (w' : World) : Prop := e = .returned (.tuple #[.agg #[.string ⟨#[]⟩, .bool false, .slice none 0 0], .bool false]) ∧ Below w.heap.size w w'
def zgC (k : Kd) (w : World) (e : Ending) (w' : World) : Prop := ∃ sa sc, e = .returned (.tuple #[.agg #[.string k.name, .bool k.text, .slice sa k.slots.length sc], .bool true]) ∧ Below w.heap.size w w' ∧ vX w' sa k.slots
theorem ZL {w w2 : World} {o : Obj} {cs : Array Value} {t : TypeId} (h : Below ((w.alloc o).alloc (.cells cs t)).heap.size ((w.alloc o).alloc (.cells cs t)) w2) (j : Nat) (v : Value) (hv : cs[j]? = some v) : w2.cell? ⟨w.heap.size + 1, j, none⟩ = some v := by
 have := zbC h j v hv
 simpa using this
theorem Ym {w w2 : World} {o : Obj} {cs : Array Value} {t : TypeId} (h : Below ((w.alloc o).alloc (.cells cs t)).heap.size ((w.alloc o).alloc (.cells cs t)) w2) (j : Nat) : w2.frozen? ⟨w.heap.size + 1, j, none⟩ = false := by
 have hb : w2.heap[(w.alloc o).heap.size]? = some (.cells cs t (0, 0)) := (h.block _ (by simp)).trans (heap_alloc_new _ _)
 rw [World.size_alloc] at hb
 exact frozen_of_row w2 _ j _ _ hb
theorem Yk {w w2 : World} {o : Obj} {cs : Array Value} {t : TypeId} (h : Below ((w.alloc o).alloc (.cells cs t)).heap.size ((w.alloc o).alloc (.cells cs t)) w2) : w2.heap[w.heap.size + 1]? = some (.cells cs t (0, 0)) := by
 have hb : w2.heap[(w.alloc o).heap.size]? = some (.cells cs t (0, 0)) := (h.block _ (by simp)).trans (heap_alloc_new _ _)
 rwa [World.size_alloc] at hb
theorem Ja {w w2 : World} {o o' : Obj} (h : Below ((w.alloc o).alloc o').heap.size ((w.alloc o).alloc o') w2) : w.heap.size + 1 < w2.heap.size := by
 have := h.size
 simp at this
 omega
theorem zfU {w w2 : World} {o : Obj} {cs : Array Value} {t : TypeId} (h : Below ((w.alloc (.cells cs t)).alloc o).heap.size ((w.alloc (.cells cs t)).alloc o) w2) (j : Nat) (v : Value) (hv : cs[j]? = some v) : w2.cell? ⟨w.heap.size, j, none⟩ = some v := by
 rw [World.cell?_of_block (h.block w.heap.size (by simp; omega)), World.cell?_of_block (Below.heap_alloc _ _ _ (by simp)), cell_of_row _ _ j _ _ _ (heap_alloc_new w _)]; exact hv
theorem ZV.mk {w w' : World} (h : Below w.heap.size w w') : ZV w (.returned (.tuple #[.agg #[.string ⟨#[]⟩, .bool false, .slice none 0 0], .bool false])) w' := ⟨rfl, h⟩
theorem zaJ {g : Gr} {n : Int} (h : kindOf g n = none) (hg : je g = true) : ¬ (0 ≤ n ∧ n < (g.kinds.length : Int)) := fun ⟨h1, h2⟩ => by
 rw [kindOf, if_pos ⟨hg, h1⟩, List.getElem?_eq_none_iff] at h
 omega
theorem jV {g : Gr} {n : Int} {k : Kd} (h : kindOf g n = some k) : je g = true ∧ ∃ j : Nat, n = (j : Int) ∧ j < g.kinds.length ∧ g.kinds[j]? = some k := by
 unfold kindOf at h
 split at h
 · rename_i h1
   have := (List.getElem?_eq_some_iff.1 h).1
   exact ⟨h1.1, n.toNat, by omega, this, h⟩
 · cases h
theorem zgB {w : World} {b : Nat} {x0 x1 x2 : Value} {t : TypeId} (h : w.heap[b]? = some (.cells #[x0, x1, x2] t (0, 0))) (y0 y1 y2 : Value) :
 ∃ W, W = ((w.setCell ⟨b, 0, none⟩ y0).setCell ⟨b, 1, none⟩ y1).setCell ⟨b, 2, none⟩ y2 ∧ W.heap[b]? = some (.cells #[y0, y1, y2] t (0, 0)) ∧ Below b w W := by
 have b0 : Below b w (w.setCell ⟨b, 0, none⟩ y0) := (Below.refl b w).setCell (p := ⟨b, 0, none⟩) (Nat.le_refl b) y0
 have b1 : Below b w ((w.setCell ⟨b, 0, none⟩ y0).setCell ⟨b, 1, none⟩ y1) := b0.setCell (p := ⟨b, 1, none⟩) (Nat.le_refl b) y1
 refine ⟨_, rfl, ?_, b1.setCell (p := ⟨b, 2, none⟩) (Nat.le_refl b) y2⟩
 rw [heap_setCell_same _ b 2 _ _ y2 (heap_setCell_same _ b 1 _ _ y1 (heap_setCell_same w b 0 _ _ y0 h))]
 rfl
theorem zgD {w : World} {b : Nat} {x0 x1 x2 : Value} {t : TypeId} (h : w.heap[b]? = some (.cells #[x0, x1, x2] t (0, 0))) : w.cell? ⟨b, 0, none⟩ = some x0 ∧ w.cell? ⟨b, 1, none⟩ = some x1 ∧ w.cell? ⟨b, 2, none⟩ = some x2 :=
 ⟨by rw [cell_of_row w b 0 _ _ _ h]; rfl, by rw [cell_of_row w b 1 _ _ _ h]; rfl, by rw [cell_of_row w b 2 _ _ _ h]; rfl⟩
theorem Jc (w : World) (v : Value) (g : Gr) (n : Int) (hv : GrV w v g) (hf : g.few) (hn : kindOf g n = none) : Calls Tryz.prog 157 #[v, .int .i64 n] w (ZV w) := by
 obtain ⟨ka, kc, rfl, hk⟩ := hv
 obtain ⟨l, root⟩ := g
 simp only at hk
 have hfl : l.length ≤ 1000000 := hf.1
 have HF := hH hf
 have HK := hH hk
 have HN := hH (zaJ hn)
 clear hf hk hn
 by_cases h1 : n < 0
 · go_enter Tryz.func157, Tryz.ntmps157
   go_wp2_with fail
   exact bodyPost_ret (v := .tuple #[.agg #[.string ⟨#[]⟩, .bool false, .slice none 0 0], .bool false]) (by simp [results, Tryz.results157, go_sem]) rfl (ZV.mk (zn _ _ _))
 · by_cases h2 : (l.length : Int) ≤ n
   · go_enter Tryz.func157, Tryz.ntmps157
     go_wp2_with fail
     exact bodyPost_ret (v := .tuple #[.agg #[.string ⟨#[]⟩, .bool false, .slice none 0 0], .bool false]) (by simp [results, Tryz.results157, go_sem]) rfl (ZV.mk (zn _ _ _))
   · have HG := hH (show je ⟨l, root⟩ = false by
      cases h : je ⟨l, root⟩
      · rfl
      · exact absurd ⟨by omega, by show n < (l.length : Int); omega⟩ (HN.out h))
     go_enter Tryz.func157, Tryz.ntmps157
     go_wp2_with (go_at_call 108; ((with_reducible refine (kz _ _ _ (grV (HK.out.below (zn _ _ _))) HF.out).mono ?_); rintro e w2 ⟨rfl, h2⟩; rw [HG.out]; have H2 := hH h2; have p0 := ZL h2 0 _ rfl; have p1 := ZL h2 1 _ rfl; have p2 := ZL h2 2 _ rfl; have q0 := Ym h2; have hz : w.heap.size + 1 < w2.heap.size := Ja h2; clear h2))
     obtain ⟨W, hW, hWb, hWB⟩ := zgB (Yk H2.out) (.string { data := #[] }) (.bool false) (.slice none 0 0)
     rw [← hW]
     obtain ⟨e0, e1, e2⟩ := zgD hWb
     refine bodyPost_ret (v := .tuple #[.agg #[.string ⟨#[]⟩, .bool false, .slice none 0 0], .bool false]) (by simp [results, Tryz.results157, go_sem, e0, e1, e2]) rfl (ZV.mk ?_)
     exact ((zn w _ _).trans (H2.out.mono (zn w _ _).size)).trans (hWB.mono (Nat.le_succ _))
theorem qQ (w : World) (v : Value) (g : Gr) (n : Int) (k : Kd) (hv : GrV w v g) (hf : g.few) (hn : kindOf g n = some k) : Calls Tryz.prog 157 #[v, .int .i64 n] w (zgC k w) := by
 obtain ⟨ka, kc, rfl, hk⟩ := hv
 obtain ⟨l, root⟩ := g
 simp only at hk
 have hfl : l.length ≤ 1000000 := hf.1
 obtain ⟨hg, j, rfl, hj, hx⟩ := jV hn
 simp only at hj hx
 obtain ⟨b, off, rfl, hblt, hc⟩ := hk (by omega)
 obtain ⟨sa, sc, c0, c1, c2, hs⟩ := hc j k hx
 have HF := hH hf
 have HK := hH hk
 have HG := hH hg
 have HS := hH hs
 have HC := hH (aN c0 (aN c1 c2))
 have hj2 : (j : Int) < (l.length : Int) := by omega
 clear hf hk hn hg hx hc hs c0 c1 c2
 go_enter Tryz.func157, Tryz.ntmps157
 go_wp2_with (go_at_call 108; ((with_reducible refine (kz _ _ _ (grV (HK.out.below (zn _ _ _))) HF.out).mono ?_); rintro e w2 ⟨rfl, h2⟩; rw [HG.out]; have H2 := hH h2; have HB := hH ((zn w _ _).trans (h2.mono (zn w _ _).size)); have p0 := zfU h2 0 _ rfl; have q0 := ZL h2 0 _ rfl; have q1 := ZL h2 1 _ rfl; have q2 := ZL h2 2 _ rfl; have q3 := Ym h2; have hz : w.heap.size + 1 < w2.heap.size := Ja h2; have d0 := (HB.out.cell hblt).trans HC.out.1; have d1 := (HB.out.cell hblt).trans HC.out.2.1; have d2 := (HB.out.cell hblt).trans HC.out.2.2; clear h2))
 obtain ⟨W, hW, hWb, hWB⟩ := zgB (Yk H2.out) (.string k.name) (.bool k.text) (.slice sa k.slots.length sc)
 rw [← hW]
 obtain ⟨e0, e1, e2⟩ := zgD hWb
 have hBW := HB.out.trans (hWB.mono (Nat.le_succ _))
 exact bodyPost_ret (v := .tuple #[.agg #[.string k.name, .bool k.text, .slice sa k.slots.length sc], .bool true]) (by simp [results, Tryz.results157, go_sem, e0, e1, e2]) rfl ⟨sa, sc, rfl, hBW, HS.out.below hBW⟩
end Go.Proofs.YtonapijgfalpaaaGreat
