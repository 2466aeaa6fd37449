/-
  .
-/
import Derived.Test.YtgkmmnihaiopaaaGRTellQa
import Derived.Laws.CopyOwn
import Derived.Deep.LoopGhost
import Derived.WalkMore
import Derived.Test.YtgkmmnihaiopaaaJPgQa
set_option maxRecDepth 100000
set_option maxHeartbeats 40000000

namespace Go.Proofs.Ytgkmmnihaiopaaa
open Go.RowKit
attribute [local go_sem ↓] loadT zan storeT Ja JQ Q8 JW Q9
attribute [local go_sem] jw Zt Qk J6 yD jk vB blk_alloc_new
def zgN (f : Nat → Bool) (w : World) (e : Ending) (w' : World) : Prop := e = .returned (.agg (vec f)) ∧ Below w.heap.size w w'
theorem YM {w : World} {b : Nat} {f : Nat → Bool} {t : TypeId} (h : w.heap[b]? = some (.cells (vec f) t (0, 0))) : (loadVar 192 ⟨b, 0, none⟩).run Try.prog w = .ok (.agg (vec f)) w := by
 have := Z0 (P := Try.prog) w b 201 192 _ Try.underlying192 rfl Try.zfs (by rw [Yf h, yD])
 rwa [Yf h] at this
theorem Z9 {P : Program} {fn : Func} {p : Tmp} {ty : TypeId} (h : fn.results = #[.cell p ty]) (tmps : Array Value) (w : World) (a : Addr) (v : Value) (hp : tmps.getD p undef = .pointer (some a)) (hv : (loadVar ty a).run P w = .ok v w) :
 (results fn tmps).run P w = .ok v w := by
 have hp' : tmps[p]?.getD undef = .pointer (some a) := by simpa using hp
 simp [results, h, hp', asAddr, hv]
def zek (w : World) (c : Array Value) (kids kinds : List Int) (i : Value) (wr : World) : Prop :=
 ∃ (k : Nat) (f : Nat → Bool), k ≤ kids.length ∧ i = .int .i64 k ∧ wr.heap[w.heap.size]? = some (.cells c 67 (0, 0)) ∧ wr.heap[w.heap.size + 1]? = some (.cells (vec noF) 192 (0, 0)) ∧ wr.heap[w.heap.size + 2]? = some (.cells (vec f) 192 (0, 0)) ∧
  Below w.heap.size w wr ∧ ∀ j, f j = (decide (j < k) && vF kids kinds j)
theorem jX (w : World) (o o' o'' : Obj) : (((w.alloc o).alloc o').alloc o'').heap[w.heap.size]? = some o ∧ (((w.alloc o).alloc o').alloc o'').heap[w.heap.size + 1]? = some o' ∧ (((w.alloc o).alloc o').alloc o'').heap[w.heap.size + 2]? = some o'' := by
 have h1 := heap_alloc_new (w.alloc o) o'
 have h2 := heap_alloc_new ((w.alloc o).alloc o') o''
 simp only [World.size_alloc] at h1 h2
 exact ⟨by rw [Below.heap_alloc _ _ _ (by simp; omega), Below.heap_alloc _ _ _ (by simp)]; exact heap_alloc_new w o, by rw [Below.heap_alloc _ _ _ (by simp)]; exact h1, h2⟩
theorem vo (w : World) (o o' o'' : Obj) : Below w.heap.size w (((w.alloc o).alloc o').alloc o'') := (((Below.refl _ _).alloc (Nat.le_refl _) _).alloc (by simp) _).alloc (by simp; omega) _
theorem zaQ (w : World) (a : Option Addr) (cap : Nat) (kids : List Int) (v : Value) (s : Sl) (h : yK w a kids) (hl : kids.length ≤ 200) (hv : Yy w v s) (hf : s.few) :
 Calls Try.prog 138 #[.slice a kids.length cap, v] w (zgN (vF kids s.kinds) w) := by
 obtain ⟨ka, kc, rfl, hk⟩ := hv
 obtain ⟨l, lo, hi⟩ := s
 simp only at hk ⊢
 have hfl : l.length ≤ 1000000 := hf
 have HK := hH hk
 have HA := hH h
 clear hf hk h
 go_enter Try.func138, Try.ntmps138
 go_wp2_with fail
 go_loopw [10] (fun i wr => zek w #[.slice ka l.length kc, .int .i64 lo, .int .i64 hi] kids l i wr) (fun i _ => kids.length - (intOf i).toNat)
 case atStart => exact ⟨0, noF, Nat.zero_le _, rfl, (jX w _ _ _).1, (jX w _ _ _).2.1, (jX w _ _ _).2.2, vo _ _ _ _, fun j => by simp [noF]⟩
 case round =>
  obtain ⟨k, f, hkl, rfl, hb0, hb1, hb2, hbel, hff⟩ := hrel
  have HB := hH (aN hb0 (aN hb1 (aN hb2 hbel)))
  have HF := hH hff
  by_cases hlt : k < kids.length
  · obtain ⟨x, hx⟩ : ∃ x, kids[k]? = some x := ⟨kids[k], List.getElem?_eq_getElem hlt⟩
    obtain ⟨b, off, rfl, hblt, hc⟩ := (HA.out.below hbel) (by omega)
    have c0 := hc k x hx
    have p0 := cell0 hb0 0 rfl
    have q0 : wr.cell? ⟨w.heap.size + 2, k, none⟩ = some (.bool (f k)) := cell0 hb2 k (jY f k (by omega))
    have q1 : ∀ j, wr.frozen? ⟨w.heap.size + 2, j, none⟩ = false := fun j => frozen_of_row wr _ j _ _ hb2
    have q2 := q1 k
    have HC := hH (J2 wr ka kc l x (HK.out.below hbel) hfl)
    have HX := hH hx
    have hk2 : (k : Int) < (kids.length : Int) := by omega
    have hk3 : (k : Int) < 201 := by omega
    clear hx hc hb0 hb1 hb2 hbel hff q1
    obtain ⟨bb, hbb⟩ : ∃ bb, bb = yN l x := ⟨_, rfl⟩
    rw [← hbb] at HC
    have HBB := hH hbb
    clear hbb
    go_wp2_with (go_at_call 139; ((with_reducible refine HC.out.mono ?_); rintro e w2 ⟨rfl, rfl⟩))
    refine ⟨⟨k + 1, fun j => if j = k then bb else f j, by omega, by go_num, ?_, ?_, ?_, ?_, ?_⟩, by simp [intOf]; omega⟩
    · rw [Below.heap_setCell _ _ _ _ (by show w.heap.size ≠ w.heap.size + 2; omega)]; exact HB.out.1
    · rw [Below.heap_setCell _ _ _ _ (by show w.heap.size + 1 ≠ w.heap.size + 2; omega)]; exact HB.out.2.1
    · rw [heap_setCell_same _ _ k _ _ _ HB.out.2.2.1, zam]
    · exact HB.out.2.2.2.setCell (by show w.heap.size ≤ w.heap.size + 2; omega) _
    · intro j
      by_cases e : j = k
      · subst e; show (if j = j then bb else f j) = _; rw [if_pos rfl, kS HX.out, HBB.out, decide_eq_true (by omega)]; rfl
      · show (if j = k then bb else f j) = _
        rw [if_neg e, HF.out]
        congr 1
        exact decide_eq_decide.2 (by omega)
  · obtain rfl : k = kids.length := by omega
    have hfe : vec f = vec (vF kids l) := zc3 fun j _ => by
     rw [hff]
     by_cases e : j < kids.length
     · rw [decide_eq_true e]; rfl
     · rw [decide_eq_false e, Yr (by omega)]; rfl
    rw [hfe] at hb2
    have e1 := Yf hb2
    have e2 := Zp hb1 (yD _)
    have hk2 : ¬ (kids.length : Int) < (kids.length : Int) := by omega
    clear hlt hfe hff HF HB
    have HB1 := hH hb1
    have HB2 := hH hbel
    clear hb0 hb1 hb2 hbel
    go_wp2_with fail
    have hr := YM (setRow_heap wr (w.heap.size + 1) _ (vec (vF kids l)) _ _ HB1.out)
    refine bodyPost_ret (v := .agg (vec (vF kids l))) (Z9 rfl _ _ ⟨w.heap.size + 1, 0, none⟩ _ rfl hr) rfl ⟨rfl, ?_⟩
    exact below_setRow HB2.out (by omega) _
end Go.Proofs.Ytgkmmnihaiopaaa
namespace Go.Proofs.Ytgkmmnihaiopaaa
open Go.RowKit
attribute [local go_sem ↓] loadT zan storeT Ja JQ Q8 JW Q9
attribute [local go_sem] jw Zt Qk J6 yD jk vB blk_alloc_new
theorem zft (W : World) (b k : Nat) (h : k ≤ 200) : (Instr.sliceAt 192 (.pointer (some ⟨b, 0, none⟩)) none (some (.int .i64 ((k : Int) + 1))) none).run Try.prog W = .ok (.slice (some ⟨b, 0, none⟩) (k + 1) 201) W := by
 have ha : Try.prog.arrayLen 192 = 201 := by kernel_rfl
 have hs : ∀ W, (sizeOf (Try.prog.elem 192)).run Try.prog W = .ok 1 W := fun W => by kernel_rfl
 rw [run_sliceAt_array_h (P := Try.prog) W 192 ⟨b, 0, none⟩ (by kernel_rfl) .i64 ((k : Int) + 1) (by omega) (by rw [ha]; omega), hs, ha]
 show Result.ok _ _ = _
 have e : ((k : Int) + 1).toNat = k + 1 := by omega
 simp only [slicedAt, e]
 congr 2
structure zdf (w : World) (O : Nat) (c : Array Value) (T own f : Nat → Bool) (wr : World) : Prop where
 slot : wr.heap[w.heap.size]? = some (.cells c 67 (0, 0))
 from_ : wr.heap[w.heap.size + 1]? = some (.cells (vec T) 192 (0, 0))
 res : wr.heap[w.heap.size + 2]? = some (.cells (vec noF) 192 (0, 0))
 own : wr.heap[O]? = some (.cells (vec own) 192 (0, 0))
 ends : wr.heap[O + 1]? = some (.cells (vec f) 192 (0, 0))
 lt : w.heap.size + 2 < O
 below : Below w.heap.size w wr
theorem zdf.set {w wr : World} {O : Nat} {c : Array Value} {T own f : Nat → Bool} (h : zdf w O c T own f wr) (i : Nat) : zdf w O c T own (fun j => if j = i then true else f j) (wr.setCell ⟨O + 1, i, none⟩ (.bool true)) := by
 have hlt := h.lt
 exact ⟨by rw [Below.heap_setCell _ _ _ _ (by show w.heap.size ≠ O + 1; omega)]; exact h.slot, by rw [Below.heap_setCell _ _ _ _ (by show w.heap.size + 1 ≠ O + 1; omega)]; exact h.from_,
  by rw [Below.heap_setCell _ _ _ _ (by show w.heap.size + 2 ≠ O + 1; omega)]; exact h.res, by rw [Below.heap_setCell _ _ _ _ (by show O ≠ O + 1; omega)]; exact h.own,
  by rw [heap_setCell_same _ (O + 1) i _ _ _ h.ends, zam], hlt, h.below.setCell (by show w.heap.size ≤ O + 1; omega) _⟩
def zhq (w : World) (O : Nat) (c : Array Value) (kids : List Int) (s : Sl) (T : Nat → Bool) (g : Nat) (i : Value) (wr : World) : Prop :=
 ∃ (k : Nat) (f : Nat → Bool), k + g = kids.length + 1 ∧ i = .int .i64 k ∧ zdf w O c T (vF kids s.kinds) f wr ∧ FP kids s T k f
def zg0 (w : World) (O : Nat) (c : Array Value) (kids : List Int) (s : Sl) (T : Nat → Bool) (k : Nat) (g : Nat) (i : Value) (wr : World) : Prop :=
 ∃ (n : Nat) (f : Nat → Bool), (n : Int) + (g : Int) = s.most + 1 ∧ i = .int .i64 n ∧ k + n ≤ kids.length ∧ zdf w O c T (vF kids s.kinds) f wr ∧ FI kids s T k n f ∧ zgU kids s k n
theorem Je (w : World) (a : Option Addr) (cap : Nat) (kids : List Int) (v : Value) (s : Sl) (T : Nat → Bool) (h : yK w a kids) (hl : kids.length ≤ 200) (hv : Yy w v s) (hf : s.few) (h0 : 0 ≤ s.least) (h1 : s.least ≤ s.most) (h2 : s.most ≤ 1000) :
 Calls Try.prog 137 #[.slice a kids.length cap, v, .agg (vec T)] w (zgN (YJ kids s T) w) := by
 obtain ⟨ka, kc, rfl, hk⟩ := hv
 obtain ⟨l, lo, hi⟩ := s
 simp only at hk h0 h1 h2
 have HK := hH hk
 have HA := hH h
 have HFEW := hH hf
 clear hf hk h
 have hsl := fun W => zft W (w.heap.size + 1) kids.length hl
 go_enter Try.func137, Try.ntmps137
 go_wp2_with fail
 go_step3
 go_wp2_with (go_at_call 138; ((with_reducible refine (zaQ _ _ _ kids _ ⟨l, lo, hi⟩ (HA.out.below (vo _ _ _ _)) hl (Q6 (s := ⟨l, lo, hi⟩) (HK.out.below (vo _ _ _ _))) HFEW.out).mono ?_); rintro e w2 ⟨rfl, h2⟩; have H2 := hH h2; clear h2))
 go_step3
 go_wp2_with fail
 have HSTART := hH (show zdf w w2.heap.size #[.slice ka l.length kc, .int .i64 lo, .int .i64 hi] T (vF kids l) noF ((w2.alloc (.cells (vec (vF kids l)) 192)).alloc (.cells (vec noF) 192)) from by
  have h3 := jX w (.cells #[.slice ka l.length kc, .int .i64 lo, .int .i64 hi] 67) (.cells (vec T) 192) (.cells (vec noF) 192)
  have hz := H2.out.size
  have hbb := YW (Below.refl w2.heap.size w2) (.cells (vec (vF kids l)) 192) (.cells (vec noF) 192)
  have hbo := fun k hk => (hbb.block k (nL hk hz)).trans (H2.out.block k hk)
  simp only [World.size_alloc] at hbo hz
  exact ⟨(hbo _ (by omega)).trans h3.1, (hbo _ (by omega)).trans h3.2.1, (hbo _ (by omega)).trans h3.2.2, (zbK w2 _ _).1, (zbK w2 _ _).2, by omega, (vo w _ _ _).trans ((H2.out.trans (hbb.mono H2.out.size)).mono (vo w _ _ _).size)⟩)
 obtain ⟨O, hO⟩ : ∃ O, O = w2.heap.size := ⟨_, rfl⟩
 rw [← hO] at HSTART
 rw [← hO]
 clear hO hsl
 go_loopg [20] (kids.length + 1) (fun g i wr => zhq w O #[.slice ka l.length kc, .int .i64 lo, .int .i64 hi] kids ⟨l, lo, hi⟩ T g i wr)
 case atStart => exact ⟨0, noF, by omega, rfl, HSTART.out, FP.start _ _ _⟩
 case round =>
  obtain ⟨k, f, hkg, rfl, hB, hFP⟩ := hrel
  have HB := hH hB
  have HFP := hH hFP
  cases gk with
  | zero =>
    obtain rfl : k = kids.length + 1 := by omega
    have hfe := hFP.all
    rw [hfe] at hB
    have e1 := Yf hB.ends
    have e2 := Zp hB.res (yD _)
    have HR := hH (aN hB.res (aN hB.below hB.lt))
    clear hB hFP hfe HB HFP
    go_wp2_with fail
    try rw [Exit.noGoto_ret]
    have hr := YM (setRow_heap wr (w.heap.size + 2) _ (vec (YJ kids ⟨l, lo, hi⟩ T)) _ _ HR.out.1)
    refine bodyPost_ret (v := .agg (vec (YJ kids ⟨l, lo, hi⟩ T))) (Z9 rfl _ _ ⟨w.heap.size + 2, 0, none⟩ _ rfl hr) rfl ⟨rfl, ?_⟩
    exact below_setRow HR.out.2.1 (by omega) _
  | succ g =>
    have hk1 : k ≤ kids.length := by omega
    have hk2 : (k : Int) < (kids.length : Int) + 1 := by omega
    have c0 : wr.cell? ⟨w.heap.size + 1, k, none⟩ = some (.bool (T k)) := cell0 hB.from_ k (jY T k (by omega))
    have c1 : wr.cell? ⟨w.heap.size, 2, none⟩ = some (.int .i64 hi) := cell0 hB.slot 2 rfl
    obtain ⟨bb, hbb⟩ : ∃ bb, bb = T k := ⟨_, rfl⟩
    rw [← hbb] at c0
    have HBB := hH hbb
    clear hB hFP hbb
    cases bb
    · go_wp2_with fail
      go_roundg g
      case measure => omega
      case rel => exact ⟨k + 1, f, by omega, by go_num, HB.out, HFP.out.skip HBB.out.symm⟩
    · go_wp2_with fail
      clear c0 c1
      obtain ⟨w3, rfl⟩ : ∃ w3, w3 = wr := ⟨_, rfl⟩
      go_loopg [30] (hi + 1).toNat (fun g2 i wr => zg0 w O #[.slice ka l.length kc, .int .i64 lo, .int .i64 hi] kids ⟨l, lo, hi⟩ T k g2 i wr)
      case atStart => exact ⟨0, f, by simp only; omega, rfl, by omega, HB.out, FI.start HFP.out, fun i h1 h2 => by omega⟩
      case round =>
       obtain ⟨n, f2, hng, rfl, hkn, hB2, hFI, hown⟩ := hrel
       simp only at hng
       have HB2 := hH hB2
       have HFI := hH hFI
       have HOWN := hH hown
       have c1 : wr.cell? ⟨w.heap.size, 1, none⟩ = some (.int .i64 lo) := cell0 hB2.slot 1 rfl
       cases gk with
       | zero =>
         have hn1 : ¬ (n : Int) < hi + 1 := by omega
         have HD := hH (HFI.out.done (N := n) (by omega) HBB.out.symm (fun i h3 h4 => HOWN.out i h3 (by omega)) (by simp only; omega) (Or.inl (by simp only; omega)))
         clear hB2 hFI hown c1
         go_wp2_with fail
         go_roundg g
         case measure => omega
         case rel => exact ⟨k + 1, f2, by omega, by go_num, HB2.out, HD.out⟩
       | succ g2 =>
         have hn1 : (n : Int) < hi + 1 := by omega
         have hkn2 : k + n < 201 := by omega
         have hkn3 : (k : Int) + (n : Int) < 201 := by omega
         have d0 : wr.cell? ⟨O, k + n, none⟩ = some (.bool (vF kids l (k + n))) := cell0 hB2.own (k + n) (jY _ _ hkn2)
         have d1 : wr.cell? ⟨O + 1, k + n, none⟩ = some (.bool (f2 (k + n))) := cell0 hB2.ends (k + n) (jY _ _ hkn2)
         have d2 : wr.frozen? ⟨O + 1, k + n, none⟩ = false := frozen_of_row wr _ _ _ _ hB2.ends
         obtain ⟨ob, hob⟩ : ∃ ob, ob = vF kids l (k + n) := ⟨_, rfl⟩
         rw [← hob] at d0
         have HOB := hH hob
         clear hB2 hFI hown hob
         by_cases hlo : lo ≤ (n : Int)
         · cases ob
           · have HD := hH ((HFI.out.put (n := n) hlo).done (N := n + 1) (by omega) HBB.out.symm (fun i h3 h4 => HOWN.out i h3 (by omega)) (by simp only; omega) (Or.inr ⟨by omega, HOB.out.symm⟩))
             go_wp2_with fail
             go_roundg g
             case measure => omega
             case rel => exact ⟨k + 1, _, by omega, by go_num, HB2.out.set (k + n), HD.out⟩
           · have HO2 := hH (zae HOB.out.symm).1
             go_wp2_with fail
             go_roundg g2
             case measure => omega
             case rel => exact ⟨n + 1, _, by simp only; omega, by go_num, by have := HO2.out; omega, HB2.out.set (k + n), HFI.out.put (n := n) hlo, fun i h3 h4 => by by_cases e : i = k + n; exact e ▸ HOB.out.symm; exact HOWN.out i h3 (by omega)⟩
         · cases ob
           · have HD := hH ((HFI.out.skip (n := n) (by simp only; omega)).done (N := n + 1) (by omega) HBB.out.symm (fun i h3 h4 => HOWN.out i h3 (by omega)) (by simp only; omega) (Or.inr ⟨by omega, HOB.out.symm⟩))
             go_wp2_with fail
             go_roundg g
             case measure => omega
             case rel => exact ⟨k + 1, _, by omega, by go_num, HB2.out, HD.out⟩
           · have HO2 := hH (zae HOB.out.symm).1
             go_wp2_with fail
             go_roundg g2
             case measure => omega
             case rel => exact ⟨n + 1, _, by simp only; omega, by go_num, by have := HO2.out; omega, HB2.out, HFI.out.skip (n := n) (by simp only; omega), fun i h3 h4 => by by_cases e : i = k + n; exact e ▸ HOB.out.symm; exact HOWN.out i h3 (by omega)⟩
end Go.Proofs.Ytgkmmnihaiopaaa
namespace Go.Proofs.Ytgkmmnihaiopaaa
open Go.RowKit
attribute [local go_sem ↓] loadT zan storeT Ja JQ Q8 JW Q9
attribute [local go_sem] jw Zt Qk J6 yD jk vB blk_alloc_new
theorem zgG (f : Nat → Bool) : (vec f = #[]) = False := by
 simp only [eq_iff_iff, iff_false]; intro h
 have := congrArg Array.size h
 rw [yD] at this; simp at this
theorem zd7 : (vec noF).setIfInBounds 0 (.bool true) = vec Za := by rw [zam]; exact zc3 fun j _ => by by_cases e : j = 0 <;> simp [Za, noF, e]
attribute [local go_sem] zgG zd7
def zeC (l : List Sl) : Prop := ∀ s ∈ l, s.few ∧ 0 ≤ s.least ∧ s.least ≤ s.most ∧ s.most ≤ 1000
theorem zbk {g : Gr} {n : Int} {k : Kd} (h : kindOf g n = some k) (hf : g.few) : zeC k.slots := by
 obtain ⟨hg, j, _, _, hx⟩ := kJ h
 simp only [yL, Bool.and_eq_true, List.all_eq_true] at hg
 have h1 := hg.1.2 k (List.mem_of_getElem? hx)
 simp only [kindOk, Bool.and_eq_true, List.all_eq_true] at h1
 intro s hs
 have h2 := h1.2 s hs
 simp only [yo, yR, Bool.and_eq_true, decide_eq_true_eq] at h2
 exact ⟨(hf.2 k (List.mem_of_getElem? hx)).2.2 s hs, by omega, by omega, by omega⟩
def zhh (w : World) (kids : List Int) (l : List Sl) (i : Value) (wr : World) : Prop :=
 ∃ (k : Nat), k ≤ l.length ∧ i = .int .i64 k ∧ wr.heap[w.heap.size]? = some (.cells (vec (j5 kids (l.take k))) 192 (0, 0)) ∧ Below w.heap.size w wr
theorem JX (w : World) (a : Option Addr) (cap : Nat) (kids : List Int) (a2 : Option Addr) (cap2 : Nat) (l : List Sl) (h : yK w a kids) (hl : kids.length ≤ 200) (h2 : qp w a2 l) (hl2 : l.length ≤ 1000000) (h3 : zeC l) :
 Calls Try.prog 136 #[.slice a kids.length cap, .slice a2 l.length cap2] w (Says (j5 kids l kids.length) w) := by
 have HA := hH h
 have HK := hH h2
 have H3 := hH h3
 clear h h2 h3
 have hbd : ∀ W, (zeroValue 192).run Try.prog W = .ok (.agg (vec noF)) W := fun W => by kernel_rfl
 go_enter Try.func136, Try.ntmps136
 go_wp2_with fail
 clear hbd
 go_loopw [11] (fun i wr => zhh w kids l i wr) (fun i _ => l.length - (intOf i).toNat)
 case atStart => exact ⟨0, Nat.zero_le _, rfl, heap_alloc_new w _, zh _ _⟩
 case round =>
  obtain ⟨k, hkl, rfl, hb, hbel⟩ := hrel
  have HB := hH (aN hb hbel)
  by_cases hlt : k < l.length
  · obtain ⟨s, hx⟩ : ∃ s, l[k]? = some s := ⟨l[k], List.getElem?_eq_getElem hlt⟩
    obtain ⟨hs0, hs1, hs2, hs3⟩ := H3.out s (List.mem_of_getElem? hx)
    obtain ⟨b, off, rfl, hblt, hc⟩ := (HK.out.below hbel) (by omega)
    obtain ⟨ka2, kc2, d0, d1, d2, hi⟩ := hc k s hx
    have HI := hH hi
    have HFEW := hH hs0
    have HX := hH (Js (kids := kids) hx)
    obtain ⟨T, hT⟩ : ∃ T, T = j5 kids (l.take k) := ⟨_, rfl⟩
    rw [← hT] at hb HX
    have HAW := hH (HA.out.below hbel)
    have hbk : blk (wr.alloc (.cells #[.slice ka2 s.kinds.length kc2, .int .i64 s.least, .int .i64 s.most] 67)) w.heap.size = vec T := Yf ((Below.heap_alloc _ _ _ (zM hb)).trans hb)
    have hkl2 : (k : Int) < (l.length : Int) := by omega
    have HHB := hH hb
    have HBEL := hH hbel
    clear hx hc hi hb hbel hs0 HB hT
    go_wp2_with (go_at_call 137; ((with_reducible refine (Je _ _ _ kids _ s T (HAW.out.below (zh _ _)) hl (Q6 (HI.out.below (zh _ _))) HFEW.out hs1 hs2 hs3).mono ?_); rintro e w2 ⟨rfl, h2⟩; have H2 := hH ((zh wr _).trans (h2.mono (zh wr _).size)); have HF2 := hH ((H2.out.block _ (zM HHB.out)).trans HHB.out); have hfr := Zp HF2.out (yD _); clear h2))
    refine ⟨⟨k + 1, by omega, by go_num, ?_, ?_⟩, by simp [intOf]; omega⟩
    · rw [setRow_heap _ _ _ _ _ _ HF2.out, HX.out]
    · exact below_setRow (HBEL.out.trans (H2.out.mono HBEL.out.size)) (Nat.le_refl _) _
  · obtain rfl : k = l.length := by omega
    rw [List.take_of_length_le (Nat.le_refl _)] at hb
    have c0 := cell0 hb kids.length (jY _ _ (by omega))
    obtain ⟨bb, hbb⟩ : ∃ bb, bb = j5 kids l kids.length := ⟨_, rfl⟩
    rw [← hbb] at c0
    have HBB := hH hbb
    have hk2 : (kids.length : Int) < 201 := by omega
    have hkl2 : ¬ (l.length : Int) < (l.length : Int) := by omega
    have HBEL := hH hbel
    clear hb hbel hlt HB hbb
    go_wp2_with fail
    go_ret
    exact Says.mk HBB.out.symm HBEL.out
theorem ze0 (w : World) (v : Value) (g : Gr) (n : Int) (a : Option Addr) (cap : Nat) (kids : List Int) (hv : GrV w v g) (hf : g.few) (h : yK w a kids) (hl : kids.length ≤ 1000000) :
 Calls Try.prog 132 #[v, .int .i64 n, .slice a kids.length cap] w (Says (jg (kindOf g n) kids) w) := by
 obtain ⟨ka, kc, rfl, hk⟩ := hv
 obtain ⟨l, root⟩ := g
 simp only at hk
 have HF := hH hf
 have HK := hH hk
 have HA := hH h
 cases ho : kindOf ⟨l, root⟩ n with
 | none =>
   have HO := hH ho
   clear ho hf hk h
   go_enter Try.func132, Try.ntmps132
   go_wp2_with (go_at_call 135; ((with_reducible refine (Jy _ _ _ n (grV (HK.out.below (zh _ _))) HF.out HO.out).mono ?_); rintro e w2 ⟨rfl, h2⟩; have H2 := hH ((zh w _).trans (h2.mono (zh w _).size)); clear h2))
   go_ret
   exact Says.mk rfl (H2.out.alloc H2.out.size _)
 | some k =>
   have HO := hH ho
   have HS := hH (zbk ho hf)
   have HS8 := hH (zbj ho).1
   clear ho hf hk h
   by_cases h200 : kids.length ≤ 200
   · have h200' : (kids.length : Int) ≤ 200 := by omega
     have HV := hH (show jg (some k) kids = j5 kids k.slots kids.length by rw [jg, decide_eq_true h200]; rfl)
     go_enter Try.func132, Try.ntmps132
     go_wp2_with (first
      | (go_at_call 135; ((with_reducible refine (qP _ _ _ n _ (grV (HK.out.below (zh _ _))) HF.out HO.out).mono ?_); rintro e w2 ⟨sa, sc, rfl, h2, hs⟩; have H2 := hH ((zh w _).trans (h2.mono (zh w _).size)); have HSA := hH hs; clear h2 hs))
      | (go_at_call 136; ((with_reducible refine (JX _ _ _ kids _ _ _ ((HA.out.below H2.out).below (zh _ _)) h200 (HSA.out.below (zh _ _)) (Nat.le_trans HS8.out (by decide)) HS.out).mono ?_); rintro e w3 ⟨rfl, h3⟩; have H3 := hH h3; clear h3)))
     go_ret
     exact Says.mk HV.out ((H2.out.alloc H2.out.size _).trans (H3.out.mono (by have := H2.out.size; simp; omega)))
   · have h200' : ¬ (kids.length : Int) ≤ 200 := by omega
     have HV := hH (show jg (some k) kids = false by rw [jg, decide_eq_false h200]; rfl)
     go_enter Try.func132, Try.ntmps132
     go_wp2_with (go_at_call 135; ((with_reducible refine (qP _ _ _ n _ (grV (HK.out.below (zh _ _))) HF.out HO.out).mono ?_); rintro e w2 ⟨sa, sc, rfl, h2, hs⟩; have H2 := hH ((zh w _).trans (h2.mono (zh w _).size)); clear h2 hs))
     go_ret
     exact Says.mk HV.out (H2.out.alloc H2.out.size _)
end Go.Proofs.Ytgkmmnihaiopaaa
