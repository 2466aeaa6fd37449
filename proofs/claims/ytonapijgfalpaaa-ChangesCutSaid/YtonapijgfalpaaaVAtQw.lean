/-
  .
-/
import Derived.Test.YtonapijgfalpaaaVManyQw
import Derived.Test.YtonapijgfalpaaaHRangeQw
import Derived.Test.YtonapijgfalpaaaGFitsQw
import Derived.Maps.OwnIn
import Derived.Test.YtonapijgfalpaaaJPgQw
set_option linter.unusedVariables false
set_option linter.unusedSimpArgs false
namespace Go.Proofs.Ytonapijgfalpaaa
open Go.RowKit Go.Shelf
attribute [local go_sem] Oper.semAt_some
def kindsF : Fo → List Int
 | .nil => []
 | .node _ _ k _ r => k.2.1 :: kindsF r
theorem kindsF_length : ∀ f : Fo, (kindsF f).length = foLen f
 | .nil => rfl
 | .node _ _ _ _ r => by simp [kindsF, foLen, kindsF_length r]
theorem kindsF_at : ∀ (j : Nat) (f : Fo) (b o : Nat) (a : Int × Int × ByteArray) (l r : Fo), foDrop j f = .node b o a l r → (kindsF f)[j]? = some a.2.1
 | 0, .nil, _, _, _, _, _, h => by cases h
 | _ + 1, .nil, _, _, _, _, _, h => by cases h
 | 0, .node _ _ _ _ _, _, _, _, _, _, h => by cases h; rfl
 | j + 1, .node _ _ _ _ r', b, o, a, l, r, h => by simpa [kindsF] using kindsF_at j r' b o a l r h
def KindsC (w : World) (f : Fo) (e : Ending) (w' : World) : Prop := ∃ a cap, e = .returned (.slice a (kindsF f).length cap) ∧ IntsAt w' a (kindsF f) ∧ Below w.heap.size w w'
def KindsR (w : World) (g nb : Nat) (c1 : Array Value) (f : Fo) (n k : Nat) (wr : World) : Prop :=
 ∃ cs : Array Value, wr.heap[g]? = some (.cells cs 3 (0, 0)) ∧ cs.size = n ∧ (∀ j, j < k → ∃ x, (kindsF f)[j]? = some x ∧ cs[j]? = some (.int .i64 x)) ∧ wr.heap[nb]? = some (.cells c1 24 (0, 0)) ∧ Below w.heap.size w wr
theorem Try.infoInt7 : (Try.prog.info? 3).map (fun i => (i.zero, i.size, i.bytes)) = some (some (.int .i64 0), 1, 8) := by kernel_rfl
theorem make_ints7 (W : World) (q : Nat) (h : q ≤ 1000000) : ∃ zs : Array Value, zs.size = q ∧ (Instr.makeSlice 64 (.int .i64 (q : Int)) (.int .i64 (q : Int))).run Try.prog W = .ok (.slice (some ⟨W.heap.size, 0, none⟩) q q) (W.alloc (.cells zs 3)) := by
 obtain ⟨i0, hi, hz0, hz1, hz2⟩ := info_parts Try.infoInt7
 have hr := run_makeSlice (P := Try.prog) W 64 3 i0 (.int .i64 0) Try.underlying64 hi hz0 .i64 .i64 (q : Int) (q : Int) (by omega) (by omega) (by rw [hz1]; omega) (by rw [hz2]; omega) (by omega)
 rw [hz1] at hr
 refine ⟨_, ?_, by rw [hr]; simp; rfl⟩
 rw [size_madeCells]
set_option maxRecDepth 100000 in
set_option maxHeartbeats 1000000 in
theorem kinds_any (w : World) (S : Nat → Prop) (nv : Value) (t : Tr) (hS : ∀ x, S x → x < w.heap.size) (ht : TrAt w S nv t) (hsz : foLen t.kids ≤ 1000000) : Calls Try.prog 54 #[nv] w (KindsC w t.kids) := by
 obtain ⟨ka, cap, rfl, hcap, hk⟩ := ht
 obtain ⟨n, hn⟩ : ∃ n, n = foLen t.kids := ⟨_, rfl⟩
 have hn6 : n ≤ 1000000 := by omega
 rw [← hn]
 obtain ⟨W0, hW0⟩ : ∃ W0, W0 = w.alloc (.cells #[.int .i64 t.id, .int .i64 t.kind, .string t.text, .slice ka n cap] 24) := ⟨_, rfl⟩
 obtain ⟨zs, hzs, hmk⟩ := make_ints7 W0 n hn6
 have hs0 : W0.heap.size = w.heap.size + 1 := by rw [hW0]; simp
 have hbx : W0.heap[w.heap.size]? = some (.cells #[.int .i64 t.id, .int .i64 t.kind, .string t.text, .slice ka n cap] 24 (0, 0)) := by rw [hW0]; exact heap_alloc_new w _
 have hst : KindsR w (w.heap.size + 1) w.heap.size #[.int .i64 t.id, .int .i64 t.kind, .string t.text, .slice ka n cap] t.kids n 0 (W0.alloc (.cells zs 3)) := by
  refine ⟨zs, by rw [← hs0]; exact heap_alloc_new W0 _, hzs, fun j hj => by omega, (Below.heap_alloc W0 _ _ (by omega)).trans hbx, ?_⟩
  rw [hW0]; exact ((Below.refl _ w).alloc (Nat.le_refl _) _).alloc (by simp) _
 have H := Lib.hid (And.intro hS (And.intro hcap (And.intro hk (And.intro hn (And.intro hst hW0)))))
 rw [hW0] at hmk
 clear hS hcap hk hn hst hW0 hs0 hbx hzs hsz
 go_enter Try.func54, Try.ntmps54
 go_wp2_with fail
 rw [← H.out.2.2.2.2.2]
 go_loopw [4, 12] (fun _ i wr => ∃ k : Nat, k ≤ n ∧ i = .int .i64 (k : Int) ∧ Hid (KindsR w (w.heap.size + 1) w.heap.size #[.int .i64 t.id, .int .i64 t.kind, .string t.text, .slice ka n cap] t.kids n k wr)) (fun _ i _ => n - (intOf i).toNat)
 case atStart => exact ⟨0, Nat.zero_le _, rfl, Lib.hid H.out.2.2.2.2.1⟩
 case round =>
  obtain ⟨k, hk, rfl, hr⟩ := hrel
  by_cases hlt : k < n
  · obtain ⟨cs, hg, hsz, hcs, hbx, hbl⟩ := hr.out
    have p3 : wr.cell? ⟨w.heap.size, 3, none⟩ = some (.slice ka n cap) := by rw [cell_of_row wr _ 3 _ _ _ hbx]; rfl
    have hk1 : FoAt wr S t.kids ka := H.out.2.2.1.kept fun x hx => ⟨hx, hbl.block x (H.out.1 x hx)⟩
    obtain ⟨b0, o0, ⟨ki, kk, kt⟩, l', r, hd1', b, off, a1, n1, rfl, hSb, c0, c1, c2, c3, hc1, hl1⟩ := hk1.at k (by rw [← H.out.2.2.2.1]; exact hlt)
    have hkk := kindsF_at k t.kids _ _ _ _ _ hd1'
    obtain ⟨v, hv⟩ : ∃ v, cs[k]? = some v := ⟨_, Array.getElem?_eq_getElem (by omega)⟩
    have g0 : wr.cell? ⟨w.heap.size + 1, k, none⟩ = some v := by rw [cell_of_row wr _ k _ _ _ hg]; exact hv
    have f0 : wr.frozen? ⟨w.heap.size + 1, k, none⟩ = false := frozen_of_row wr _ k _ _ hg
    have hnx : KindsR w (w.heap.size + 1) w.heap.size #[.int .i64 t.id, .int .i64 t.kind, .string t.text, .slice (some ⟨b, off, none⟩) n cap] t.kids n (k + 1) (wr.setCell ⟨w.heap.size + 1, k, none⟩ (.int .i64 kk)) := by
     refine ⟨cs.setIfInBounds k (.int .i64 kk), by rw [heap_setCell_same wr _ k _ _ _ hg], by simp [hsz], fun j hj => ?_, (Below.heap_setCell _ _ _ _ (by simp)).trans hbx, hbl.setCell (by simp) _⟩
     by_cases e : j = k
     · subst e; exact ⟨kk, hkk, by simp [hsz, hlt]⟩
     · obtain ⟨x, hx1, hx2⟩ := hcs j (by omega)
       exact ⟨x, hx1, by rw [Array.getElem?_setIfInBounds_ne (by omega)]; exact hx2⟩
    have HNX := Lib.hid hnx
    have hkl : (k : Int) < (n : Int) := by omega
    have HLT := Lib.hid hlt
    clear hnx hkk hv hk1 hd1' hg hsz hcs hbx hbl hSb hc1 hl1 hlt
    go_wp2_with fail
    exact ⟨⟨k + 1, HLT.out, by go_num, HNX⟩, by have := HLT.out; simp [intOf]; omega⟩
  · have hkn : k = n := by omega
    have HKN := Lib.hid hkn
    have hkl : ¬ (k : Int) < (n : Int) := by omega
    clear hkn hlt
    go_wp2_with fail
    go_ret
    obtain ⟨cs, hg, hsz, hcs, hbx, hbl⟩ := hr.out
    have hln : (kindsF t.kids).length = n := by rw [kindsF_length, H.out.2.2.2.1]
    refine ⟨some ⟨w.heap.size + 1, 0, none⟩, n, by rw [hln]; rfl, fun _ => ⟨w.heap.size + 1, 0, rfl, lt_of_heap hg, fun j x hx => ?_⟩, hbl⟩
    have hj := (List.getElem?_eq_some_iff.1 hx).1
    obtain ⟨x', h1, h2⟩ := hcs j (by rw [HKN.out]; omega)
    rw [h1] at hx; cases hx
    rw [Nat.zero_add, cell_of_row _ _ j _ _ _ hg]; exact h2
def nodeB (g : Gr) (x : Tr) : Bool := textV (kindOf g x.kind) x.text && fitsV (kindOf g x.kind) (kindsF x.kids)
theorem region_plain7 {n : Nat} {P : Program} {ops : Array Oper} {Q : Exit → Act → World → Prop} {S : World → Prop} {id : Nat} {a : Act} {w : World} (hm : P.follows .mixedOrders = true) (h : AnyIn n P .any ops Q S ops.size (Array.replicate ops.size false) a w.drew) : (Code.region id ops true).wpIn Fence.wide n P Q a w :=
 wpIn_region_any hm (anyIn_plain _ _ _ _ h)
theorem region_calm {n : Nat} {P : Program} {ops : Array Oper} {Q : Exit → Act → World → Prop} {S : World → Prop} {id : Nat} {a : Act} {w : World} (hm : P.follows .mixedOrders = true) (h : AnyIn n P .any ops (fun e a w => e = .normal ∧ Q .normal a w) S ops.size (Array.replicate ops.size false) a w.drew) : (Code.region id ops true).wpIn Fence.wide n P Q a w :=
 wpIn_mono (region_plain7 hm h) (fun e a w h => by obtain ⟨rfl, h⟩ := h; exact h)
theorem boxG {w : World} {b : Nat} {c0 c1 : Value} (h : w.heap[b]? = some (.cells #[c0, c1] 55 (0, 0))) : w.cell? ⟨b, 0, none⟩ = some c0 ∧ w.cell? ⟨b, 1, none⟩ = some c1 :=
 ⟨by rw [cell_of_row _ _ 0 _ _ _ h]; rfl, by rw [cell_of_row _ _ 1 _ _ _ h]; rfl⟩
set_option maxRecDepth 100000 in
set_option maxHeartbeats 2000000 in
theorem node_anyV (w : World) (S : Nat → Prop) (gv : Value) (g : Gr) (nv : Value) (x : Tr) (hg : GrV w gv g) (hf : g.few) (hS : ∀ y, S y → y < w.heap.size) (hx : TrAt w S nv x) (hn : foLen x.kids ≤ 1000000) (hts : (x.text.size : Int) ≤ 9223372036854775807) :
 Calls Try.prog 52 #[gv, nv] w (Says (nodeB g x) w) := by
 obtain ⟨ga, gc, rfl, hgk⟩ := hg
 obtain ⟨ka, cap, rfl, hcap, hk⟩ := hx
 obtain ⟨n, hn0⟩ : ∃ n, n = foLen x.kids := ⟨_, rfl⟩
 obtain ⟨gn, hgn⟩ : ∃ gn, gn = g.kinds.length := ⟨_, rfl⟩
 rw [← hn0, ← hgn]
 have hal := allocs_at [.cells #[.slice ga gn gc, .int .i64 g.root] 55, .cells #[.int .i64 x.id, .int .i64 x.kind, .string x.text, .slice ka n cap] 24] w
 have hab := allocs_below [.cells #[.slice ga gn gc, .int .i64 g.root] 55, .cells #[.int .i64 x.id, .int .i64 x.kind, .string x.text, .slice ka n cap] 24] w
 have kx := hal 0 _ rfl
 rw [Nat.add_zero] at kx
 have ky := hal 1 _ rfl
 obtain ⟨V, hV⟩ : ∃ V, V = allocs w [.cells #[.slice ga gn gc, .int .i64 g.root] 55, .cells #[.int .i64 x.id, .int .i64 x.kind, .string x.text, .slice ka n cap] 24] := ⟨_, rfl⟩
 rw [← hV] at kx ky hab
 obtain ⟨SX, hSX⟩ : ∃ SX : World → Prop, SX = fun X => Below V.heap.size V X := ⟨_, rfl⟩
 have HSx : ∀ X, SX X → X.cell? ⟨w.heap.size, 0, none⟩ = some (.slice ga gn gc) ∧ X.cell? ⟨w.heap.size, 1, none⟩ = some (.int .i64 g.root) ∧ X.cell? ⟨w.heap.size + 1, 0, none⟩ = some (.int .i64 x.id) ∧ X.cell? ⟨w.heap.size + 1, 1, none⟩ = some (.int .i64 x.kind) ∧ X.cell? ⟨w.heap.size + 1, 2, none⟩ = some (.string x.text) ∧ X.cell? ⟨w.heap.size + 1, 3, none⟩ = some (.slice ka n cap) := fun X h => by
  rw [hSX] at h
  obtain ⟨a0, a1⟩ := boxG ((h.block _ (lt_of_heap kx)).trans kx)
  obtain ⟨b0, b1, b2, b3⟩ := boxN ((h.block _ (lt_of_heap ky)).trans ky)
  exact ⟨a0, a1, b0, b1, b2, b3⟩
 have hS0 : SX V.drew := by rw [hSX]; exact ⟨rfl, rfl, rfl, Nat.le_refl _, fun _ _ => rfl⟩
 have HSB := Lib.hid (fun (X Y : World) (h : SX X) (hb : Below X.heap.size X Y) => (show SX Y by rw [hSX] at h ⊢; exact h.trans (hb.mono h.size)))
 have hwX : ∀ X, SX X → Below w.heap.size w X := fun X h => by rw [hSX] at h; exact hab.trans (h.mono hab.size)
 have hgX : ∀ X, SX X → GrV X (.agg #[.slice ga gn gc, .int .i64 g.root]) g := fun X h => ⟨ga, gc, by rw [hgn], hgk.below (hwX X h)⟩
 obtain ⟨b1, hb1⟩ : ∃ b, b = textV (kindOf g x.kind) x.text := ⟨_, rfl⟩
 obtain ⟨b2, hb2⟩ : ∃ b, b = fitsV (kindOf g x.kind) (kindsF x.kids) := ⟨_, rfl⟩
 obtain ⟨kn, hkn⟩ : ∃ kn, kn = (kindsF x.kids).length := ⟨_, rfl⟩
 have HTX : Hid (∀ X, SX X → Calls Try.prog 39 #[.agg #[.slice ga gn gc, .int .i64 g.root], .int .i64 x.kind, .string x.text] X (Says b1 X)) := Lib.hid fun X h => by
  have := text_any X _ g x.kind x.text (hgX X h) hf hts
  rw [← hb1] at this; exact this
 have HKI : Hid (∀ X, SX X → Calls Try.prog 54 #[.agg #[.int .i64 x.id, .int .i64 x.kind, .string x.text, .slice ka n cap]] X (KindsC X x.kids)) := Lib.hid fun X h => kinds_any X S _ x (fun y hy => Nat.lt_of_lt_of_le (hS y hy) (hwX X h).size) ⟨ka, cap, by rw [hn0], hcap, hk.below (hwX X h) hS⟩ hn
 have HFI : Hid (∀ X, SX X → ∀ xa xc, IntsAt X xa (kindsF x.kids) → Calls Try.prog 45 #[.agg #[.slice ga gn gc, .int .i64 g.root], .int .i64 x.kind, .slice xa kn xc] X (Says b2 X)) := Lib.hid fun X h xa xc hi => by
  have := fits_any X _ g x.kind xa xc (kindsF x.kids) (hgX X h) hf hi (by rw [kindsF_length]; exact hn)
  rw [← hb2, ← hkn] at this; exact this
 have HKL := Lib.hid hkn
 have HB := Lib.hid (show nodeB g x = (b1 && b2) by rw [hb1, hb2]; rfl)
 have HFIN := Lib.hid hwX
 have HV := Lib.hid hV
 clear hS hcap hk hn hts hf hgk hn0 hgn hal hab kx ky hwX hgX hSX hV hb1 hb2 hkn
 refine (callsIn_wide (n := 8)).1 ?_
 refine callsIn_of_wp_marks Try.func52 rfl trivial ?_ rfl
 simp only [Try.ntmps52, List.size_toArray, List.length_cons, List.length_nil, Nat.reduceAdd, Nat.reduceSub, Array.replicate_succ, Array.replicate_zero, List.push_toArray, List.append_toArray, List.nil_append, List.cons_append]
 gi_wp2_with fail
 change Code.wpIn _ _ _ _ _ _ (allocs w [.cells #[.slice ga gn gc, .int .i64 g.root] 55, .cells #[.int .i64 x.id, .int .i64 x.kind, .string x.text, .slice ka n cap] 24])
 rw [← HV.out]
 refine region_calm (S := SX) (by kernel_rfl) ?_
 have hHeld := hS0
 clear hS0
 refine anyIn_take (i := 0) (oi := _) (v := (.agg #[.slice ga gn gc, .int .i64 g.root])) rfl (by kernel_rfl) (by kernel_rfl) (by kernel_rfl) (fun _ _ _ h => by cases h.1) (Or.inl ⟨by rfl, ?_⟩) hHeld ?_
 · clear hHeld; intro X hSw; obtain ⟨s0, s1, s2, s3, s4, s5⟩ := HSx X hSw; clear hSw; go_simp
 simp only [Act.put, pg]
 refine anyIn_take (i := 1) (oi := _) (v := (.pointer (some ⟨w.heap.size + 1, 1, none⟩))) rfl (by kernel_rfl) (by kernel_rfl) (by kernel_rfl) (fun _ _ _ h => by cases h.1) (Or.inl ⟨by rfl, ?_⟩) hHeld ?_
 · clear hHeld; intro X hSw; clear hSw; go_simp
 simp only [Act.put, pg]
 refine anyIn_take (i := 2) (oi := _) (v := (.int .i64 x.kind)) rfl (by kernel_rfl) (by kernel_rfl) (by kernel_rfl) (fun _ _ _ h => by cases h.1) (Or.inl ⟨by rfl, ?_⟩) hHeld ?_
 · clear hHeld; intro X hSw; obtain ⟨s0, s1, s2, s3, s4, s5⟩ := HSx X hSw; clear hSw; go_simp
 simp only [Act.put, pg]
 refine anyIn_take (i := 3) (oi := _) (v := (.pointer (some ⟨w.heap.size + 1, 2, none⟩))) rfl (by kernel_rfl) (by kernel_rfl) (by kernel_rfl) (fun _ _ _ h => by cases h.1) (Or.inl ⟨by rfl, ?_⟩) hHeld ?_
 · clear hHeld; intro X hSw; clear hSw; go_simp
 simp only [Act.put, pg]
 refine anyIn_take (i := 4) (oi := _) (v := (.string x.text)) rfl (by kernel_rfl) (by kernel_rfl) (by kernel_rfl) (fun _ _ _ h => by cases h.1) (Or.inl ⟨by rfl, ?_⟩) hHeld ?_
 · clear hHeld; intro X hSw; obtain ⟨s0, s1, s2, s3, s4, s5⟩ := HSx X hSw; clear hSw; go_simp
 simp only [Act.put, pg]
 refine anyIn_one (i := 5) (o := _) (by kernel_rfl) rfl fun K5 hK5 => ?_
 rw [if_pos (by rfl)]
 simp only [pg3]
 have HK5 := Lib.hid hK5
 have HH5 := Lib.hid hHeld
 clear hK5 hHeld
 gi_wp2_with (refine ⟨trivial, ?_⟩; gi_at_call 39; refine (callsIn_wide.2 (HTX.out _ HH5.out)).mono ?_; rintro e X5 ⟨rfl, hb⟩; have HX5 := Lib.hid hb; clear hb)
 have hHeld := HSB.out _ X5 HH5.out HX5.out
 refine HK5.out _ _ hHeld ?_
 clear HK5
 cases b1
 · refine anyIn_take (i := 6) (oi := _) (v := (.bool false)) rfl (by kernel_rfl) (by kernel_rfl) (by kernel_rfl) (fun _ _ _ h => by cases h.1) (Or.inl ⟨by rfl, ?_⟩) hHeld ?_
   · clear hHeld; intro X hSw; clear hSw; go_simp
   simp only [Act.put, pg]
   refine anyIn_take (i := 7) (oi := _) (v := undef) rfl (by kernel_rfl) (by kernel_rfl) (by kernel_rfl) (fun _ _ _ h => by cases h.1) (Or.inr ⟨by rfl, rfl⟩) hHeld ?_
   simp only [Act.put, pg]
   refine anyIn_take (i := 8) (oi := _) (v := undef) rfl (by kernel_rfl) (by kernel_rfl) (by kernel_rfl) (fun _ _ _ h => by cases h.1) (Or.inr ⟨by rfl, rfl⟩) hHeld ?_
   simp only [Act.put, pg]
   refine anyIn_take (i := 9) (oi := _) (v := undef) rfl (by kernel_rfl) (by kernel_rfl) (by kernel_rfl) (fun _ _ _ h => by cases h.1) (Or.inr ⟨by rfl, rfl⟩) hHeld ?_
   simp only [Act.put, pg]
   refine anyIn_take (i := 10) (oi := _) (v := undef) rfl (by kernel_rfl) (by kernel_rfl) (by kernel_rfl) (fun _ _ _ h => by cases h.1) (Or.inr ⟨by rfl, rfl⟩) hHeld ?_
   simp only [Act.put, pg]
   refine anyIn_take (i := 11) (oi := _) (v := undef) rfl (by kernel_rfl) (by kernel_rfl) (by kernel_rfl) (fun _ _ _ h => by cases h.1) (Or.inr ⟨by rfl, rfl⟩) hHeld ?_
   simp only [Act.put, pg]
   refine anyIn_take (i := 12) (oi := _) (v := undef) rfl (by kernel_rfl) (by kernel_rfl) (by kernel_rfl) (fun _ _ _ h => by cases h.1) (Or.inr ⟨by rfl, rfl⟩) hHeld ?_
   simp only [Act.put, pg]
   refine anyIn_take (i := 13) (oi := _) (v := (.bool false)) rfl (by kernel_rfl) (by kernel_rfl) (by kernel_rfl) (fun _ _ _ h => by cases h.1) (Or.inl ⟨by rfl, ?_⟩) hHeld ?_
   · clear hHeld; intro X hSw; clear hSw; go_simp
   simp only [Act.put, pg]
   refine anyIn_take (i := 14) (oi := _) (v := (.bool false)) rfl (by kernel_rfl) (by kernel_rfl) (by kernel_rfl) (fun _ _ _ h => by cases h.1) (Or.inl ⟨by rfl, ?_⟩) hHeld ?_
   · clear hHeld; intro X hSw; clear hSw; go_simp
   simp only [Act.put, pg]
   refine anyIn_done (by kernel_rfl) ⟨rfl, ?_⟩ _
   have HE := Lib.hid (HFIN.out _ hHeld)
   clear hHeld HSx
   gi_wp2
   exact ⟨_, results_tmp rfl _ _ _, by rw [HB.out]; rfl, HE.out⟩
 · refine anyIn_take (i := 6) (oi := _) (v := (.bool true)) rfl (by kernel_rfl) (by kernel_rfl) (by kernel_rfl) (fun _ _ _ h => by cases h.1) (Or.inl ⟨by rfl, ?_⟩) hHeld ?_
   · clear hHeld; intro X hSw; clear hSw; go_simp
   simp only [Act.put, pg]
   refine anyIn_take (i := 7) (oi := _) (v := (.agg #[.slice ga gn gc, .int .i64 g.root])) rfl (by kernel_rfl) (by kernel_rfl) (by kernel_rfl) (fun _ _ _ h => by cases h.1) (Or.inl ⟨by rfl, ?_⟩) hHeld ?_
   · clear hHeld; intro X hSw; obtain ⟨s0, s1, s2, s3, s4, s5⟩ := HSx X hSw; clear hSw; go_simp
   simp only [Act.put, pg]
   refine anyIn_take (i := 8) (oi := _) (v := (.pointer (some ⟨w.heap.size + 1, 1, none⟩))) rfl (by kernel_rfl) (by kernel_rfl) (by kernel_rfl) (fun _ _ _ h => by cases h.1) (Or.inl ⟨by rfl, ?_⟩) hHeld ?_
   · clear hHeld; intro X hSw; clear hSw; go_simp
   simp only [Act.put, pg]
   refine anyIn_take (i := 9) (oi := _) (v := (.int .i64 x.kind)) rfl (by kernel_rfl) (by kernel_rfl) (by kernel_rfl) (fun _ _ _ h => by cases h.1) (Or.inl ⟨by rfl, ?_⟩) hHeld ?_
   · clear hHeld; intro X hSw; obtain ⟨s0, s1, s2, s3, s4, s5⟩ := HSx X hSw; clear hSw; go_simp
   simp only [Act.put, pg]
   refine anyIn_take (i := 10) (oi := _) (v := (.agg #[.int .i64 x.id, .int .i64 x.kind, .string x.text, .slice ka n cap])) rfl (by kernel_rfl) (by kernel_rfl) (by kernel_rfl) (fun _ _ _ h => by cases h.1) (Or.inl ⟨by rfl, ?_⟩) hHeld ?_
   · clear hHeld; intro X hSw; obtain ⟨s0, s1, s2, s3, s4, s5⟩ := HSx X hSw; clear hSw; go_simp
   simp only [Act.put, pg]
   refine anyIn_one (i := 11) (o := _) (by kernel_rfl) rfl fun K11 hK11 => ?_
   rw [if_pos (by rfl)]
   simp only [pg3]
   have HK11 := Lib.hid hK11
   have HH11 := Lib.hid hHeld
   clear hK11 hHeld
   gi_wp2_with (refine ⟨trivial, ?_⟩; gi_at_call 54; refine (callsIn_wide.2 (HKI.out _ HH11.out)).mono ?_; rintro e X11 ⟨xa, xc, rfl, hxi, hb⟩; rw [← HKL.out]; have HX11 := Lib.hid (And.intro hxi hb); clear hxi hb)
   have hHeld := HSB.out _ X11 HH11.out HX11.out.2
   refine HK11.out _ _ hHeld ?_
   clear HK11
   refine anyIn_one (i := 12) (o := _) (by kernel_rfl) rfl fun K12 hK12 => ?_
   rw [if_pos (by rfl)]
   simp only [pg3]
   have HK12 := Lib.hid hK12
   have HH12 := Lib.hid hHeld
   clear hK12 hHeld
   gi_wp2_with (refine ⟨trivial, ?_⟩; gi_at_call 45; refine (callsIn_wide.2 (HFI.out _ HH12.out xa xc HX11.out.1)).mono ?_; rintro e X12 ⟨rfl, hb⟩; have HX12 := Lib.hid hb; clear hb)
   have hHeld := HSB.out _ X12 HH12.out HX12.out
   refine HK12.out _ _ hHeld ?_
   clear HK12
   refine anyIn_take (i := 13) (oi := _) (v := (.bool b2)) rfl (by kernel_rfl) (by kernel_rfl) (by kernel_rfl) (fun _ _ _ h => by cases h.1) (Or.inl ⟨by rfl, ?_⟩) hHeld ?_
   · clear hHeld; intro X hSw; clear hSw; go_simp
   simp only [Act.put, pg]
   refine anyIn_take (i := 14) (oi := _) (v := (.bool b2)) rfl (by kernel_rfl) (by kernel_rfl) (by kernel_rfl) (fun _ _ _ h => by cases h.1) (Or.inl ⟨by rfl, ?_⟩) hHeld ?_
   · clear hHeld; intro X hSw; clear hSw; go_simp
   simp only [Act.put, pg]
   refine anyIn_done (by kernel_rfl) ⟨rfl, ?_⟩ _
   have HE := Lib.hid (HFIN.out _ hHeld)
   clear hHeld HSx
   gi_wp2
   exact ⟨_, results_tmp rfl _ _ _, by rw [HB.out]; rfl, HE.out⟩
end Go.Proofs.Ytonapijgfalpaaa
namespace Go.Proofs.Ytonapijgfalpaaa
open Go.RowKit Go.Shelf
open Go.Maps
attribute [local go_sem] Oper.semAt_some
def OwnsS (w : World) (b n : Nat) (ids : List Int) : Prop := w.ownsMap Try.prog 3 (unitElem (H := Value)) b n (setOf (.agg []) (ids.map (Lit.int .i64 ·)))
theorem OwnsS.at {w w' : World} {b n : Nat} {ids : List Int} (h : OwnsS w b n ids) (e : w'.heap[b]? = w.heap[b]?) : OwnsS w' b n ids := by
 obtain ⟨es, clock, hb, h⟩ := h
 exact ⟨es, clock, e.trans hb, h⟩
theorem law7 : Keyed Try.prog 3 := int_keyed Try.underlying3
theorem zeroU (w : World) : (zeroValue 181).run Try.prog w = .ok (.agg #[]) w := by kernel_rfl
theorem sameKey_int {a b : Int} : (Lit.int .i64 a).sameKey (.int .i64 b) = (a == b) := by
 by_cases h : a = b
 · subst h; simp [Lit.sameKey]
 · rw [sameKey_ne (by simpa using h)]; simp [h]
theorem has_ids (ids : List Int) (i : Int) : Maps.has (setOf (.agg [] : DataW Value) (ids.map (Lit.int .i64 ·))) (.int .i64 i) = ids.any (· == i) := by
 rw [has_setOf]
 · rw [List.any_map]; congr 1; funext a; exact sameKey_int
 · intro x hx
   obtain ⟨a, _, rfl⟩ := List.mem_map.1 hx
   trivial
def atB (g : Gr) (ids : List Int) (d : Nat) (x : Tr) : Bool := decide (32 < d) || (decide (x.id < 1) || decide (1125899906842624 < x.id)) || ids.any (· == x.id) || !nodeB g x
set_option maxRecDepth 100000 in
set_option maxHeartbeats 2000000 in
theorem atFault_any (w : World) (S : Nat → Prop) (gv : Value) (g : Gr) (mb mn : Nat) (ids : List Int) (d : Nat) (x : Tr) (b off cap : Nat) (ka : Option Addr) (hg : GrV w gv g) (hf : g.few) (hS : ∀ y, S y → y < w.heap.size) (hSb : S b)
 (hc0 : w.cell? ⟨b, off, none⟩ = some (.int .i64 x.id)) (hc1 : w.cell? ⟨b, off + 1, none⟩ = some (.int .i64 x.kind)) (hc2 : w.cell? ⟨b, off + 2, none⟩ = some (.string x.text)) (hc3 : w.cell? ⟨b, off + 3, none⟩ = some (.slice ka (foLen x.kids) cap)) (hcap : foLen x.kids ≤ cap) (hk : FoAt w S x.kids ka)
 (hn : foLen x.kids ≤ 1000000) (hts : (x.text.size : Int) ≤ 9223372036854775807) (hid : (Lit.int .i64 x.id).wf = true) (hm : OwnsS w mb mn ids) :
 Calls Try.prog 152 #[gv, .map (some mb), .int .i64 (d : Int), .pointer (some ⟨b, off, none⟩)] w (Says (atB g ids d x) w) := by
 obtain ⟨ga, gc, rfl, hgk⟩ := hg
 obtain ⟨n, hn0⟩ : ∃ n, n = foLen x.kids := ⟨_, rfl⟩
 obtain ⟨gn, hgn⟩ : ∃ gn, gn = g.kinds.length := ⟨_, rfl⟩
 rw [← hn0] at hc3
 rw [← hgn]
 have hal := allocs_at [.cells #[.slice ga gn gc, .int .i64 g.root] 55, .cells #[] 181] w
 have hab := allocs_below [.cells #[.slice ga gn gc, .int .i64 g.root] 55, .cells #[] 181] w
 have hab1 := allocs_below [.cells #[.slice ga gn gc, .int .i64 g.root] 55] w
 have kx := hal 0 _ rfl
 rw [Nat.add_zero] at kx
 obtain ⟨V, hV⟩ : ∃ V, V = allocs w [.cells #[.slice ga gn gc, .int .i64 g.root] 55, .cells #[] 181] := ⟨_, rfl⟩
 rw [← hV] at kx hab
 have hbw := hS b hSb
 have hb4 : ∀ X : World, Below w.heap.size w X → X.cell? ⟨b, off, none⟩ = some (.int .i64 x.id) ∧ X.cell? ⟨b, off + 1, none⟩ = some (.int .i64 x.kind) ∧ X.cell? ⟨b, off + 2, none⟩ = some (.string x.text) ∧ X.cell? ⟨b, off + 3, none⟩ = some (.slice ka n cap) := fun X h =>
  ⟨(World.cell?_of_block (a := ⟨b, off, none⟩) (h.block b hbw)).trans hc0, (World.cell?_of_block (a := ⟨b, off + 1, none⟩) (h.block b hbw)).trans hc1, (World.cell?_of_block (a := ⟨b, off + 2, none⟩) (h.block b hbw)).trans hc2, (World.cell?_of_block (a := ⟨b, off + 3, none⟩) (h.block b hbw)).trans hc3⟩
 obtain ⟨SX, hSX⟩ : ∃ SX : World → Prop, SX = fun X => Below V.heap.size V X := ⟨_, rfl⟩
 have hwX : ∀ X, SX X → Below w.heap.size w X := fun X h => by rw [hSX] at h; exact hab.trans (h.mono hab.size)
 have HSx : ∀ X, SX X → X.cell? ⟨w.heap.size, 0, none⟩ = some (.slice ga gn gc) ∧ X.cell? ⟨w.heap.size, 1, none⟩ = some (.int .i64 g.root) ∧ X.cell? ⟨b, off, none⟩ = some (.int .i64 x.id) ∧ X.cell? ⟨b, off + 1, none⟩ = some (.int .i64 x.kind) ∧ X.cell? ⟨b, off + 2, none⟩ = some (.string x.text) ∧ X.cell? ⟨b, off + 3, none⟩ = some (.slice ka n cap) := fun X h => by
  have h4 := hb4 X (hwX X h)
  rw [hSX] at h
  obtain ⟨a0, a1⟩ := boxG ((h.block _ (lt_of_heap kx)).trans kx)
  exact ⟨a0, a1, h4⟩
 have hS0 : SX V.drew := by rw [hSX]; exact ⟨rfl, rfl, rfl, Nat.le_refl _, fun _ _ => rfl⟩
 have HSB := Lib.hid (fun (X Y : World) (h : SX X) (hb : Below X.heap.size X Y) => (show SX Y by rw [hSX] at h ⊢; exact h.trans (hb.mono h.size)))
 obtain ⟨nb, hnb⟩ : ∃ nb, nb = nodeB g x := ⟨_, rfl⟩
 have HND : Hid (∀ X, SX X → Calls Try.prog 52 #[.agg #[.slice ga gn gc, .int .i64 g.root], .agg #[.int .i64 x.id, .int .i64 x.kind, .string x.text, .slice ka n cap]] X (Says nb X)) := Lib.hid fun X h => by
  have := node_anyV X S (.agg #[.slice ga gn gc, .int .i64 g.root]) g (.agg #[.int .i64 x.id, .int .i64 x.kind, .string x.text, .slice ka n cap]) x ⟨ga, gc, by rw [hgn], hgk.below (hwX X h)⟩ hf (fun y hy => Nat.lt_of_lt_of_le (hS y hy) (hwX X h).size) ⟨ka, cap, by rw [hn0], hcap, hk.below (hwX X h) hS⟩ hn hts
  rw [← hnb] at this; exact this
 have HNB := Lib.hid hnb
 have HFIN := Lib.hid hwX
 have HV := Lib.hid hV
 obtain ⟨hb, hhb⟩ : ∃ hb, hb = ids.any (· == x.id) := ⟨_, rfl⟩
 have HHB := Lib.hid hhb
 have HA := Lib.hid (show atB g ids d x = (decide (32 < d) || (decide (x.id < 1) || decide (1125899906842624 < x.id)) || ids.any (· == x.id) || !nodeB g x) from rfl)
 have HKEY := Lib.hid (keyOf_int_mk (P := Try.prog) Try.underlying3 hid)
 have hb1 := hb4 _ hab1
 have HM1 := Lib.hid (hm.at (hab1.block mb (World.ownsMap.lt hm)))
 obtain ⟨q0, _, _, _⟩ := hb4 V hab
 rw [hV] at q0
 have hSV : SX V := by rw [hSX]; exact Below.refl _ V
 have HVF := Lib.hid (show Below w.heap.size w (allocs w [.cells #[.slice ga gn gc, .int .i64 g.root] 55, .cells #[] 181]) by rw [← hV]; exact hwX V hSV)
 obtain ⟨p0, _, _, _⟩ := hb1
 change (w.alloc (.cells #[.slice ga gn gc, .int .i64 g.root] 55)).cell? _ = _ at p0
 change ((w.alloc (.cells #[.slice ga gn gc, .int .i64 g.root] 55)).alloc (.cells #[] 181)).cell? _ = _ at q0
 clear hS hSb hc0 hc1 hc2 hc3 hcap hk hn hts hf hgk hn0 hgn hal hab hab1 kx hwX hSX hSV hb4 hbw hid hm hnb hhb hV
 refine (callsIn_wide (n := 8)).1 ?_
 refine callsIn_of_wp_marks Try.func152 rfl trivial ?_ rfl
 simp only [Try.ntmps152, List.size_toArray, List.length_cons, List.length_nil, Nat.reduceAdd, Nat.reduceSub, Array.replicate_succ, Array.replicate_zero, List.push_toArray, List.append_toArray, List.nil_append, List.cons_append]
 by_cases h32 : 32 < d
 · have hd : (32 : Int) < (d : Int) := by omega
   have HB := Lib.hid (show atB g ids d x = true by rw [HA.out]; simp [h32])
   clear h32 HSx hS0
   gi_wp2_with (gi_at_lookup; (refine wpListIn_lookup_own_unit _ rfl _ _ 179 rfl 3 181 law7 Try.underlying179 (zeroU _) mb mn _ rfl HM1.out _ _ rfl HKEY.out ?_); rw [has_ids, ← HHB.out]; clear p0)
   exact ⟨_, results_tmp rfl _ _ _, by rw [HB.out]; rfl, HVF.out⟩
 · have hd : ¬ (32 : Int) < (d : Int) := by omega
   by_cases h1 : x.id < 1
   · have HB := Lib.hid (show atB g ids d x = true by rw [HA.out]; simp [h1])
     clear h32 HSx hS0
     gi_wp2_with (gi_at_lookup; (refine wpListIn_lookup_own_unit _ rfl _ _ 179 rfl 3 181 law7 Try.underlying179 (zeroU _) mb mn _ rfl HM1.out _ _ rfl HKEY.out ?_); rw [has_ids, ← HHB.out]; clear p0)
     exact ⟨_, results_tmp rfl _ _ _, by rw [HB.out]; rfl, HVF.out⟩
   · by_cases hM : 1125899906842624 < x.id
     · have HB := Lib.hid (show atB g ids d x = true by rw [HA.out]; simp [hM])
       clear h32 HSx hS0
       gi_wp2_with (gi_at_lookup; (refine wpListIn_lookup_own_unit _ rfl _ _ 179 rfl 3 181 law7 Try.underlying179 (zeroU _) mb mn _ rfl HM1.out _ _ rfl HKEY.out ?_); rw [has_ids, ← HHB.out]; clear p0)
       exact ⟨_, results_tmp rfl _ _ _, by rw [HB.out]; rfl, HVF.out⟩
     · cases hb
       · have HB := Lib.hid (show atB g ids d x = !nb by rw [HA.out, ← HHB.out, ← HNB.out, decide_eq_false h32, decide_eq_false h1, decide_eq_false hM]; simp)
         clear h32
         gi_wp2_with (gi_at_lookup; (refine wpListIn_lookup_own_unit _ rfl _ _ 179 rfl 3 181 law7 Try.underlying179 (zeroU _) mb mn _ rfl HM1.out _ _ rfl HKEY.out ?_); rw [has_ids, ← HHB.out]; clear p0)
         change Code.wpIn _ _ _ _ _ _ (allocs w [.cells #[.slice ga gn gc, .int .i64 g.root] 55, .cells #[] 181])
         rw [← HV.out]
         refine region_calm (S := SX) (by kernel_rfl) ?_
         have hHeld := hS0
         clear hS0 HVF q0
         refine anyIn_take (i := 0) (oi := _) (v := (.agg #[.slice ga gn gc, .int .i64 g.root])) rfl (by kernel_rfl) (by kernel_rfl) (by kernel_rfl) (fun _ _ _ h => by cases h.1) (Or.inl ⟨by rfl, ?_⟩) hHeld ?_
         · clear hHeld; intro X hSw; obtain ⟨s0, s1, s2, s3, s4, s5⟩ := HSx X hSw; clear hSw; go_simp
         simp only [Act.put, pg]
         refine anyIn_take (i := 1) (oi := _) (v := (.pointer (some ⟨b, off, none⟩))) rfl (by kernel_rfl) (by kernel_rfl) (by kernel_rfl) (fun _ _ _ h => by cases h.1) (Or.inl ⟨by rfl, ?_⟩) hHeld ?_
         · clear hHeld; intro X hSw; clear hSw; go_simp
         simp only [Act.put, pg]
         refine anyIn_take (i := 2) (oi := _) (v := (.pointer (some ⟨b, off, none⟩))) rfl (by kernel_rfl) (by kernel_rfl) (by kernel_rfl) (fun _ _ _ h => by cases h.1) (Or.inl ⟨by rfl, ?_⟩) hHeld ?_
         · clear hHeld; intro X hSw; clear hSw; go_simp
         simp only [Act.put, pg]
         refine anyIn_take (i := 3) (oi := _) (v := (.agg #[.int .i64 x.id, .int .i64 x.kind, .string x.text, .slice ka n cap])) rfl (by kernel_rfl) (by kernel_rfl) (by kernel_rfl) (fun _ _ _ h => by cases h.1) (Or.inl ⟨by rfl, ?_⟩) hHeld ?_
         · clear hHeld; intro X hSw; obtain ⟨s0, s1, s2, s3, s4, s5⟩ := HSx X hSw; clear hSw; go_simp
         simp only [Act.put, pg]
         refine anyIn_one (i := 4) (o := _) (by kernel_rfl) rfl fun K4 hK4 => ?_
         rw [if_pos (by rfl)]
         simp only [pg3]
         have HK4 := Lib.hid hK4
         have HH4 := Lib.hid hHeld
         clear hK4 hHeld
         gi_wp2_with (refine ⟨trivial, ?_⟩; gi_at_call 52; refine (callsIn_wide.2 (HND.out _ HH4.out)).mono ?_; rintro e X4 ⟨rfl, hb⟩; have HX4 := Lib.hid hb; clear hb)
         have hHeld := HSB.out _ X4 HH4.out HX4.out
         refine HK4.out _ _ hHeld ?_
         clear HK4
         refine anyIn_take (i := 5) (oi := _) (v := (.bool (!nb))) rfl (by kernel_rfl) (by kernel_rfl) (by kernel_rfl) (fun _ _ _ h => by cases h.1) (Or.inl ⟨by rfl, ?_⟩) hHeld ?_
         · clear hHeld; intro X hSw; clear hSw; go_simp
         simp only [Act.put, pg]
         refine anyIn_take (i := 6) (oi := _) (v := (.bool (!nb))) rfl (by kernel_rfl) (by kernel_rfl) (by kernel_rfl) (fun _ _ _ h => by cases h.1) (Or.inl ⟨by rfl, ?_⟩) hHeld ?_
         · clear hHeld; intro X hSw; clear hSw; go_simp
         simp only [Act.put, pg]
         refine anyIn_done (by kernel_rfl) ⟨rfl, ?_⟩ _
         have HE := Lib.hid (HFIN.out _ hHeld)
         clear hHeld HSx
         cases nb
         · gi_wp2
           exact ⟨_, results_tmp rfl _ _ _, by rw [HB.out]; rfl, HE.out⟩
         · gi_wp2
           exact ⟨_, results_tmp rfl _ _ _, by rw [HB.out]; rfl, HE.out⟩
       · have HB := Lib.hid (show atB g ids d x = true by rw [HA.out, ← HHB.out]; simp)
         clear h32 HSx hS0
         gi_wp2_with (gi_at_lookup; (refine wpListIn_lookup_own_unit _ rfl _ _ 179 rfl 3 181 law7 Try.underlying179 (zeroU _) mb mn _ rfl HM1.out _ _ rfl HKEY.out ?_); rw [has_ids, ← HHB.out]; clear p0)
         exact ⟨_, results_tmp rfl _ _ _, by rw [HB.out]; rfl, HVF.out⟩
end Go.Proofs.Ytonapijgfalpaaa
