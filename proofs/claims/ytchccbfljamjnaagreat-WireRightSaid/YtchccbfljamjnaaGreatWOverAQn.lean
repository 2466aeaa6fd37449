/-
  .
-/
import Derived.Test.YtchccbfljamjnaaGreatWOverNQn
import Derived.Test.YtchccbfljamjnaaGreatJPgQn
set_option maxRecDepth 100000
set_option maxHeartbeats 40000000
namespace Go.Proofs.YtchccbfljamjnaaGreat
open Go.RowKit Go.Shelf
set_option linter.unusedVariables false
set_option linter.unusedSimpArgs false
abbrev qg (σ : Type) := σ → Array Value → Option (σ × Array Value)
def zz {σ : Type} (num : σ → Int → Int → Int → Option (Int × σ)) (q : Nat × Int × Int) : qg σ := fun s cs => match num s (qz cs q.1) q.2.1 q.2.2 with
 | some (m, s') => some (s', cs.setIfInBounds q.1 (.int .i64 m))
 | none => none
def yE {σ : Type} : List (qg σ) → σ → Array Value → Option (σ × Array Value)
 | [], s, cs => some (s, cs)
 | a :: r, s, cs => match a s cs with
   | some (s', cs') => yE r s' cs'
   | none => none
theorem kZ {σ : Type} : ∀ {l : List (qg σ)} {j : Nat} {a : qg σ} {s s' t : σ} {cs cs' ct : Array Value}, yE (l.take j) s cs = some (s', cs') → l[j]? = some a → a s' cs' = some (t, ct) → yE (l.take (j + 1)) s cs = some (t, ct)
 | [], j, a, s, s', t, cs, cs', ct, _, hq, _ => by simp at hq
 | p :: r, 0, a, s, s', t, cs, cs', ct, h, hq, hn => by
   simp at hq; subst hq
   simp only [List.take_zero, yE] at h
   cases h
   simp only [Nat.zero_add, List.take_succ_cons, List.take_zero, yE, hn]
 | p :: r, j + 1, a, s, s', t, cs, cs', ct, h, hq, hn => by
   rw [List.take_succ_cons, yE] at h ⊢
   split at h
   · rename_i m1 s1 h1
     exact kZ h (by simpa using hq) hn
   · cases h
theorem Y8 {σ : Type} : ∀ {l : List (qg σ)} {j : Nat} {a : qg σ} {s s' : σ} {cs cs' : Array Value}, yE (l.take j) s cs = some (s', cs') → l[j]? = some a → a s' cs' = none → yE l s cs = none
 | [], j, a, s, s', cs, cs', _, hq, _ => by simp at hq
 | p :: r, 0, a, s, s', cs, cs', h, hq, hn => by
   simp at hq; subst hq
   simp only [List.take_zero, yE] at h
   cases h
   rw [yE, hn]
 | p :: r, j + 1, a, s, s', cs, cs', h, hq, hn => by
   rw [List.take_succ_cons, yE] at h
   rw [yE]
   split at h
   · rename_i m1 s1 h1
     exact Y8 h (by simpa using hq) hn
   · cases h
def jr (c0 cs : Array Value) : Prop := ∀ i, 11 ≤ i → cs[i]? = c0[i]?
theorem jr.set {c0 cs : Array Value} (h : jr c0 cs) {i : Nat} (hi : i ≤ 10) (m : Int) : jr c0 (cs.setIfInBounds i (.int .i64 m)) := fun j hj => by
 rw [Array.getElem?_setIfInBounds_ne (by omega)]; exact h j hj
def J2 {σ : Type} (G : σ → Prop) (R : σ → World → Prop) (O : Nat → Prop) (o : Option (σ × Array Value)) (b : Nat) (X : World) (e : Ending) (X' : World) : Prop := match o with
 | some (s', cs') => e = .returned (.tuple #[]) ∧ (G s' → R s' X') ∧ X'.heap[b]? = some (.cells cs' 37 (0, 0)) ∧ za X X' (fun q => O q ∨ q = b)
 | none => e = .panicked vR ∧ za X X' (fun q => O q ∨ q = b)
structure J5 {σ : Type} (G : σ → Prop) (R : σ → World → Prop) (O : Nat → Prop) (act : qg σ) (b : Nat) (T : TypeId) (v : Value) (kd : Int) (F : FuncId) (X0 : World) (c0 : Array Value) (last : Bool) : Prop where
 enter : ∀ (args : Array Value) (w : World), (callFunc F args).run Tryz.prog w = .ok (.enter F args) w
 does : ∀ (s : σ) (X : World) (cs : Array Value), R s X → za X0 X (fun q => O q ∨ q = b) → X.heap[b]? = some (.cells cs 37 (0, 0)) → kN cs kd → jr c0 cs → Calls Tryz.prog F #[.agg #[.pointer (some ⟨b, 0, none⟩), .iface T v]] X (J2 G R O (act s cs) b X)
 keep : last = false → ∀ (s : σ) (cs : Array Value) (s' : σ) (cs' : Array Value), act s cs = some (s', cs') → kN cs kd → jr c0 cs → kN cs' kd ∧ jr c0 cs'
theorem jw.act {σ : Type} {G : σ → Prop} {R : σ → World → Prop} {O : Nat → Prop} {num : σ → Int → Int → Int → Option (Int × σ)} {b : Nat} {T : TypeId} {v : Value} {kd : Int} {F : FuncId} {q : Nat × Int × Int} (h : jw G R O num b T v kd F q) (X0 : World) (c0 : Array Value) (last : Bool) : J5 G R O (zz num q) b T v kd F X0 c0 last where
 enter := h.enter
 does := fun s X cs hR _ hX hm _ => by
  obtain ⟨n, hn⟩ := hm.nums q.1 h.one.1 h.one.2
  refine (h.does s X cs n hR hX hn hm.kind).mono fun e X' hq => ?_
  unfold zA at hq
  unfold J2 zz
  rw [vY hn]
  cases ho : num s n q.2.1 q.2.2 with
  | none => rw [ho] at hq; exact hq
  | some ms => rw [ho] at hq; exact hq
 keep := fun _ s cs s' cs' ha hm ht => by
  unfold zz at ha
  split at ha
  · rename_i m t h1
    cases ha
    exact ⟨hm.set h.one.1 m, ht.set h.one.2 m⟩
  · cases ha
theorem qm {σ : Type} {G : σ → Prop} {R : σ → World → Prop} {O : Nat → Prop} {num : σ → Int → Int → Int → Option (Int × σ)} {b : Nat} {T : TypeId} {v rv : Value} {fn : FuncId} (H : yB G R O num b T v rv fn) (kd : Int) (k : Nat) (hk : kd = (k : Int)) (hk1 : 1 ≤ k) (hk2 : k ≤ 10) (l : List FuncId) (hl : jD[k]? = some l) (qs : List (qg σ)) (hlen : l.length = qs.length) (hll : l.length ≤ 100) (s : σ) (X : World) (cs : Array Value) (hqs : ∀ (j : Nat) (F : FuncId) (q : qg σ), l[j]? = some F → qs[j]? = some q → J5 G R O q b T v kd F X cs (decide (j + 1 = l.length))) (hR : R s X) (hX : X.heap[b]? = some (.cells cs 37 (0, 0))) (hm : kN cs kd) (hG : ∀ (j : Nat) (s' : σ) (cs' : Array Value), yE ((zz num (zo kd) :: zz num (toQ kd) :: qs).take j) s cs = some (s', cs') → G s') :
 Calls Tryz.prog 56 #[.pointer (some ⟨b, 0, none⟩), .iface T v] X (vw R O (yE (zz num (zo kd) :: zz num (toQ kd) :: qs) s cs) b X) := by
 obtain ⟨B, hB⟩ : ∃ B, B = X.alloc (.cells #[.pointer (some ⟨b, 0, none⟩), .iface T v] 146) := ⟨_, rfl⟩
 have hb : Below X.heap.size X B := by rw [hB]; exact (Below.refl _ _).alloc (Nat.le_refl _) _
 have eB : B.heap[X.heap.size]? = some (.cells #[.pointer (some ⟨b, 0, none⟩), .iface T v] 146 (0, 0)) := by rw [hB]; exact heap_alloc_new _ _
 have hXb : b < X.heap.size := lt_of_heap hX
 have hBX := (hb.block _ hXb).trans hX
 have hRB := H.keep s X B hR (fun q hq _ => hb.block q hq) hb.size
 have hno : ∀ q, X.heap.size ≤ q → ¬ (O q ∨ q = b) := fun q hq h => by
  rcases h with h | h
  · have := H.inn s X q hR h; omega
  · omega
 obtain ⟨N, hN⟩ : ∃ N, N = yE (zz num (zo kd) :: zz num (toQ kd) :: qs) s cs := ⟨_, rfl⟩
 rw [← hN]
 have HN := hH hN
 have HG := hH hG
 have HM := hH hm
 have HNO := hH hno
 have HH := hH H
 have HL := hH (aN hl (aN hlen (aN hqs (aN hll (aN hk1 (aN hk2 hk))))))
 have HB := hH (aN (zu hb (fun q => O q ∨ q = b)) (aN hB (aN hBX (aN eB hRB))))
 have k0 : B.cell? ⟨X.heap.size, 0, none⟩ = some (.pointer (some ⟨b, 0, none⟩)) := by rw [cell_of_row _ _ 0 _ _ _ eB]; rfl
 have k1 : B.cell? ⟨X.heap.size, 1, none⟩ = some (.iface T v) := by rw [cell_of_row _ _ 1 _ _ _ eB]; rfl
 clear hG hb hB eB hXb hBX hRB hR hX hm hno H hN hl hlen hqs hll hk hk1 hk2
 go_enter Tryz.func56, Tryz.ntmps56
 go_upto_region 1 with fail
 change Code.wp _ _ _ _ (X.alloc (.cells #[.pointer (some ⟨b, 0, none⟩), .iface T v] 146))
 rw [← HB.out.2.1]
 go_wp2_with fail
 obtain ⟨n1, hn1⟩ := HM.out.nums 1 (by omega) (by omega)
 refine ((YV HH.out kd).does s B cs n1 HB.out.2.2.2.2 HB.out.2.2.1 hn1 HM.out.kind).mono ?_
 intro e W1 hq
 have e1 : qz cs (zo kd).1 = n1 := vY hn1
 unfold zA at hq
 cases ho : num s n1 (zo kd).2.1 (zo kd).2.2 with
 | none =>
   rw [ho] at hq
   obtain ⟨rfl, ht⟩ := hq
   exact ⟨rfl, vw.none (by rw [HN.out, yE, zz, e1, ho]) (HB.out.1.zN ht)⟩
 | some ms =>
 obtain ⟨m1, s1⟩ := ms
 rw [ho] at hq
 obtain ⟨rfl, hr1, hc1, ht1⟩ := hq
 have hr1 := hr1 (HG.out 1 s1 (cs.setIfInBounds (zo kd).1 (.int .i64 m1)) (by simp only [List.take_succ_cons, List.take_zero, yE, zz, e1, ho]))
 have hm1 := HM.out.set (i := 1) (by omega) m1
 have htl1 : jr cs (cs.setIfInBounds 1 (.int .i64 m1)) := jr.set (fun _ _ => rfl) (by omega) m1
 obtain ⟨cs1, hcs1⟩ : ∃ cs1, cs1 = cs.setIfInBounds (zo kd).1 (.int .i64 m1) := ⟨_, rfl⟩
 rw [← hcs1] at hc1
 rw [show cs.setIfInBounds 1 (.int .i64 m1) = cs1 from hcs1.symm] at hm1 htl1
 have HTL1 := hH htl1
 clear htl1
 have HG1 := hH (fun (j : Nat) (s' : σ) (cs' : Array Value) (h : yE ((zz num (toQ kd) :: qs).take j) s1 cs1 = some (s', cs')) => HG.out (j + 1) s' cs' (by rw [List.take_succ_cons, yE, zz, e1, ho]; rw [hcs1] at h; exact h))
 have HN1 := hH (show N = yE (zz num (toQ kd) :: qs) s1 cs1 by rw [HN.out, yE, zz, e1, ho, hcs1])
 have ht := HB.out.1.zN ht1
 have eP1 := (ht1.block X.heap.size (lt_of_heap HB.out.2.2.2.1) (HNO.out _ (Nat.le_refl _))).trans HB.out.2.2.2.1
 have H1 := hH (aN hr1 (aN hc1 (aN hm1 (aN ht eP1))))
 clear hn1 e1 ho hr1 hc1 ht1 hm1 hcs1 ht k0 k1 HN HM HB HG
 have k0 : W1.cell? ⟨X.heap.size, 0, none⟩ = some (.pointer (some ⟨b, 0, none⟩)) := by rw [cell_of_row _ _ 0 _ _ _ eP1]; rfl
 have k1 : W1.cell? ⟨X.heap.size, 1, none⟩ = some (.iface T v) := by rw [cell_of_row _ _ 1 _ _ _ eP1]; rfl
 clear eP1
 go_wp2_with fail
 obtain ⟨n2, hn2⟩ := H1.out.2.2.1.nums 2 (by omega) (by omega)
 refine ((zbb HH.out kd).does s1 W1 cs1 n2 H1.out.1 H1.out.2.1 hn2 H1.out.2.2.1.kind).mono ?_
 intro e W2 hq
 have e1 : qz cs1 (toQ kd).1 = n2 := vY hn2
 unfold zA at hq
 cases ho : num s1 n2 (toQ kd).2.1 (toQ kd).2.2 with
 | none =>
   rw [ho] at hq
   obtain ⟨rfl, ht⟩ := hq
   exact ⟨rfl, vw.none (by rw [HN1.out, yE, zz, e1, ho]) (H1.out.2.2.2.1.zN ht)⟩
 | some ms =>
 obtain ⟨m2, s2⟩ := ms
 rw [ho] at hq
 obtain ⟨rfl, hr1, hc1, ht1⟩ := hq
 have hr1 := hr1 (HG1.out 1 s2 (cs1.setIfInBounds (toQ kd).1 (.int .i64 m2)) (by simp only [List.take_succ_cons, List.take_zero, yE, zz, e1, ho]))
 have hm1 := H1.out.2.2.1.set (i := 2) (by omega) m2
 have htl1 : jr cs (cs1.setIfInBounds 2 (.int .i64 m2)) := jr.set HTL1.out (by omega) m2
 obtain ⟨cs2, hcs2⟩ : ∃ cs2, cs2 = cs1.setIfInBounds (toQ kd).1 (.int .i64 m2) := ⟨_, rfl⟩
 rw [← hcs2] at hc1
 rw [show cs1.setIfInBounds 2 (.int .i64 m2) = cs2 from hcs2.symm] at hm1 htl1
 have HTL2 := hH htl1
 clear htl1 HTL1
 have HG2 := hH (fun (j : Nat) (s' : σ) (cs' : Array Value) (h : yE (qs.take j) s2 cs2 = some (s', cs')) => HG1.out (j + 1) s' cs' (by rw [List.take_succ_cons, yE, zz, e1, ho]; rw [hcs2] at h; exact h))
 have HN2 := hH (show N = yE qs s2 cs2 by rw [HN1.out, yE, zz, e1, ho, hcs2])
 have ht := H1.out.2.2.2.1.zN ht1
 have eP2 := (ht1.block X.heap.size (lt_of_heap H1.out.2.2.2.2) (HNO.out _ (Nat.le_refl _))).trans H1.out.2.2.2.2
 have H2 := hH (aN hr1 (aN hc1 (aN hm1 (aN ht eP2))))
 clear hn2 e1 ho hr1 hc1 ht1 hm1 hcs2 ht k0 k1 HN1 H1 HG1 eP2
 have HKD := hH (fun (Y : World) (hY : Below W2.heap.size W2 Y) => (show Y.cell? ⟨X.heap.size, 0, none⟩ = some (.pointer (some ⟨b, 0, none⟩)) ∧ Y.cell? ⟨X.heap.size, 1, none⟩ = some (.iface T v) ∧ Y.cell? ⟨b, 0, none⟩ = some (.int .i8 kd) by
  have eP := (hY.block _ (lt_of_heap H2.out.2.2.2.2)).trans H2.out.2.2.2.2
  have eM := (hY.block _ (lt_of_heap H2.out.2.1)).trans H2.out.2.1
  exact ⟨by rw [cell_of_row _ _ 0 _ _ _ eP]; rfl, by rw [cell_of_row _ _ 1 _ _ _ eP]; rfl, by rw [cell_of_row _ _ 0 _ _ _ eM]; exact H2.out.2.2.1.kind⟩))
 go_upto_region 3 with fail
 refine wp_region_held_drew (S := fun Y => Below W2.heap.size W2 Y) (by kernel_rfl) (zX (Below.refl _ _) 1) (fun hHeld => ?_)
 refine tkH (i := 0) (.agg #[.pointer (some ⟨b, 0, none⟩), .iface T v]) rfl (Or.inl ⟨by rfl, ?_⟩) (by assumption) ?_
 · clear hHeld; intro Y hSw; obtain ⟨k0, k1, k2⟩ := HKD.out Y hSw; clear hSw; go_simp
 simp only [Act.put, pg]
 refine tkH (i := 2) (.pointer (some ⟨b, 0, none⟩)) rfl (Or.inl ⟨by rfl, ?_⟩) (by assumption) ?_
 · clear hHeld; intro Y hSw; clear hSw; go_simp
 simp only [Act.put, pg]
 refine tkH (i := 3) (.pointer (some ⟨b, 0, none⟩)) rfl (Or.inl ⟨by rfl, ?_⟩) (by assumption) ?_
 · clear hHeld; intro Y hSw; clear hSw; go_simp
 simp only [Act.put, pg]
 refine tkH (i := 4) (.pointer (some ⟨b, 0, none⟩)) rfl (Or.inl ⟨by rfl, ?_⟩) (by assumption) ?_
 · clear hHeld; intro Y hSw; clear hSw; go_simp
 simp only [Act.put, pg]
 refine tkH (i := 5) (.int .i8 kd) rfl (Or.inl ⟨by rfl, ?_⟩) (by assumption) ?_
 · clear hHeld; intro Y hSw; obtain ⟨k0, k1, k2⟩ := HKD.out Y hSw; clear hSw; go_simp
 simp only [Act.put, pg]
 refine tkH (i := 8) (.int .i64 0) rfl (Or.inl ⟨by rfl, ?_⟩) (by assumption) ?_
 · clear hHeld; intro Y hSw; clear hSw; go_simp
 simp only [Act.put, pg]
 refine wpAnyH_ready (rs := [1]) (by kernel_rfl) (by simp) ?_
 refine AllReadyH.cons (o := _) rfl (fun K hK => ?_) AllReadyH.nil
 rw [if_pos (by rfl)]
 simp only [pg3]
 have HK := hH hK
 have HS := hH hHeld
 clear hK hHeld
 go_wp2_with fail
 refine (ZX _ b T v).mono ?_
 rintro e W3 ⟨A, rfl, hA, htab, hb3⟩
 have hb23 := HS.out.trans (hb3.mono HS.out.size)
 obtain ⟨r, hAk, hr, hrow⟩ := htab k l HL.out.2.2.2.2.1 HL.out.1
 have H3 := hH (aN hb23 (aN hrow (aN (show W2.heap.size ≤ r from hr) (aN hA hAk))))
 clear hA htab hb3 hAk hr hrow
 go_wp2_with fail
 refine HK.out _ _ hb23 (fun hHeld => ?_)
 clear HK HS hb23
 obtain ⟨ll, hll⟩ : ∃ ll, ll = l.length := ⟨_, rfl⟩
 have HLL := hH hll
 have hidx : ∀ w : World, (Instr.index 148 (.agg A) (.int .i8 kd)).run Tryz.prog w = .ok (.slice (some ⟨r, 0, none⟩) ll ll) w := fun w => by
  rw [HL.out.2.2.2.2.2.2]
  exact YT w A H3.out.2.2.2.1 k HL.out.2.2.2.2.1 HL.out.2.2.2.2.2.1 _ (by rw [hll]; exact H3.out.2.2.2.2)
 clear hll
 refine tkH (i := 6) (.slice (some ⟨r, 0, none⟩) ll ll) rfl (Or.inl ⟨by rfl, ?_⟩) (by assumption) ?_
 · clear hHeld; intro Y hSw; clear hSw; simp [execOp, Act.eval, hidx]
 simp only [Act.put, pg]
 clear hidx
 refine tkH (i := 7) (.int .i64 (ll : Int)) rfl (Or.inl ⟨by rfl, ?_⟩) (by assumption) ?_
 · clear hHeld; intro Y hSw; clear hSw; go_simp
 simp only [Act.put, pg]
 refine wpAnyH_done (by kernel_rfl) ?_ _
 clear hHeld HKD
 have hl100 : ll ≤ 100 := by rw [HLL.out]; exact HL.out.2.2.2.1
 have HR3 := hH (HH.out.keep s2 W2 W3 H2.out.1 (fun q h _ => H3.out.1.block q h) H3.out.1.size)
 have HM3 := hH ((H3.out.1.block b (lt_of_heap H2.out.2.1)).trans H2.out.2.1)
 go_wp2_with fail
 go_loopw [22] (fun i wr => ∃ j : Nat, j ≤ ll ∧ i = .int .i64 (j : Int) ∧ Hid (∃ s' cs', yE (qs.take j) s2 cs2 = some (s', cs') ∧ R s' wr ∧ wr.heap[b]? = some (.cells cs' 37 (0, 0)) ∧ (j < ll → kN cs' kd ∧ jr cs cs') ∧ za W3 wr (fun q => O q ∨ q = b))) (fun i _ => ll - (intOf i).toNat)
 case atStart => exact ⟨0, Nat.zero_le _, rfl, hH ⟨s2, cs2, rfl, HR3.out, HM3.out, fun _ => ⟨H2.out.2.2.1, HTL2.out⟩, ⟨rfl, rfl, rfl, Nat.le_refl _, fun _ _ _ => rfl⟩⟩⟩
 case round =>
  obtain ⟨j, hj, rfl, hh⟩ := hrel
  obtain ⟨wo, hwo⟩ : ∃ wo, wo = wr := ⟨_, rfl⟩
  subst hwo
  obtain ⟨s', cs', hrun, hrr, hcc, hmm, htt⟩ := hh.out
  clear hh
  by_cases hlt : j < ll
  · obtain ⟨F, hF⟩ : ∃ F, l[j]? = some F := ⟨_, List.getElem?_eq_getElem (by rw [← HLL.out]; exact hlt)⟩
    obtain ⟨q, hq⟩ : ∃ q, qs[j]? = some q := ⟨_, List.getElem?_eq_getElem (by rw [← HL.out.2.1, ← HLL.out]; exact hlt)⟩
    have HF := hH (HL.out.2.2.1 j F q hF hq)
    have hji : (j : Int) < (ll : Int) := by omega
    have hj0 : (0 : Int) ≤ (j : Int) := by omega
    have hj2 : (j : Int) ≤ 100 := by omega
    have hrow : wo.heap[r]? = some (.cells (l.map (mfV (.agg #[.pointer (some ⟨b, 0, none⟩), .iface T v]))).toArray 1 (0, 0)) := (htt.block r (lt_of_heap H3.out.2.1) (HNO.out r (Nat.le_trans (Nat.le_of_lt (lt_of_heap H2.out.2.2.2.2)) H3.out.2.2.1))).trans H3.out.2.1
    have rj : wo.cell? ⟨r, j, none⟩ = some (.func (.func F) #[.agg #[.pointer (some ⟨b, 0, none⟩), .iface T v]] #[]) := by
     rw [cell_of_row _ _ j _ _ _ hrow]
     simp [hF, mfV]
    have hen := HF.out.enter
    have hdo := HF.out.does s' wo cs' hrr (H2.out.2.2.2.1.zN ((zu H3.out.1 _).zN htt)) hcc (hmm hlt).1 (hmm hlt).2
    have HD := hH (aN hdo (aN hrun (aN hq (aN (hmm hlt) htt))))
    clear hdo hrun hq hmm htt hrr hcc hrow hF hj
    go_wp2_with fail
    refine HD.out.1.mono ?_
    intro e W6 hq
    unfold J2 at hq
    cases ho : q s' cs' with
    | none =>
      rw [ho] at hq
      obtain ⟨rfl, ht⟩ := hq
      refine ⟨rfl, vw.none (by rw [HN2.out]; exact Y8 HD.out.2.1 HD.out.2.2.1 ho) (H2.out.2.2.2.1.zN ((zu H3.out.1 _).zN (HD.out.2.2.2.2.zN ht)))⟩
    | some ms =>
      obtain ⟨t, ct⟩ := ms
      rw [ho] at hq
      obtain ⟨rfl, hr6, hc6, ht6⟩ := hq
      have hr6 := hr6 (HG2.out _ _ _ (kZ HD.out.2.1 HD.out.2.2.1 ho))
      have hnx : j + 1 < ll → kN ct kd ∧ jr cs ct := fun h => HF.out.keep (by rw [← HLL.out]; exact decide_eq_false (by omega)) s' cs' t ct ho HD.out.2.2.2.1.1 HD.out.2.2.2.1.2
      have HQ := hH (aN (kZ HD.out.2.1 HD.out.2.2.1 ho) (aN hr6 (aN hc6 (aN hnx (HD.out.2.2.2.2.zN ht6)))))
      have HJ := hH hlt
      clear ho hr6 hc6 ht6 rj hlt hnx
      go_wp2_with fail
      exact ⟨⟨j + 1, HJ.out, by go_num, hH ⟨t, _, HQ.out.1, HQ.out.2.1, HQ.out.2.2.1, HQ.out.2.2.2.1, HQ.out.2.2.2.2⟩⟩, by have := HJ.out; simp [intOf]; omega⟩
  · have hji : ¬ (j : Int) < (ll : Int) := by omega
    have hjl : j = ll := by omega
    have HE := hH (vw.some (R := R) (O := O) (b := b) (X := X) (o := N) (by rw [HN2.out, ← hrun, List.take_of_length_le (by rw [← HL.out.2.1, ← HLL.out]; omega)]) hrr hcc (H2.out.2.2.2.1.zN ((zu H3.out.1 _).zN htt)))
    clear hrun hrr hcc hmm htt hjl hlt hj
    go_wp2_with fail
    go_end0
    exact HE.out
end Go.Proofs.YtchccbfljamjnaaGreat
