/-
  ConformParts: each subtree of one that conforms conforms, and each node's kids fit. No condition but the bounds of texts and ids that a host keeps.
-/
import Derived.Test.YtmfpilacmafglaaVWakes
import Derived.Test.YtmfpilacmafglaaVGreat
import Derived.Test.YtmfpilacmafglaaGGreat
import Derived.Test.YtmfpilacmafglaaGLawF
import Derived.BigQuiet
namespace Go.Proofs.Ytmfpilacmafglaa
open Go.RowKit Go.Shelf
attribute [local go_sem] Oper.semAt_some
set_option linter.unusedVariables false
set_option linter.unusedSimpArgs false

/-- Node by node the same, and no deeper. -/
inductive Shal : List Sp → List Sp → Prop
  | nil : Shal [] []
  | cons {a b : Sp} {l r : List Sp} : a.2 = b.2 → a.1 ≤ b.1 → Shal l r → Shal (a :: l) (b :: r)
theorem Shal.app : ∀ {l r l' r' : List Sp}, Shal l r → Shal l' r' → Shal (l ++ l') (r ++ r')
  | _, _, _, _, .nil, h => h
  | _, _, _, _, .cons e d t, h => .cons e d (t.app h)
theorem spF_shal : ∀ (d' d : Nat) (f : Fo), d' ≤ d → Shal (spF d' f) (spF d f)
  | _, _, .nil, _ => .nil
  | d', d, .node _ _ k l r, h => by
    simp only [spF]
    exact .cons rfl h ((spF_shal (d' + 1) (d + 1) l (by omega)).app (spF_shal d' d r h))
theorem atB_shal {g : Gr} {ids' ids : List Int} {a b : Sp} (he : a.2 = b.2) (hd : a.1 ≤ b.1) (hi : ∀ i ∈ ids', i ∈ ids) (h : atB g ids b.1 (trOf b) = false) : atB g ids' a.1 (trOf a) = false := by
  have ht : trOf a = trOf b := by simp only [trOf, he]
  rw [ht]
  simp only [atB, Bool.or_eq_false_iff, decide_eq_false_iff_not, List.any_eq_false, beq_iff_eq] at h ⊢
  exact ⟨⟨⟨by omega, h.1.1.2⟩, fun i hi' => h.1.2 i (hi i hi')⟩, h.2⟩
theorem badAt_shal {g : Gr} : ∀ {l' l : List Sp}, Shal l' l → ∀ {ids' ids : List Int} {i j : Nat}, (∀ n ∈ ids', n ∈ ids) → badAt g ids i l = none → badAt g ids' j l' = none
  | _, _, .nil, _, _, _, _, _, _ => rfl
  | _, _, .cons (a := a) (b := b) he hd ht, ids', ids, i, j, hi, h => by
    unfold badAt at h ⊢
    split at h
    · cases h
    · rename_i hx
      rw [if_neg (by rw [atB_shal he hd hi (by simpa using hx)]; simp)]
      refine badAt_shal ht (fun n hn => ?_) h
      rw [List.mem_append, List.mem_singleton] at hn ⊢
      rcases hn with hn | hn
      · exact Or.inl (hi n hn)
      · exact Or.inr (by rw [hn, he])
theorem badAt_split {g : Gr} : ∀ (p : List Sp) {r : List Sp} {ids : List Int} {i : Nat}, badAt g ids i (p ++ r) = none → badAt g ids i p = none ∧ badAt g (ids ++ idsOf p) (i + p.length) r = none
  | [], r, ids, i, h => ⟨rfl, by simpa [idsOf] using h⟩
  | x :: p, r, ids, i, h => by
    rw [List.cons_append] at h
    unfold badAt at h
    split at h
    · cases h
    · rename_i hx
      obtain ⟨h1, h2⟩ := badAt_split p h
      refine ⟨by unfold badAt; rw [if_neg hx]; exact h1, ?_⟩
      simp only [idsOf, List.map_cons, List.append_assoc, List.cons_append, List.nil_append, List.length_cons] at h2 ⊢
      rw [show i + (p.length + 1) = i + 1 + p.length by omega]; exact h2
theorem spF_part : ∀ (d : Nat) (f : Fo) (x : Sp), x ∈ spF d f → ∃ A B, spF d f = A ++ (spF x.1 (rootF (trOf x)) ++ B)
  | _, .nil, _, h => by cases h
  | d, .node _ _ k l r, x, h => by
    simp only [spF, List.mem_cons, List.mem_append] at h
    rcases h with rfl | h | h
    · exact ⟨[], spF d r, by simp [spF, rootF, trOf]⟩
    · obtain ⟨A, B, e⟩ := spF_part (d + 1) l x h
      exact ⟨(d, k, l) :: A, B ++ spF d r, by simp [spF, e, List.append_assoc]⟩
    · obtain ⟨A, B, e⟩ := spF_part d r x h
      exact ⟨(d, k, l) :: (spF (d + 1) l ++ A), B, by simp [spF, e, List.append_assoc]⟩
theorem spF_deep : ∀ (d : Nat) (f : Fo) (x : Sp), x ∈ spF d f → d ≤ x.1 := fun d f x h => (spF_mem_size d f x h).2.1
/-- What conforms does so in its parts. -/
theorem sub_ok {g : Gr} {t : Tr} (h : (subR g t).2 = 0) : grOk g = true ∧ ¬ 200 < foSize t.kids + 1 ∧ badAt g [] 0 (spF 1 (rootF t)) = none := by
  unfold subR at h
  split at h
  · rename_i hg
    split at h
    · simp at h
    · rename_i hs
      refine ⟨hg, hs, ?_⟩
      unfold faultR at h
      split at h
      · simp at h
      · assumption
  · simp at h
theorem sub_part {g : Gr} {t : Tr} (h : (subR g t).2 = 0) {x : Sp} (hx : x ∈ spF 1 (rootF t)) : subR g (trOf x) = (0, 0) ∧ nodeB g (trOf x) = true := by
  obtain ⟨hg, hs, hb⟩ := sub_ok h
  obtain ⟨A, B, e⟩ := spF_part 1 (rootF t) x hx
  have hsz := (spF_mem_size 1 _ _ hx).1
  rw [rootF_size] at hsz
  rw [e] at hb
  have hb2 := (badAt_split _ (badAt_split A hb).2).1
  have hb3 : badAt g [] 0 (spF 1 (rootF (trOf x))) = none := badAt_shal (spF_shal 1 x.1 _ (spF_deep 1 _ _ hx)) (fun n hn => by cases hn) hb2
  refine ⟨?_, ?_⟩
  · unfold subR
    rw [if_pos hg, if_neg (by show ¬ 200 < foSize x.2.2 + 1; omega), faultR, hb3]
  · simp only [rootF, spF, List.append_nil] at hb3
    unfold badAt at hb3
    split at hb3
    · cases hb3
    · rename_i hn
      simp only [atB, Bool.or_eq_true, not_or, Bool.not_eq_true, Bool.not_eq_false', Bool.not_eq_eq_eq_not, Bool.not_true, Bool.not_false] at hn
      have h2 := hn.2
      rw [show trOf (1, ((trOf x).id, (trOf x).kind, (trOf x).text), (trOf x).kids) = trOf x from rfl] at h2
      simpa using h2
theorem okF_part {t : Tr} (h : okF (spF 1 (rootF t))) {x : Sp} (hx : x ∈ spF 1 (rootF t)) : okF (spF 1 (rootF (trOf x))) := fun y hy => by
  obtain ⟨A, B, e⟩ := spF_part 1 (rootF t) x hx
  have hsh := spF_shal 1 x.1 (rootF (trOf x)) (spF_deep 1 _ _ hx)
  have : ∀ {l r : List Sp}, Shal l r → y ∈ l → ∃ z ∈ r, z.2 = y.2 := fun {l r} hs => by
    induction hs with
    | nil => intro h; cases h
    | cons he hd _ ih =>
      intro hm
      rcases List.mem_cons.1 hm with rfl | hm
      · exact ⟨_, List.mem_cons_self, he.symm⟩
      · obtain ⟨z, hz, hz2⟩ := ih hm
        exact ⟨z, List.mem_cons_of_mem _ hz, hz2⟩
  obtain ⟨z, hz, hz2⟩ := this hsh hy
  have := h z (by rw [e]; simp [hz])
  rw [hz2] at this; exact this
set_option maxRecDepth 100000 in
set_option maxHeartbeats 4000000 in
theorem parts_any (w : World) (S : Nat → Prop) (gv nv : Value) (g : Gr) (t : Tr) (hg : GrV w gv g) (hfg : g.fits) (hS : ∀ x, S x → x < w.heap.size) (ht : TrAt w S nv t) (hlen : foLen t.kids ≤ 9223372036854775807) (hfit : foFit t.kids) (hok : okF (spF 1 (rootF t))) :
    Calls Try.prog 7 #[gv, nv] w (Says true w) := by
  obtain ⟨ga, gc, rfl, hgk⟩ := hg
  obtain ⟨ka, cap, rfl, hcap, hk⟩ := ht
  obtain ⟨n, hn⟩ : ∃ n, n = foLen t.kids := ⟨_, rfl⟩
  obtain ⟨gn, hgn⟩ : ∃ gn, gn = g.kinds.length := ⟨_, rfl⟩
  rw [← hn, ← hgn]
  have kx : ((w.alloc (.cells #[.slice ga gn gc, .int .i64 g.root] 55)).alloc (.cells #[.int .i64 t.id, .int .i64 t.kind, .string t.text, .slice ka n cap] 24)).heap[w.heap.size]? = _ := allocs_at [.cells #[.slice ga gn gc, .int .i64 g.root] 55, .cells #[.int .i64 t.id, .int .i64 t.kind, .string t.text, .slice ka n cap] 24] w 0 _ rfl
  have ky : ((w.alloc (.cells #[.slice ga gn gc, .int .i64 g.root] 55)).alloc (.cells #[.int .i64 t.id, .int .i64 t.kind, .string t.text, .slice ka n cap] 24)).heap[w.heap.size + 1]? = _ := allocs_at [.cells #[.slice ga gn gc, .int .i64 g.root] 55, .cells #[.int .i64 t.id, .int .i64 t.kind, .string t.text, .slice ka n cap] 24] w 1 _ rfl
  have hab : Below w.heap.size w ((w.alloc (.cells #[.slice ga gn gc, .int .i64 g.root] 55)).alloc (.cells #[.int .i64 t.id, .int .i64 t.kind, .string t.text, .slice ka n cap] 24)) := allocs_below [.cells #[.slice ga gn gc, .int .i64 g.root] 55, .cells #[.int .i64 t.id, .int .i64 t.kind, .string t.text, .slice ka n cap] 24] w
  obtain ⟨SX, hSX⟩ : ∃ SX : World → Prop, SX = fun X => Below (w.heap.size + 2) ((w.alloc (.cells #[.slice ga gn gc, .int .i64 g.root] 55)).alloc (.cells #[.int .i64 t.id, .int .i64 t.kind, .string t.text, .slice ka n cap] 24)) X := ⟨_, rfl⟩
  have HSx : ∀ X, SX X → X.cell? ⟨w.heap.size, 0, none⟩ = some (.slice ga gn gc) ∧ X.cell? ⟨w.heap.size, 1, none⟩ = some (.int .i64 g.root) ∧ X.cell? ⟨w.heap.size + 1, 0, none⟩ = some (.int .i64 t.id) ∧ X.cell? ⟨w.heap.size + 1, 1, none⟩ = some (.int .i64 t.kind) ∧ X.cell? ⟨w.heap.size + 1, 2, none⟩ = some (.string t.text) ∧ X.cell? ⟨w.heap.size + 1, 3, none⟩ = some (.slice ka n cap) := fun X h => by
    rw [hSX] at h
    obtain ⟨a0, a1⟩ := boxG ((h.block _ (by omega)).trans kx)
    obtain ⟨b0, b1, b2, b3⟩ := boxN ((h.block _ (by omega)).trans ky)
    exact ⟨a0, a1, b0, b1, b2, b3⟩
  have HS := Lib.hid (show SX ((w.alloc (.cells #[.slice ga gn gc, .int .i64 g.root] 55)).alloc (.cells #[.int .i64 t.id, .int .i64 t.kind, .string t.text, .slice ka n cap] 24)) by rw [hSX]; exact Below.refl _ _)
  have HSB := Lib.hid (fun (X Y : World) (h : SX X) (hb : Below X.heap.size X Y) => (show SX Y by rw [hSX] at h ⊢; exact h.trans (hb.mono (by have := h.size; simp at this; omega))))
  have hwX : ∀ X, SX X → Below w.heap.size w X := fun X h => by rw [hSX] at h; exact hab.trans (h.mono (by omega))
  have hgX : ∀ X, SX X → GrV X (.agg #[.slice ga gn gc, .int .i64 g.root]) g := fun X h => ⟨ga, gc, by rw [hgn], hgk.below (hwX X h)⟩
  have htX : ∀ X, SX X → TrAt X S (.agg #[.int .i64 t.id, .int .i64 t.kind, .string t.text, .slice ka n cap]) t := fun X h => ⟨ka, cap, by rw [hn], hcap, hk.below (hwX X h) hS⟩
  have hSXl : ∀ X, SX X → ∀ y, S y → y < X.heap.size := fun X h y hy => Nat.lt_of_lt_of_le (hS y hy) (hwX X h).size
  have HFIN := Lib.hid hwX
  have HG5 : Hid (∀ X, SX X → Calls Try.prog 25 #[.agg #[.slice ga gn gc, .int .i64 g.root]] X (Says (greatG g) X)) := Lib.hid fun X h => great_any X _ g (hgX X h) hfg
  have HG3 : Hid (∀ X, SX X → Calls Try.prog 9 #[.agg #[.int .i64 t.id, .int .i64 t.kind, .string t.text, .slice ka n cap]] X (GreatC3 X t)) := Lib.hid fun X h => great3_any X S _ t hlen hfit (hSXl X h) (htX X h)
  have HWK : Hid (∀ X, SX X → Calls Try.prog 39 #[] X (Says true X)) := Lib.hid fun X h => wakes7_any X
  have HWA : Hid (∀ X, SX X → Calls Try.prog 24 #[.agg #[.int .i64 t.id, .int .i64 t.kind, .string t.text, .slice ka n cap], .int .i64 251] X (WalkM X S t 251)) := Lib.hid fun X h => walkM_any 251 (by omega) X S _ t hlen hfit (hSXl X h) (htX X h)
  have HOK := Lib.hid hok
  have HGX := Lib.hid hgX
  have HSL := Lib.hid hSXl
  obtain ⟨gb, hgb⟩ : ∃ gb, gb = greatG g := ⟨_, rfl⟩
  rw [← hgb] at HG5
  obtain ⟨⟨f1, f2⟩, hfr⟩ : ∃ p : Int × Int, p = subR g t := ⟨_, rfl⟩
  have HFR := Lib.hid hfr
  have HSUB : Hid (g.few → foSize t.kids + 1 ≤ 250 → ∀ X, SX X → Calls Try.prog 42 #[.agg #[.slice ga gn gc, .int .i64 g.root], .agg #[.int .i64 t.id, .int .i64 t.kind, .string t.text, .slice ka n cap]] X (Says2 (f1, f2) X)) := Lib.hid fun hf hsz X h => by
    have := sub_any X S _ _ g t (hgX X h) hf (hSXl X h) (htX X h) (by omega) hok
    rw [← hfr] at this; exact this
  have HGB := Lib.hid hgb
  clear hS hcap hk hn hgn hfg hlen hfit hok kx ky hab hSX hwX hgX htX hSXl hfr hgb
  cases gb
  case true =>
    go_enter Try.func7, Try.ntmps7
    go_wp2_with (first
      | (go_at_call 25; refine (HG5.out _ HS.out).mono ?_; rintro e w2 ⟨rfl, hb⟩; have HS2 := Lib.hid (HSB.out _ w2 HS.out hb); obtain ⟨p0, p1, p2, p3, p4, p5⟩ := HSx w2 HS2.out; clear hb)
      | (go_at_call 39; refine (HWK.out _ HS2.out).mono ?_; rintro e w3 ⟨rfl, hb⟩; have HS3 := Lib.hid (HSB.out _ w3 HS2.out hb); obtain ⟨q0, q1, q2, q3, q4, q5⟩ := HSx w3 HS3.out; clear hb))
    go_ret
    exact ⟨rfl, HFIN.out _ HS3.out⟩
  have hfew := (great_few HGB.out.symm).1
  have HFEW := Lib.hid hfew
  have HSUB2 := Lib.hid (HSUB.out hfew)
  clear hfew HSUB
  go_enter Try.func7, Try.ntmps7
  go_wp2_with (go_at_call 25; refine (HG5.out _ HS.out).mono ?_; rintro e w2 ⟨rfl, hb⟩; have HS2 := Lib.hid (HSB.out _ w2 HS.out hb); obtain ⟨p0, p1, p2, p3, p4, p5⟩ := HSx w2 HS2.out; clear hb)
  go_at_call 9
  refine (HG3.out _ HS2.out).mono ?_
  rintro e w3 ⟨b3, rfl, hb3, hb⟩
  have HS3 := Lib.hid (HSB.out _ w3 HS2.out hb); obtain ⟨q0, q1, q2, q3, q4, q5⟩ := HSx w3 HS3.out; clear hb
  clear p0 p1 p2 p3 p4 p5
  cases b3
  case true =>
    clear hb3
    go_wp2_with (go_at_call 39; refine (HWK.out _ HS3.out).mono ?_; rintro e w4 ⟨rfl, hb⟩; have HS4 := Lib.hid (HSB.out _ w4 HS3.out hb); obtain ⟨r0, r1, r2, r3, r4, r5⟩ := HSx w4 HS4.out; clear hb)
    go_ret
    exact ⟨rfl, HFIN.out _ HS4.out⟩
  have h250 := hb3 rfl
  have HZ := Lib.hid h250
  have HSUB3 := Lib.hid (HSUB2.out h250)
  clear hb3 h250 HSUB2
  by_cases h2 : f2 = 0
  case neg =>
    go_wp2_with (first
      | (go_at_call 42; refine (HSUB3.out _ HS3.out).mono ?_; rintro e w4 ⟨rfl, hb⟩; have HS4 := Lib.hid (HSB.out _ w4 HS3.out hb); obtain ⟨r0, r1, r2, r3, r4, r5⟩ := HSx w4 HS4.out; clear hb)
      | (go_at_call 39; refine (HWK.out _ HS4.out).mono ?_; rintro e w5 ⟨rfl, hb⟩; have HS5 := Lib.hid (HSB.out _ w5 HS4.out hb); obtain ⟨u0, u1, u2, u3, u4, u5⟩ := HSx w5 HS5.out; clear hb))
    go_ret
    exact ⟨rfl, HFIN.out _ HS5.out⟩
  subst h2
  have hso : (subR g t).2 = 0 := by rw [← HFR.out]
  have HSO := Lib.hid hso
  clear hso
  go_wp2_with (go_at_call 42; refine (HSUB3.out _ HS3.out).mono ?_; rintro e w4 ⟨rfl, hb⟩; have HS4 := Lib.hid (HSB.out _ w4 HS3.out hb); obtain ⟨r0, r1, r2, r3, r4, r5⟩ := HSx w4 HS4.out; clear hb)
  go_at_call 24
  refine (HWA.out _ HS4.out).mono ?_
  rintro e w5 ⟨la, lc, rfl, hsp, hb⟩
  have HS5 := Lib.hid (HSB.out _ w5 HS4.out hb); obtain ⟨u0, u1, u2, u3, u4, u5⟩ := HSx w5 HS5.out; clear hb
  have hlt : (spF 1 (rootF t)).take 251 = spF 1 (rootF t) := List.take_of_length_le (by rw [spF_length, rootF_size]; have := HZ.out; omega)
  rw [hlt] at hsp ⊢
  obtain ⟨q, hq⟩ : ∃ q, q = (spF 1 (rootF t)).length := ⟨_, rfl⟩
  rw [← hq] at hsp ⊢
  have hq2 : q ≤ 200 := by rw [hq, spF_length, rootF_size]; have := (sub_ok HSO.out).2.1; omega
  have HSP := Lib.hid (And.intro hsp (And.intro hq hq2))
  have hql : (q : Int) ≤ 200 := by omega
  clear hsp hq hlt q0 q1 q2 q3 q4 q5 r0 r1 r2 r3 r4 r5
  go_wp2_with fail
  go_loopw [8, 31] (fun _ i wr => ∃ k : Nat, k ≤ q ∧ i = .int .i64 (k : Int) ∧ Hid (Below w5.heap.size w5 wr)) (fun _ i _ => q - (intOf i).toNat)
  case atStart => exact ⟨0, Nat.zero_le _, rfl, Lib.hid (Below.refl _ _)⟩
  case round =>
    obtain ⟨k, hk, rfl, hr⟩ := hrel
    by_cases hlt : k < q
    · obtain ⟨x, hx⟩ : ∃ x, (spF 1 (rootF t))[k]? = some x := ⟨_, List.getElem?_eq_getElem (by rw [← HSP.out.2.1]; exact hlt)⟩
      have hxm := List.mem_of_getElem? hx
      obtain ⟨gg, rfl, hgl, c0, c1, c2, ⟨xa, xc, c3, hxc, hxk⟩, _⟩ := spots_ge HSP.out.1 hx
      obtain ⟨x0, hx0⟩ : ∃ x0, x0 = x.2.1.1 := ⟨_, rfl⟩
      obtain ⟨x1, hx1⟩ : ∃ x1, x1 = x.2.1.2.1 := ⟨_, rfl⟩
      obtain ⟨x2, hx2⟩ : ∃ x2, x2 = x.2.1.2.2 := ⟨_, rfl⟩
      obtain ⟨xn, hxn⟩ : ∃ xn, xn = foLen x.2.2 := ⟨_, rfl⟩
      rw [← hx0] at c0; rw [← hx1] at c1; rw [← hx2] at c2; rw [← hxn] at c3
      have hSXX : ∀ X, Below w5.heap.size w5 X → SX X := fun X h => HSB.out _ X HS5.out h
      have hszx := (spF_mem_size 1 _ _ hxm).1
      rw [rootF_size] at hszx
      have h250 := HZ.out
      have hTX : ∀ X, Below w5.heap.size w5 X → TrAt X S (.agg #[.int .i64 x0, .int .i64 x1, .string x2, .slice xa xn xc]) (trOf x) := fun X h => ⟨xa, xc, by rw [hx0, hx1, hx2, hxn]; rfl, hxc, hxk.below h (HSL.out w5 HS5.out)⟩
      have HLx := Lib.hid (fun (X : World) (h : Below w5.heap.size w5 X) => (show X.cell? ⟨w.heap.size, 0, none⟩ = some (.slice ga gn gc) ∧ X.cell? ⟨w.heap.size, 1, none⟩ = some (.int .i64 g.root) ∧ X.cell? ⟨gg, k * 5, none⟩ = some (.int .i64 x0) ∧ X.cell? ⟨gg, k * 5 + 1, none⟩ = some (.int .i64 x1) ∧ X.cell? ⟨gg, k * 5 + 2, none⟩ = some (.string x2) ∧ X.cell? ⟨gg, k * 5 + 3, none⟩ = some (.slice xa xn xc) from by
        obtain ⟨a0, a1, _, _, _, _⟩ := HSx X (hSXX X h)
        exact ⟨a0, a1, (h.cell (p := ⟨gg, k * 5, none⟩) hgl).trans c0, (h.cell (p := ⟨gg, k * 5 + 1, none⟩) hgl).trans c1, (h.cell (p := ⟨gg, k * 5 + 2, none⟩) hgl).trans c2, (h.cell (p := ⟨gg, k * 5 + 3, none⟩) hgl).trans c3⟩))
      have hpt := sub_part HSO.out hxm
      have HSUBK : Hid (∀ X, Below w5.heap.size w5 X → Calls Try.prog 42 #[.agg #[.slice ga gn gc, .int .i64 g.root], .agg #[.int .i64 x0, .int .i64 x1, .string x2, .slice xa xn xc]] X fun e w' => e = .returned (.tuple #[.int .i64 0, .int .i64 0]) ∧ Below w5.heap.size w5 w') := Lib.hid fun X h => by
        refine (sub_any X S _ _ g (trOf x) (HGX.out X (hSXX X h)) HFEW.out (HSL.out X (hSXX X h)) (hTX X h) (by show foSize x.2.2 + 1 ≤ 500000; omega) (okF_part HOK.out hxm)).mono ?_
        rintro e w' ⟨h1, h2⟩
        rw [hpt.1] at h1
        exact ⟨h1, h.trans (h2.mono h.size)⟩
      have HNODK : Hid (∀ X, Below w5.heap.size w5 X → Calls Try.prog 44 #[.agg #[.slice ga gn gc, .int .i64 g.root], .agg #[.int .i64 x0, .int .i64 x1, .string x2, .slice xa xn xc]] X fun e w' => e = .returned (.bool true) ∧ Below w5.heap.size w5 w') := Lib.hid fun X h => by
        refine (node_any X S _ g _ (trOf x) (HGX.out X (hSXX X h)) HFEW.out (HSL.out X (hSXX X h)) (hTX X h) (by have := foLen_le x.2.2; show foLen x.2.2 ≤ 1000000; omega) (HOK.out x hxm).1).mono ?_
        rintro e w' ⟨h1, h2⟩
        rw [hpt.2] at h1
        exact ⟨h1, h.trans (h2.mono h.size)⟩
      have HLT := Lib.hid hlt
      have hkl : (k : Int) < (q : Int) := by omega
      have H7 := Lib.hid (show Below w5.heap.size w5 wr.drew from below_drewN hr.out 1)
      clear hr hxm hx hgl c0 c1 c2 c3 hxc hxk hx0 hx1 hx2 hxn hSXX hszx h250 hTX hpt hk hlt
      go_wp2_with fail
      refine wp_region_quiet (C := fun X => Below w5.heap.size w5 X) (by kernel_rfl) (by kernel_rfl) H7.out ?_
      refine wpQuiet_step (fun K hK => ?_)
      rw [if_pos (by rfl)]
      refine ⟨.agg #[.slice ga gn gc, .int .i64 g.root], fun X hX => ?_, hK _ ?_⟩
      · clear hK; obtain ⟨s0, s1, s2, s3, s4, s5⟩ := HLx.out X hX; go_simp
      clear hK K
      simp only [Act.put, List.setIfInBounds_toArray, List.set_cons_zero, List.set_cons_succ]
      refine wpQuiet_step (fun K hK => ?_)
      rw [if_pos (by rfl)]
      refine ⟨.slice (some ⟨gg, 0, none⟩) q lc, fun X hX => ?_, hK _ ?_⟩
      · clear hK; go_simp
      clear hK K
      simp only [Act.put, List.setIfInBounds_toArray, List.set_cons_zero, List.set_cons_succ]
      refine wpQuiet_step (fun K hK => ?_)
      rw [if_pos (by rfl)]
      refine ⟨.int .i64 (k : Int), fun X hX => ?_, hK _ ?_⟩
      · clear hK; go_simp
      clear hK K
      simp only [Act.put, List.setIfInBounds_toArray, List.set_cons_zero, List.set_cons_succ]
      refine wpQuiet_step (fun K hK => ?_)
      rw [if_pos (by rfl)]
      refine ⟨.pointer (some ⟨gg, k * 5, none⟩), fun X hX => ?_, hK _ ?_⟩
      · clear hK; go_simp
      clear hK K
      simp only [Act.put, List.setIfInBounds_toArray, List.set_cons_zero, List.set_cons_succ]
      refine wpQuiet_step (fun K hK => ?_)
      rw [if_pos (by rfl)]
      refine ⟨.pointer (some ⟨gg, k * 5, none⟩), fun X hX => ?_, hK _ ?_⟩
      · clear hK; go_simp
      clear hK K
      simp only [Act.put, List.setIfInBounds_toArray, List.set_cons_zero, List.set_cons_succ]
      refine wpQuiet_step (fun K hK => ?_)
      rw [if_pos (by rfl)]
      refine ⟨.agg #[.int .i64 x0, .int .i64 x1, .string x2, .slice xa xn xc], fun X hX => ?_, hK _ ?_⟩
      · clear hK; obtain ⟨s0, s1, s2, s3, s4, s5⟩ := HLx.out X hX; go_simp
      clear hK K
      simp only [Act.put, List.setIfInBounds_toArray, List.set_cons_zero, List.set_cons_succ]
      refine wpQuiet_step (fun K hK => ?_)
      rw [if_pos (by rfl)]
      refine ⟨.tuple #[.int .i64 0, .int .i64 0], fun X hX => ?_, hK _ ?_⟩
      · clear hK; go_simp; exact HSUBK.out X hX
      clear hK K
      simp only [Act.put, List.setIfInBounds_toArray, List.set_cons_zero, List.set_cons_succ]
      refine wpQuiet_step (fun K hK => ?_)
      rw [if_pos (by rfl)]
      refine ⟨.tuple #[.int .i64 0, .int .i64 0], fun X hX => ?_, hK _ ?_⟩
      · clear hK; go_simp
      clear hK K
      simp only [Act.put, List.setIfInBounds_toArray, List.set_cons_zero, List.set_cons_succ]
      refine wpQuiet_step (fun K hK => ?_)
      rw [if_pos (by rfl)]
      refine ⟨.int .i64 0, fun X hX => ?_, hK _ ?_⟩
      · clear hK; go_simp
      clear hK K
      simp only [Act.put, List.setIfInBounds_toArray, List.set_cons_zero, List.set_cons_succ]
      refine wpQuiet_step (fun K hK => ?_)
      rw [if_pos (by rfl)]
      refine ⟨.int .i64 0, fun X hX => ?_, hK _ ?_⟩
      · clear hK; go_simp
      clear hK K
      simp only [Act.put, List.setIfInBounds_toArray, List.set_cons_zero, List.set_cons_succ]
      refine wpQuiet_step (fun K hK => ?_)
      rw [if_pos (by rfl)]
      refine ⟨.int .i64 0, fun X hX => ?_, hK _ ?_⟩
      · clear hK; go_simp
      clear hK K
      simp only [Act.put, List.setIfInBounds_toArray, List.set_cons_zero, List.set_cons_succ]
      refine wpQuiet_step (fun K hK => ?_)
      rw [if_pos (by rfl)]
      refine ⟨.int .i64 0, fun X hX => ?_, hK _ ?_⟩
      · clear hK; go_simp
      clear hK K
      simp only [Act.put, List.setIfInBounds_toArray, List.set_cons_zero, List.set_cons_succ]
      refine wpQuiet_nil ?_
      intro X hX
      have H8 := Lib.hid (show Below w5.heap.size w5 X.drew from below_drewN hX 1)
      clear hX
      go_wp2_with fail
      refine wp_region_quiet (C := fun X => Below w5.heap.size w5 X) (by kernel_rfl) (by kernel_rfl) H8.out ?_
      refine wpQuiet_step (fun K hK => ?_)
      rw [if_pos (by rfl)]
      refine ⟨.int .i64 0, fun X hX => ?_, hK _ ?_⟩
      · clear hK; go_simp
      clear hK K
      simp only [Act.put, List.setIfInBounds_toArray, List.set_cons_zero, List.set_cons_succ]
      refine wpQuiet_step (fun K hK => ?_)
      rw [if_pos (by rfl)]
      refine ⟨.bool false, fun X hX => ?_, hK _ ?_⟩
      · clear hK; go_simp
      clear hK K
      simp only [Act.put, List.setIfInBounds_toArray, List.set_cons_zero, List.set_cons_succ]
      refine wpQuiet_step (fun K hK => ?_)
      rw [if_pos (by rfl)]
      refine ⟨.bool false, fun X hX => ?_, hK _ ?_⟩
      · clear hK; go_simp
      clear hK K
      simp only [Act.put, List.setIfInBounds_toArray, List.set_cons_zero, List.set_cons_succ]
      refine wpQuiet_step (fun K hK => ?_)
      rw [if_pos (by rfl)]
      refine ⟨.agg #[.slice ga gn gc, .int .i64 g.root], fun X hX => ?_, hK _ ?_⟩
      · clear hK; obtain ⟨s0, s1, s2, s3, s4, s5⟩ := HLx.out X hX; go_simp
      clear hK K
      simp only [Act.put, List.setIfInBounds_toArray, List.set_cons_zero, List.set_cons_succ]
      refine wpQuiet_step (fun K hK => ?_)
      rw [if_pos (by rfl)]
      refine ⟨.slice (some ⟨gg, 0, none⟩) q lc, fun X hX => ?_, hK _ ?_⟩
      · clear hK; go_simp
      clear hK K
      simp only [Act.put, List.setIfInBounds_toArray, List.set_cons_zero, List.set_cons_succ]
      refine wpQuiet_step (fun K hK => ?_)
      rw [if_pos (by rfl)]
      refine ⟨.int .i64 (k : Int), fun X hX => ?_, hK _ ?_⟩
      · clear hK; go_simp
      clear hK K
      simp only [Act.put, List.setIfInBounds_toArray, List.set_cons_zero, List.set_cons_succ]
      refine wpQuiet_step (fun K hK => ?_)
      rw [if_pos (by rfl)]
      refine ⟨.pointer (some ⟨gg, k * 5, none⟩), fun X hX => ?_, hK _ ?_⟩
      · clear hK; go_simp
      clear hK K
      simp only [Act.put, List.setIfInBounds_toArray, List.set_cons_zero, List.set_cons_succ]
      refine wpQuiet_step (fun K hK => ?_)
      rw [if_pos (by rfl)]
      refine ⟨.pointer (some ⟨gg, k * 5, none⟩), fun X hX => ?_, hK _ ?_⟩
      · clear hK; go_simp
      clear hK K
      simp only [Act.put, List.setIfInBounds_toArray, List.set_cons_zero, List.set_cons_succ]
      refine wpQuiet_step (fun K hK => ?_)
      rw [if_pos (by rfl)]
      refine ⟨.agg #[.int .i64 x0, .int .i64 x1, .string x2, .slice xa xn xc], fun X hX => ?_, hK _ ?_⟩
      · clear hK; obtain ⟨s0, s1, s2, s3, s4, s5⟩ := HLx.out X hX; go_simp
      clear hK K
      simp only [Act.put, List.setIfInBounds_toArray, List.set_cons_zero, List.set_cons_succ]
      refine wpQuiet_step (fun K hK => ?_)
      rw [if_pos (by rfl)]
      refine ⟨.bool true, fun X hX => ?_, hK _ ?_⟩
      · clear hK; go_simp; exact HNODK.out X hX
      clear hK K
      simp only [Act.put, List.setIfInBounds_toArray, List.set_cons_zero, List.set_cons_succ]
      refine wpQuiet_step (fun K hK => ?_)
      rw [if_pos (by rfl)]
      refine ⟨.bool false, fun X hX => ?_, hK _ ?_⟩
      · clear hK; go_simp
      clear hK K
      simp only [Act.put, List.setIfInBounds_toArray, List.set_cons_zero, List.set_cons_succ]
      refine wpQuiet_step (fun K hK => ?_)
      rw [if_pos (by rfl)]
      refine ⟨.bool false, fun X hX => ?_, hK _ ?_⟩
      · clear hK; go_simp
      clear hK K
      simp only [Act.put, List.setIfInBounds_toArray, List.set_cons_zero, List.set_cons_succ]
      refine wpQuiet_nil ?_
      intro Y hY
      have H9 := Lib.hid hY
      clear hY
      go_wp2_with fail
      exact ⟨⟨k + 1, HLT.out, by go_num, H9⟩, by have := HLT.out; simp [intOf]; omega⟩
    · have hkl : ¬ (k : Int) < (q : Int) := by omega
      have HS6 := Lib.hid (HSB.out _ _ HS5.out hr.out)
      clear hr hk hlt
      go_wp2_with (go_at_call 39; refine (HWK.out _ HS6.out).mono ?_; rintro e w7 ⟨rfl, hb⟩; have HS7 := Lib.hid (HSB.out _ w7 HS6.out hb); clear hb)
      go_ret
      exact ⟨rfl, HFIN.out _ HS7.out⟩
end Go.Proofs.Ytmfpilacmafglaa
