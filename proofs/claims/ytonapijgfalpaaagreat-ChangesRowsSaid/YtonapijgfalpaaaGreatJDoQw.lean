/-
  .
-/
import Derived.Deep.Cut
import Derived.Test.YtonapijgfalpaaaGreatIInv4Qw
import Derived.Test.YtonapijgfalpaaaGreatVSubQw
import Derived.Test.YtonapijgfalpaaaGreatLRowQw
import Derived.Test.YtonapijgfalpaaaGreatVWalkQw
import Derived.Test.YtonapijgfalpaaaGreatKOpenQw
import Derived.Test.YtonapijgfalpaaaGreatJSeqQw
import Derived.Test.YtonapijgfalpaaaGreatJPgQw
set_option maxRecDepth 100000
set_option maxHeartbeats 40000000
set_option linter.unusedVariables false
set_option linter.unusedSimpArgs false
namespace Go.Proofs.YtonapijgfalpaaaGreat
open Go.RowKit Go.Shelf
def okB (k : Key) : Bool := decide ((k.2.2.size : Int) ≤ 9223372036854775807) && (Lit.int .i64 k.1).wf
theorem J4 (k : Key) : okB k = true ↔ (k.2.2.size : Int) ≤ 9223372036854775807 ∧ (Lit.int .i64 k.1).wf = true := by simp [okB]
theorem JS (t : Tr) : okF (spF 1 (zm t)) ↔ yw (fun k => !okB k) t = 0 := by
 have h := YE (fun k => !okB k) t
 constructor
 · intro ho
   rcases Nat.eq_zero_or_pos (yw (fun k => !okB k) t) with h0 | h0
   · exact h0
   · obtain ⟨x, hx, hp⟩ := h.2 h0
     have := (J4 x.2.1).2 (ho x hx)
     simp [this] at hp
 · intro h0 x hx
   have hp : okB x.2.1 = true := by
    cases hb : okB x.2.1 with
    | true => rfl
    | false =>
      have := h.1 ⟨x, hx, by simp [hb]⟩
      omega
   exact (J4 _).1 hp
theorem Fx.ok {op id : Int} {tx : ByteArray} {x t y : Tr} (h : Fx op id tx x t y) (ht : okF (spF 1 (zm t))) (hx : okF (spF 1 (zm x))) (htx : (tx.size : Int) ≤ 9223372036854775807) : okF (spF 1 (zm y)) := by
 have ht0 := (JS t).1 ht
 have hx0 := (JS x).1 hx
 rw [JS]
 cases h with
 | ins ho h => rw [h _]; omega
 | del ho q v hq hv h => have := h (fun k => !okB k); omega
 | mov ho h => rw [h _]; exact ht0
 | wri ho q u hq hu h =>
   have h1 := h (fun k => !okB k)
   obtain ⟨z, hz, e⟩ := zcI hu
   have h2 := (ht z hz).2
   have h3 : okB (u.id, u.kind, tx) = true := (J4 _).2 ⟨htx, by rw [← e]; exact h2⟩
   have h4 : vQ (fun k => !okB k) (u.id, u.kind, tx) = 0 := by simp [vQ, h3]
   omega
theorem zb7 (op id par at_ : Int) (tx : ByteArray) (x t : Tr) : ze (yS op id par at_ tx x t).1.kids ≤ ze t.kids + ze x.kids + 1 := by
 unfold yS
 split
 · exact JK par at_ x t
 · split
   · have := Zv id t; omega
   · split
     · have := zbt id par at_ t; omega
     · split
       · have := Yp id tx t; omega
       · simp [zA, ze]
theorem JJ : ∀ f : Fo, idF f = kV f
 | .nil => rfl
 | .node b o k l r => by rw [jD, idF, JJ l, JJ r]
def doK (g : Gr) (r : Tr × Int) : Tr × Int := if r.2 = 0 then (if (jC g r.1).2 = 0 then (r.1, 0) else (zA, (jC g r.1).2)) else (zA, r.2)
theorem zfW (w : World) (S Sx : Nat → Prop) (gv nv : Value) (g : Gr) (t x : Tr) (op id par at_ : Int) (tx : ByteArray) (sa : Option Addr) (sn sc : Nat) (hg : GrV w gv g) (hf : g.few) (hS : ∀ y, S y → y < w.heap.size) (hSx : ∀ y, Sx y → y < w.heap.size) (ht : zL w S nv t) (hx : zL w Sx (.agg #[.int .i64 x.id, .int .i64 x.kind, .string x.text, .slice sa sn sc]) x) (hsz : ze t.kids + 1 ≤ 2000) (hxz : ze x.kids + 1 ≤ 2000) (hop : (Lit.int .i8 op).wf = true) (hok : okF (spF 1 (zm t))) (hxk : okF (spF 1 (zm x))) (htx : (tx.size : Int) ≤ 9223372036854775807) (hO : ZW op) :
 Calls Tryz.prog 41 #[gv, nv, .agg #[.int .i8 op, .int .i64 id, .int .i64 par, .int .i64 at_, .string tx, .int .i64 x.id, .int .i64 x.kind, .string x.text, .slice sa sn sc]] w (qz w (fun y => S y ∨ Sx y) (doK g (yS op id par at_ tx x t))) := by
 obtain ⟨ga, gc, rfl, hgk⟩ := hg
 obtain ⟨gn, hgn⟩ : ∃ gn, gn = g.kinds.length := ⟨_, rfl⟩
 obtain ⟨ka, tc, rfl, hcap, hk⟩ := ht
 obtain ⟨nk, hnk⟩ : ∃ nk, nk = zb t.kids := ⟨_, rfl⟩
 rw [← hnk, ← hgn]
 obtain ⟨B, hB⟩ : ∃ B, B = zo w [.cells #[.slice ga gn gc, .int .i64 g.root] 34, .cells #[.int .i64 t.id, .int .i64 t.kind, .string t.text, .slice ka nk tc] 37, .cells #[.int .i8 op, .int .i64 id, .int .i64 par, .int .i64 at_, .string tx, .int .i64 x.id, .int .i64 x.kind, .string x.text, .slice sa sn sc] 49, .cells #[.int .i64 0, .int .i64 0, .string ⟨#[]⟩, .slice none 0 0] 37] := ⟨_, rfl⟩
 have hb : Below w.heap.size w B := by rw [hB]; exact zk _ _
 have hs : B.heap.size = w.heap.size + 4 := by rw [hB]; exact zx _ _
 have hgb0 : B.heap[w.heap.size]? = some (.cells #[.slice ga gn gc, .int .i64 g.root] 34 (0, 0)) := by rw [hB]; exact zg _ _ 0 _ rfl
 have ht0 : B.heap[w.heap.size + 1]? = some (.cells #[.int .i64 t.id, .int .i64 t.kind, .string t.text, .slice ka nk tc] 37 (0, 0)) := by rw [hB]; exact zg _ _ 1 _ rfl
 have hs0 : B.heap[w.heap.size + 1 + 1]? = some (.cells #[.int .i8 op, .int .i64 id, .int .i64 par, .int .i64 at_, .string tx, .int .i64 x.id, .int .i64 x.kind, .string x.text, .slice sa sn sc] 49 (0, 0)) := by rw [hB]; exact zg _ _ 2 _ rfl
 have hr0 : B.heap[w.heap.size + 1 + 1 + 1]? = some (.cells #[.int .i64 0, .int .i64 0, .string ⟨#[]⟩, .slice none 0 0] 37 (0, 0)) := by rw [hB]; exact zg _ _ 3 _ rfl
 have hcell : ∀ X, Below B.heap.size B X → (X.cell? ⟨w.heap.size, 0, none⟩ = some (.slice ga gn gc) ∧ X.cell? ⟨w.heap.size, 1, none⟩ = some (.int .i64 g.root)) ∧ (X.cell? ⟨w.heap.size + 1, 0, none⟩ = some (.int .i64 t.id) ∧ X.cell? ⟨w.heap.size + 1, 1, none⟩ = some (.int .i64 t.kind) ∧ X.cell? ⟨w.heap.size + 1, 2, none⟩ = some (.string t.text) ∧ X.cell? ⟨w.heap.size + 1, 3, none⟩ = some (.slice ka nk tc)) ∧ X.cell? ⟨w.heap.size + 1 + 1, 0, none⟩ = some (.int .i8 op) ∧ X.cell? ⟨w.heap.size + 1 + 1, 1, none⟩ = some (.int .i64 id) ∧ X.cell? ⟨w.heap.size + 1 + 1, 2, none⟩ = some (.int .i64 par) ∧ X.cell? ⟨w.heap.size + 1 + 1, 3, none⟩ = some (.int .i64 at_) ∧ X.cell? ⟨w.heap.size + 1 + 1, 4, none⟩ = some (.string tx) ∧ X.cell? ⟨w.heap.size + 1 + 1, 5, none⟩ = some (.int .i64 x.id) ∧ X.cell? ⟨w.heap.size + 1 + 1, 6, none⟩ = some (.int .i64 x.kind) ∧ X.cell? ⟨w.heap.size + 1 + 1, 7, none⟩ = some (.string x.text) ∧ X.cell? ⟨w.heap.size + 1 + 1, 8, none⟩ = some (.slice sa sn sc) := fun X hX => by
  have eg := (hX.block _ (lt_of_heap hgb0)).trans hgb0
  have e0 := (hX.block _ (lt_of_heap ht0)).trans ht0
  have e1 := (hX.block _ (lt_of_heap hs0)).trans hs0
  exact ⟨⟨by rw [cell_of_row _ _ 0 _ _ _ eg]; rfl, by rw [cell_of_row _ _ 1 _ _ _ eg]; rfl⟩, zJ e0, by rw [cell_of_row _ _ 0 _ _ _ e1]; rfl, by rw [cell_of_row _ _ 1 _ _ _ e1]; rfl, by rw [cell_of_row _ _ 2 _ _ _ e1]; rfl, by rw [cell_of_row _ _ 3 _ _ _ e1]; rfl, by rw [cell_of_row _ _ 4 _ _ _ e1]; rfl, by rw [cell_of_row _ _ 5 _ _ _ e1]; rfl, by rw [cell_of_row _ _ 6 _ _ _ e1]; rfl, by rw [cell_of_row _ _ 7 _ _ _ e1]; rfl, by rw [cell_of_row _ _ 8 _ _ _ e1]; rfl⟩
 have hidk : ∀ {u : Tr}, okF (spF 1 (zm u)) → ∀ i ∈ idT u, (Lit.int .i64 i).wf = true := fun {u} hu i hi => by
  have hz : yw (QJ i) u ≠ 0 := by
   rw [zci]
   intro h0
   have h1 := (Yv i (zm u)).1
   rw [zae] at h1
   have h2 : i ∈ kV (zm u) := by
    rw [zm, jD]
    rw [idT] at hi
    rcases List.mem_cons.1 hi with rfl | hi
    · exact List.mem_cons_self ..
    · have e : idF u.kids = kV u.kids := JJ u.kids
      rw [e] at hi
      exact List.mem_cons_of_mem _ (List.mem_append_left _ hi)
   have := h1 h2
   omega
  obtain ⟨y, hy, hp⟩ := (YE (QJ i) u).2 (by omega)
  have h3 := (hu y hy).2
  simp only [QJ, decide_eq_true_eq] at hp
  rw [← hp]; exact h3
 have hap := kD B S Sx (.agg #[.int .i64 t.id, .int .i64 t.kind, .string t.text, .slice ka nk tc]) t x op id par at_ tx sa sn sc (fun y hy => nL (hS y hy) hb.size) (fun y hy => nL (hSx y hy) hb.size) ⟨ka, tc, by rw [hnk], by rw [hnk] at *; exact hcap, hk.below hb hS⟩ (hx.kept fun y hy => ⟨hy, hb.block y (hSx y hy)⟩) hsz hxz hop (hidk hok) (hidk hxk) hO
 have hgr : ∀ X, Below w.heap.size w X → GrV X (.agg #[.slice ga gn gc, .int .i64 g.root]) g := fun X hX => ⟨ga, gc, by rw [hgn], hgk.below hX⟩
 obtain ⟨r, hr⟩ : ∃ r, r = yS op id par at_ tx x t := ⟨_, rfl⟩
 have hrs := zb7 op id par at_ tx x t
 have hfx : r.2 = 0 → okF (spF 1 (zm r.1)) := fun h0 => (Zl (op := op) (id := id) (par := par) (at_ := at_) (tx := tx) (x := x) (t := t) (y := r.1) (by rw [← hr]; exact Prod.ext rfl h0)).1.ok hok hxk htx
 rw [← hr] at hap hrs ⊢
 obtain ⟨d, hd⟩ : ∃ d, d = doK g r := ⟨_, rfl⟩
 rw [← hd]
 obtain ⟨y, hy⟩ : ∃ y, y = zY r := ⟨_, rfl⟩
 obtain ⟨yn, hyn⟩ : ∃ yn, yn = zb y.kids := ⟨_, rfl⟩
 obtain ⟨ye, hye⟩ : ∃ ye, ye = r.2 := ⟨_, rfl⟩
 have HAP := hH hap
 have HGR := hH (aN hgr hf)
 have HR := hH (aN hrs (aN hfx (aN hsz hxz)))
 have HY := hH (aN hy (aN hyn (aN hye hd)))
 have HCE := hH hcell
 have HB := hH (aN hb (aN hs hr0))
 have HBE := hH hB
 have HSS := hH (aN hS hSx)
 obtain ⟨⟨g0, g1⟩, ⟨n0, n1, n2, n3⟩, m0, m1, m2, m3, m4, m5, m6, m7, m8⟩ := hcell B (Below.refl _ _)
 rw [hB] at g0 g1 n0 n1 n2 n3 m0 m1 m2 m3 m4 m5 m6 m7 m8
 clear hO hap hgr hf hrs hfx hcell hb hs hgb0 ht0 hs0 hr0 hB hS hSx hk hcap hgk hgn hnk hsz hxz hop hok hxk htx hx hr hd hy hyn hye hidk
 go_enter Tryz.func41, Tryz.ntmps41
 go_wp2_with fail
 clear g0 g1 n0 n1 n2 n3 m0 m1 m2 m3 m4 m5 m6 m7 m8
 change Calls _ _ _ (zo w [.cells #[.slice ga gn gc, .int .i64 g.root] 34, .cells #[.int .i64 t.id, .int .i64 t.kind, .string t.text, .slice ka nk tc] 37, .cells #[.int .i8 op, .int .i64 id, .int .i64 par, .int .i64 at_, .string tx, .int .i64 x.id, .int .i64 x.kind, .string x.text, .slice sa sn sc] 49, .cells #[.int .i64 0, .int .i64 0, .string ⟨#[]⟩, .slice none 0 0] 37]) _
 rw [← HBE.out]
 refine HAP.out.mono ?_
 rintro e W5 ⟨_, rfl, ⟨yb, yc, rfl, hyc, hyk⟩, hb5⟩
 rw [← HY.out.1] at hyc hyk ⊢
 rw [← HY.out.2.1] at hyc ⊢
 rw [← HY.out.2.2.1]
 obtain ⟨W6, hW6⟩ : ∃ W6, W6 = W5.alloc (.cells #[.int .i64 y.id, .int .i64 y.kind, .string y.text, .slice yb yn yc] 37) := ⟨_, rfl⟩
 have hb56 : Below W5.heap.size W5 W6 := by rw [hW6]; exact zh _ _
 have hs6 : W6.heap.size = W5.heap.size + 1 := by rw [hW6]; simp
 have hy6 : W6.heap[W5.heap.size]? = some (.cells #[.int .i64 y.id, .int .i64 y.kind, .string y.text, .slice yb yn yc] 37 (0, 0)) := by rw [hW6]; exact heap_alloc_new _ _
 have HB6 := hH (hb5.trans (hb56.mono hb5.size))
 have HYA := hH (aN hyc (aN hyk (aN hb56 (aN hs6 hb5.size))))
 have HY6 := hH hy6
 have HW6 := hH hW6
 obtain ⟨xb, hxb⟩ : ∃ xb, xb = W5.heap.size := ⟨_, rfl⟩
 clear hyc hyk hb56 hy6 hW6 hb5 hs6
 go_upto_region 2 with fail
 change Code.wp _ _ _ _ (W5.alloc (.cells #[.int .i64 y.id, .int .i64 y.kind, .string y.text, .slice yb yn yc] 37))
 rw [← HW6.out, ← hxb]
 rw [← hxb] at HY6
 have HXBB := hH hxb
 clear HW6 hxb
 by_cases hz : ye = 0
 · have h0 : r.2 = 0 := by rw [← HY.out.2.2.1]; exact hz
   have hyr : y = r.1 := by rw [HY.out.1, zY, if_pos h0]
   have hyok := HR.out.2.1 h0
   have hysz := HR.out.1
   rw [← hyr] at hyok hysz
   have hbw6 : Below w.heap.size w W6 := HB.out.1.trans (HB6.out.mono HB.out.1.size)
   have htr := zdS W6 (fun z => z < W5.heap.size ∧ (zZ W5 z ∧ ((S z ∨ Sx z) ∨ B.heap.size ≤ z))) (.agg #[.slice ga gn gc, .int .i64 g.root]) (.agg #[.int .i64 y.id, .int .i64 y.kind, .string y.text, .slice yb yn yc]) g y (HGR.out.1 W6 hbw6) HGR.out.2 (fun z hz => nL hz.1 HYA.out.2.2.1.size) ⟨yb, yc, by rw [HY.out.2.1], by rw [← HY.out.2.1]; exact HYA.out.1, HYA.out.2.1.kept fun z hz => ⟨⟨hz.1.lt, hz⟩, HYA.out.2.2.1.block z hz.1.lt⟩⟩ (by have := HR.out.2.2; omega) hyok
   obtain ⟨c, hc⟩ : ∃ c, c = jC g y := ⟨_, rfl⟩
   rw [← hc] at htr
   obtain ⟨c1, hc1⟩ : ∃ c1, c1 = c.1 := ⟨_, rfl⟩
   obtain ⟨c2, hc2⟩ : ∃ c2, c2 = c.2 := ⟨_, rfl⟩
   unfold Jo at htr; rw [← hc1, ← hc2] at htr
   have HTR := hH htr
   have HCC := hH (aN hc hc2)
   have HRY := hH (aN hyr h0)
   subst hz
   obtain ⟨⟨g0, g1⟩, ⟨n0, n1, n2, n3⟩, m0, m1, m2, m3, m4, m5, m6, m7, m8⟩ := HCE.out W6 HB6.out
   obtain ⟨y0, y1, y2, y3⟩ := zJ HY6.out
   clear h0 hyr hyok hysz hbw6 htr hc hc1 hc2
   go_wp2_with fail
   refine HTR.out.mono ?_
   rintro e W7 ⟨rfl, hb7⟩
   have HB7 := hH (HB6.out.trans (hb7.mono HB6.out.size))
   have HL7 := hH hb7
   have hy7 := (hb7.block _ (lt_of_heap HY6.out)).trans HY6.out
   clear hb7 g0 g1 n0 n1 n2 n3 m0 m1 m2 m3 m4 m5 m6 m7 m8 y0 y1 y2 y3
   by_cases hcz : c2 = 0
   · have hd : d = (y, 0) := by rw [HY.out.2.2.2, doK, if_pos HRY.out.2, ← HRY.out.1, ← HCC.out.1, ← HCC.out.2, if_pos hcz]
     have HEQ := hH hd
     subst hcz
     obtain ⟨y0, y1, y2, y3⟩ := zJ hy7
     have hr3 := (HB7.out.block _ (lt_of_heap HB.out.2.2)).trans HB.out.2.2
     have hbz : Below w.heap.size w W7 := HB.out.1.trans (HB7.out.mono HB.out.1.size)
     obtain ⟨z0, z1, z2, z3⟩ := zJ hr3
     have zf : ∀ j, W7.frozen? ⟨w.heap.size + 1 + 1 + 1, j, none⟩ = false := fun j => frozen_of_row _ _ j _ _ hr3
     obtain ⟨V, hV, r1, r2, r3, r4, r5, r6⟩ := zu (u0 := .int .i64 y.id) (u1 := .int .i64 y.kind) (u2 := .string y.text) (u3 := .slice yb yn yc) hr3
     have hokV : zF V (fun z => zZ V z ∧ ((S z ∨ Sx z) ∨ w.heap.size ≤ z)) y.kids yb := HYA.out.2.1.kept fun z hz => by
      obtain ⟨⟨cs, ty, fr, hcz⟩, hz2⟩ := hz
      have h1 := HB.out.2.1
      have h2 := HYA.out.2.2.2.2
      have hlt := lt_of_heap hcz
      have hne : z ≠ w.heap.size + 1 + 1 + 1 := fun e => by
       rcases hz2 with (h | h) | h
       · have := HSS.out.1 z h; omega
       · have := HSS.out.2 z h; omega
       · omega
      have e1 : V.heap[z]? = W5.heap[z]? := (r2 z hne).trans ((HL7.out.block z (by have := HYA.out.2.2.2.1; omega)).trans (HYA.out.2.2.1.block z hlt))
      exact ⟨⟨⟨cs, ty, fr, e1.trans hcz⟩, hz2.imp (fun h => h) (fun h => by omega)⟩, e1⟩
     have HE := hH (aN hbz (aN hV (aN r1 (aN r2 (aN r3 (aN r4 (aN r5 (aN r6 hokV))))))))
     clear hd hy7 hbz hr3 hV r1 r2 r3 r4 r5 r6 hokV
     go_wp2_with fail
     rw [← HE.out.2.1]
     obtain ⟨hbz, hV, r1, r2, r3, r4, r5, r6, hokV⟩ := HE.out
     exact ym (p := 6) (u := 7) rfl rfl (g := w.heap.size + 1 + 1 + 1) (y := y) ⟨r3.trans hbz.os, r4.trans hbz.tape, r5.trans hbz.output, by rw [r6]; exact hbz.size, fun k hk => (r2 k (by omega)).trans (hbz.block k hk)⟩ r1 HY.out.2.1 (by rw [← HY.out.2.1]; exact HYA.out.1) hokV (by rw [HEQ.out, zY, if_pos rfl]) rfl (by rw [HEQ.out]; rfl)
   · have hzb : (c2 != 0) = true := by simpa using hcz
     have hd : d = (zA, c2) := by rw [HY.out.2.2.2, doK, if_pos HRY.out.2, ← HRY.out.1, ← HCC.out.1, ← HCC.out.2, if_neg hcz]
     have HEQ := hH hd
     have HNE := hH hcz
     clear hd hcz hy7
     have hr3 := (HB7.out.block _ (lt_of_heap HB.out.2.2)).trans HB.out.2.2
     have hbz : Below w.heap.size w W7 := HB.out.1.trans (HB7.out.mono HB.out.1.size)
     obtain ⟨z0, z1, z2, z3⟩ := zJ hr3
     have zf : ∀ j, W7.frozen? ⟨w.heap.size + 1 + 1 + 1, j, none⟩ = false := fun j => frozen_of_row _ _ j _ _ hr3
     obtain ⟨V, hV, r1, r2, r3, r4, r5, r6⟩ := zu (u0 := .int .i64 0) (u1 := .int .i64 0) (u2 := .string ⟨#[]⟩) (u3 := .slice none 0 0) hr3
     have HE := hH (aN hbz (aN hV (aN r1 (aN r2 (aN r3 (aN r4 (aN r5 r6)))))))
     clear hbz hr3 hV r1 r2 r3 r4 r5 r6
     go_wp2_with fail
     rw [← HE.out.2.1]
     obtain ⟨hbz, hV, r1, r2, r3, r4, r5, r6⟩ := HE.out
     exact ym (p := 6) (u := 7) rfl rfl (g := w.heap.size + 1 + 1 + 1) (y := zA) ⟨r3.trans hbz.os, r4.trans hbz.tape, r5.trans hbz.output, by rw [r6]; exact hbz.size, fun k hk => (r2 k (by omega)).trans (hbz.block k hk)⟩ r1 rfl (Nat.le_refl _) True.intro (by rw [HEQ.out, zY, if_neg HNE.out]) rfl (by rw [HEQ.out]; rfl)
 · have hzb : (ye != 0) = true := by simpa using hz
   have hd : d = (zA, ye) := by rw [HY.out.2.2.2, doK, if_neg (by rw [← HY.out.2.2.1]; exact hz), ← HY.out.2.2.1]
   have HEQ := hH hd
   have HNE := hH hz
   clear hd hz
   have hr3 := (HB6.out.block _ (lt_of_heap HB.out.2.2)).trans HB.out.2.2
   have hbz : Below w.heap.size w W6 := HB.out.1.trans (HB6.out.mono HB.out.1.size)
   obtain ⟨z0, z1, z2, z3⟩ := zJ hr3
   have zf : ∀ j, W6.frozen? ⟨w.heap.size + 1 + 1 + 1, j, none⟩ = false := fun j => frozen_of_row _ _ j _ _ hr3
   obtain ⟨V, hV, r1, r2, r3, r4, r5, r6⟩ := zu (u0 := .int .i64 0) (u1 := .int .i64 0) (u2 := .string ⟨#[]⟩) (u3 := .slice none 0 0) hr3
   have HE := hH (aN hbz (aN hV (aN r1 (aN r2 (aN r3 (aN r4 (aN r5 r6)))))))
   clear hbz hr3 hV r1 r2 r3 r4 r5 r6
   go_wp2_with fail
   rw [← HE.out.2.1]
   obtain ⟨hbz, hV, r1, r2, r3, r4, r5, r6⟩ := HE.out
   exact ym (p := 6) (u := 7) rfl rfl (g := w.heap.size + 1 + 1 + 1) (y := zA) ⟨r3.trans hbz.os, r4.trans hbz.tape, r5.trans hbz.output, by rw [r6]; exact hbz.size, fun k hk => (r2 k (by omega)).trans (hbz.block k hk)⟩ r1 rfl (Nat.le_refl _) True.intro (by rw [HEQ.out, zY, if_neg HNE.out]) rfl (by rw [HEQ.out]; rfl)
theorem Q3 {g : Gr} : ∀ (L : List Sp) (ids : List Int) (i : Nat), vP g ids i L = none → (L.map fun x => x.2.1.1).Nodup ∧ ∀ x ∈ L, x.2.1.1 ∉ ids
 | [], ids, i, _ => ⟨List.nodup_nil, fun x h => by cases h⟩
 | x :: r, ids, i, h => by
   rw [vP] at h
   split at h
   · cases h
   · rename_i ha
     obtain ⟨h1, h2⟩ := Q3 r _ _ h
     have hx : x.2.1.1 ∉ ids := fun hm => by
      apply ha
      have hany : ids.any (· == x.2.1.1) = true := List.any_eq_true.2 ⟨_, hm, by simp⟩
      unfold atB
      rw [show (zbs x).id = x.2.1.1 from rfl, hany]
      simp
     refine ⟨?_, fun y hy => ?_⟩
     · rw [List.map_cons, List.nodup_cons]
       refine ⟨fun hm => ?_, h1⟩
       obtain ⟨y, hy, e⟩ := List.mem_map.1 hm
       exact h2 y hy (by rw [e]; simp)
     · rcases List.mem_cons.1 hy with rfl | hy
       · exact hx
       · exact fun hm => h2 y hy (List.mem_append_left _ hm)
theorem zcF {g : Gr} {t : Tr} (h : (jC g t).2 = 0) : zgR t ∧ ze t.kids + 1 ≤ 200 := by
 unfold jC at h
 split at h
 · exact absurd h (by decide)
 · unfold QL at h
   split at h
   · split at h
     · exact absurd h (by decide)
     · rename_i hs
       unfold j4 at h
       split at h
       · exact absurd (show (70 : Int) = 0 from h) (by decide)
       · rename_i hb
         exact ⟨(Q3 _ _ _ hb).1, by omega⟩
   · exact absurd h (by decide)
def goT (g : Gr) (t : Tr) : List Sf → Option Tr
 | [] => some t
 | s :: l => if (doK g (s.on t)).2 = 0 then goT g (doK g (s.on t)).1 l else none
theorem Qz (g : Gr) : ∀ (a b : List Sf) (t : Tr), goT g t (a ++ b) = (goT g t a).bind fun x => goT g x b
 | [], b, t => rfl
 | s :: a, b, t => by
   rw [List.cons_append, goT, goT]
   split
   · exact Qz g a b _
   · rfl
theorem zel {g : Gr} {t x : Tr} {l : List Sf} {s : Sf} (h : goT g t l = some x) (hs : (doK g (s.on x)).2 = 0) : goT g t (l ++ [s]) = some (doK g (s.on x)).1 := by
 rw [Qz, h]
 show goT g x [s] = _
 rw [goT, if_pos hs]; rfl
def qh (g : Gr) : Tr → List Sf → Tr × Nat × Int
 | t, [] => (t, 0, 0)
 | t, s :: l => if (doK g (s.on t)).2 = 0 then ((qh g (doK g (s.on t)).1 l).1, (qh g (doK g (s.on t)).1 l).2.1 + 1, (qh g (doK g (s.on t)).1 l).2.2) else (t, 0, (doK g (s.on t)).2)
theorem QQ {g : Gr} : ∀ {l : List Sf} {t x : Tr}, goT g t l = some x → qh g t l = (x, l.length, 0)
 | [], t, x, h => by cases h; rfl
 | s :: l, t, x, h => by
   rw [goT] at h
   split at h
   · rename_i h0
     rw [qh, if_pos h0, QQ h]; rfl
   · cases h
theorem Qk {g : Gr} : ∀ {l : List Sf} {k : Nat} {t x : Tr} {s : Sf} {n : Int}, goT g t (l.take k) = some x → l[k]? = some s → (doK g (s.on x)).2 = n → n ≠ 0 → qh g t l = (x, k, n)
 | [], k, t, x, s, n, _, hs, _, _ => by simp at hs
 | r :: l, 0, t, x, s, n, h, hs, hn, h0 => by
   simp at hs; subst hs
   rw [List.take_zero] at h; cases h
   rw [qh, if_neg (by rw [hn]; exact h0), hn]
 | r :: l, k + 1, t, x, s, n, h, hs, hn, h0 => by
   rw [List.take_succ_cons, goT] at h
   split at h
   · rename_i hr
     rw [qh, if_pos hr, Qk h (by simpa using hs) hn h0]
   · cases h
theorem zaK {g : Gr} : ∀ {l : List Sf} {t : Tr}, (qh g t l).2.2 = 0 → goT g t l = some (qh g t l).1 ∧ (qh g t l).2.1 = l.length
 | [], t, _ => ⟨rfl, rfl⟩
 | s :: l, t, h => by
   rw [qh] at h ⊢
   rw [goT]
   split at h
   · rename_i h0
     rw [if_pos h0, if_pos h0]
     have := zaK (g := g) (l := l) h
     exact ⟨this.1, by simp [this.2]⟩
   · rename_i h0; exact absurd h h0
def q9 (s : Sf) : Nat := if s.op = 1 then ze s.sub.kids + 1 else 0
def zV : List Sf → Nat
 | [] => 0
 | s :: l => q9 s + zV l
theorem vZ : ∀ a b : List Sf, zV (a ++ b) = zV a + zV b
 | [], b => by simp [zV]
 | s :: a, b => by rw [List.cons_append, zV, zV, vZ a b]; omega
def qd (l : List Sf) : Bool := decide (l.length ≤ 60) && decide (zV l ≤ 200)
theorem qB (l : List Sf) : qd l = true ↔ l.length ≤ 60 ∧ zV l ≤ 200 := by simp [qd]
def apK (g : Gr) (t : Tr) (l : List Sf) : Tr × Nat × Int := if qd l = true then (if (qh g t l).2.2 = 0 then (qh g t l).1 else t, (qh g t l).2.1, (qh g t l).2.2) else (zA, 0, 3)
structure Way (t : Tr) : Prop where
 size : ze t.kids + 1 ≤ 250
 ok : okF (spF 1 (zm t))
structure yA (s : Sf) : Prop where
 op : (Lit.int .i8 s.op).wf = true
 size : ze s.sub.kids + 1 ≤ 250
 ok : okF (spF 1 (zm s.sub))
 tx : (s.tx.size : Int) ≤ 9223372036854775807
theorem zdE {g : Gr} {t : Tr} {s : Sf} (hs : yA s) (h : Way t) (h0 : (doK g (s.on t)).2 = 0) : Way (doK g (s.on t)).1 := by
 unfold doK at h0 ⊢
 split at h0
 · rename_i h1
   split at h0
   · rename_i h2
     rw [if_pos h1, if_pos h2]
     have hx := Zl (op := s.op) (id := s.id) (par := s.par) (at_ := s.at_) (tx := s.tx) (x := s.sub) (t := t) (y := (s.on t).1) (by unfold Sf.on; exact Prod.ext rfl h1)
     exact ⟨by have := (zcF h2).2; show ze (s.on t).1.kids + 1 ≤ 250; omega, hx.1.ok h.ok hs.ok hs.tx⟩
   · rename_i h2; exact absurd h0 h2
 · rename_i h1; exact absurd h0 h1
theorem zeX {g : Gr} : ∀ {l : List Sf} {t x : Tr}, (∀ s ∈ l, yA s) → Way t → goT g t l = some x → Way x
 | [], t, x, _, h, e => by cases e; exact h
 | s :: l, t, x, hl, h, e => by
   rw [goT] at e
   split at e
   · rename_i h0
     exact zeX (fun r hr => hl r (List.mem_cons_of_mem _ hr)) (zdE (hl s (List.mem_cons_self ..)) h h0) e
   · cases e
theorem zfy (w : World) (S Sx : Nat → Prop) (ga : Option Addr) (gc GB : Nat) (nv : Value) (g : Gr) (t x : Tr) (op id par at_ : Int) (tx : ByteArray) (sa : Option Addr) (sn sc : Nat) (hgb : w.heap[GB]? = some (.cells #[.slice ga g.kinds.length gc, .int .i64 g.root] 34 (0, 0))) (hg : ∀ X, Below w.heap.size w X → GrV X (.agg #[.slice ga g.kinds.length gc, .int .i64 g.root]) g) (hf : g.few) (hS : ∀ y, S y → y < w.heap.size) (hSx : ∀ y, Sx y → y < w.heap.size) (ht : zL w S nv t) (hx : zL w Sx (.agg #[.int .i64 x.id, .int .i64 x.kind, .string x.text, .slice sa sn sc]) x) (hsz : ze t.kids + 1 ≤ 2000) (hxz : ze x.kids + 1 ≤ 2000) (hop : (Lit.int .i8 op).wf = true) (hok : okF (spF 1 (zm t))) (hxk : okF (spF 1 (zm x))) (htx : (tx.size : Int) ≤ 9223372036854775807) (hO : ZW op) :
 Calls Tryz.prog 40 #[nv, .agg #[.int .i8 op, .int .i64 id, .int .i64 par, .int .i64 at_, .string tx, .int .i64 x.id, .int .i64 x.kind, .string x.text, .slice sa sn sc], .pointer (some ⟨GB, 0, none⟩)] w (qz w (fun y => S y ∨ Sx y) (doK g (yS op id par at_ tx x t))) := by
 obtain ⟨gn, hgn⟩ : ∃ gn, gn = g.kinds.length := ⟨_, rfl⟩
 obtain ⟨ka, tc, rfl, hcap, hk⟩ := ht
 obtain ⟨nk, hnk⟩ : ∃ nk, nk = zb t.kids := ⟨_, rfl⟩
 rw [← hnk]
 rw [← hgn] at hgb hg
 obtain ⟨B, hB⟩ : ∃ B, B = zo w [.cells #[.int .i64 t.id, .int .i64 t.kind, .string t.text, .slice ka nk tc] 37, .cells #[.int .i8 op, .int .i64 id, .int .i64 par, .int .i64 at_, .string tx, .int .i64 x.id, .int .i64 x.kind, .string x.text, .slice sa sn sc] 49, .cells #[.int .i64 0, .int .i64 0, .string ⟨#[]⟩, .slice none 0 0] 37] := ⟨_, rfl⟩
 have hb : Below w.heap.size w B := by rw [hB]; exact zk _ _
 have hs : B.heap.size = w.heap.size + 3 := by rw [hB]; exact zx _ _
 have ht0 : B.heap[w.heap.size]? = some (.cells #[.int .i64 t.id, .int .i64 t.kind, .string t.text, .slice ka nk tc] 37 (0, 0)) := by rw [hB]; exact zg _ _ 0 _ rfl
 have hs0 : B.heap[w.heap.size + 1]? = some (.cells #[.int .i8 op, .int .i64 id, .int .i64 par, .int .i64 at_, .string tx, .int .i64 x.id, .int .i64 x.kind, .string x.text, .slice sa sn sc] 49 (0, 0)) := by rw [hB]; exact zg _ _ 1 _ rfl
 have hr0 : B.heap[w.heap.size + 1 + 1]? = some (.cells #[.int .i64 0, .int .i64 0, .string ⟨#[]⟩, .slice none 0 0] 37 (0, 0)) := by rw [hB]; exact zg _ _ 2 _ rfl
 have hgB := (hb.block _ (lt_of_heap hgb)).trans hgb
 have hdo := zfW B S Sx (.agg #[.slice ga gn gc, .int .i64 g.root]) (.agg #[.int .i64 t.id, .int .i64 t.kind, .string t.text, .slice ka nk tc]) g t x op id par at_ tx sa sn sc (hg B hb) hf (fun y hy => nL (hS y hy) hb.size) (fun y hy => nL (hSx y hy) hb.size) ⟨ka, tc, by rw [hnk], hcap, hk.below hb hS⟩ (hx.kept fun y hy => ⟨hy, hb.block y (hSx y hy)⟩) hsz hxz hop hok hxk htx hO
 obtain ⟨r, hr⟩ : ∃ r, r = doK g (yS op id par at_ tx x t) := ⟨_, rfl⟩
 rw [← hr] at hdo ⊢
 obtain ⟨y, hy⟩ : ∃ y, y = zY r := ⟨_, rfl⟩
 obtain ⟨yn, hyn⟩ : ∃ yn, yn = zb y.kids := ⟨_, rfl⟩
 obtain ⟨ye, hye⟩ : ∃ ye, ye = r.2 := ⟨_, rfl⟩
 have HDO := hH hdo
 have HY := hH (aN hy (aN hyn hye))
 have HB := hH (aN hb (aN hs hr0))
 have HBE := hH hB
 have HSS := hH (aN hS hSx)
 obtain ⟨g0, g1⟩ : B.cell? ⟨GB, 0, none⟩ = some (.slice ga gn gc) ∧ B.cell? ⟨GB, 1, none⟩ = some (.int .i64 g.root) := ⟨by rw [cell_of_row _ _ 0 _ _ _ hgB]; rfl, by rw [cell_of_row _ _ 1 _ _ _ hgB]; rfl⟩
 obtain ⟨n0, n1, n2, n3⟩ := zJ ht0
 obtain ⟨m0, m1, m2, m3, m4, m5, m6, m7, m8⟩ := yP hs0
 clear hO hdo hb hs ht0 hs0 hr0 hB hS hSx hk hcap hgn hnk hsz hxz hop hok hxk htx hx hr hy hyn hye hgb hg hf hgB
 go_enter Tryz.func40, Tryz.ntmps40
 go_upto_region 1 with fail
 change Code.wp _ _ _ _ (zo w [.cells #[.int .i64 t.id, .int .i64 t.kind, .string t.text, .slice ka nk tc] 37, .cells #[.int .i8 op, .int .i64 id, .int .i64 par, .int .i64 at_, .string tx, .int .i64 x.id, .int .i64 x.kind, .string x.text, .slice sa sn sc] 49, .cells #[.int .i64 0, .int .i64 0, .string ⟨#[]⟩, .slice none 0 0] 37])
 rw [← HBE.out]
 go_wp2_with fail
 clear g0 g1 n0 n1 n2 n3 m0 m1 m2 m3 m4 m5 m6 m7 m8
 refine HDO.out.mono ?_
 rintro e W5 ⟨_, rfl, ⟨yb, yc, rfl, hyc, hyk⟩, hb5⟩
 rw [← HY.out.1] at hyc hyk ⊢
 rw [← HY.out.2.1] at hyc ⊢
 rw [← HY.out.2.2]
 have hr5 := (hb5.block _ (lt_of_heap HB.out.2.2)).trans HB.out.2.2
 have hbz : Below w.heap.size w W5 := HB.out.1.trans (hb5.mono HB.out.1.size)
 obtain ⟨z0, z1, z2, z3⟩ := zJ hr5
 have zf : ∀ j, W5.frozen? ⟨w.heap.size + 1 + 1, j, none⟩ = false := fun j => frozen_of_row _ _ j _ _ hr5
 obtain ⟨V, hV, r1, r2, r3, r4, r5, r6⟩ := zu (u0 := .int .i64 y.id) (u1 := .int .i64 y.kind) (u2 := .string y.text) (u3 := .slice yb yn yc) hr5
 have hokV : zF V (fun z => zZ V z ∧ ((S z ∨ Sx z) ∨ w.heap.size ≤ z)) y.kids yb := hyk.kept fun z hz => by
  obtain ⟨⟨cs, ty, fr, hcz⟩, hz2⟩ := hz
  have h1 := HB.out.2.1
  have hlt := lt_of_heap hcz
  have hne : z ≠ w.heap.size + 1 + 1 := fun e => by
   rcases hz2 with (h | h) | h
   · have := HSS.out.1 z h; omega
   · have := HSS.out.2 z h; omega
   · omega
  have e1 : V.heap[z]? = W5.heap[z]? := r2 z hne
  exact ⟨⟨⟨cs, ty, fr, e1.trans hcz⟩, hz2.imp (fun h => h) (fun h => by omega)⟩, e1⟩
 have HE := hH (aN hbz (aN hV (aN r1 (aN r2 (aN r3 (aN r4 (aN r5 (aN r6 (aN hokV hyc)))))))))
 clear hbz hr5 hV r1 r2 r3 r4 r5 r6 hokV hyc hyk hb5
 go_wp2_with fail
 rw [← HE.out.2.1]
 obtain ⟨hbz, hV, r1, r2, r3, r4, r5, r6, hokV, hyc⟩ := HE.out
 exact ym (p := 5) (u := 6) rfl rfl (g := w.heap.size + 1 + 1) (y := y) ⟨r3.trans hbz.os, r4.trans hbz.tape, r5.trans hbz.output, by rw [r6]; exact hbz.size, fun k hk => (r2 k (by omega)).trans (hbz.block k hk)⟩ r1 HY.out.2.1 (by rw [← HY.out.2.1]; exact hyc) hokV HY.out.1.symm rfl (by rw [← HY.out.2.2]; rfl)
theorem doN {E : Nat → Prop} {X0 X : World} {g : Gr} {t : Tr} {x : SV} {ga ta : Option Addr} {gc GB tn tc : Nat} (hE : ∀ q, E q → q < X.heap.size) (hgb : X.heap[GB]? = some (.cells #[.slice ga g.kinds.length gc, .int .i64 g.root] 34 (0, 0))) (hg : ∀ Y, Below X.heap.size X Y → GrV Y (.agg #[.slice ga g.kinds.length gc, .int .i64 g.root]) g) (hf : g.few) (h0 : zK X E t.kids ta tc) (h1 : zK X0 E x.s.sub.kids x.a x.c) (b1 : Below X0.heap.size X0 X) (hw : Way t) (hs : yA x.s) (htn : tn = zb t.kids) (hO : ZW x.s.op) :
 Calls Tryz.prog 40 #[.agg #[.int .i64 t.id, .int .i64 t.kind, .string t.text, .slice ta tn tc], x.v, .pointer (some ⟨GB, 0, none⟩)] X (zfN E (zY (doK g (x.s.on t))) (doK g (x.s.on t)).2 X) := by
 subst htn
 refine (zfy X _ _ ga gc GB _ g t x.s.sub x.s.op x.s.id x.s.par x.s.at_ x.s.tx x.a (zb x.s.sub.kids) x.c hgb hg hf (fun y hy => hy.1) (fun y hy => nL hy.1 b1.size) (h0.at (Below.refl _ _)) ⟨x.a, x.c, rfl, h1.1, h1.2.kept fun q hq => ⟨hq, b1.block q hq.1⟩⟩ (by have := hw.size; omega) (by have := hs.size; omega) hs.op hw.ok hs.ok hs.tx hO).mono ?_
 rintro e W ⟨v, rfl, ⟨va, vc, rfl, hc, hf⟩, hb⟩
 refine ⟨va, vc, rfl, ⟨hc, hf.kept fun q hq => ⟨⟨hq.1.lt, fun he => ?_⟩, rfl⟩⟩, hb⟩
 rcases hq.2 with (h | h) | h
 · exact h.2 he
 · exact h.2 he
 · have := hE q he; omega
end Go.Proofs.YtonapijgfalpaaaGreat
