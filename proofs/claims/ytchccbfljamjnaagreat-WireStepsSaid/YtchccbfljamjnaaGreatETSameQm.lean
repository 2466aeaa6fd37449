/-
  .
-/
import Derived.Test.YtchccbfljamjnaaGreatELoneQm
import Derived.BigQuiet
import Derived.Test.YtchccbfljamjnaaGreatERowQm
import Derived.Test.YtchccbfljamjnaaGreatJPgQm
set_option maxRecDepth 100000
set_option maxHeartbeats 40000000
set_option linter.unusedVariables false
set_option linter.unusedSimpArgs false
namespace Go.Proofs.YtchccbfljamjnaaGreat
open Go.RowKit Go.Shelf
def zbm (w : World) (l m : List Sp) (i : Value) (wr : World) : Prop := ∃ k : Nat, k ≤ l.length ∧ i = .int .i64 (k : Int) ∧ Hid (Below w.heap.size w wr) ∧ Hid (eqL l m = eqL (l.drop k) (m.drop k))
theorem vQ {w : World} {B : Nat} {a : Option Addr} {c n : Nat} {l : List Sp} (h : w.ownsRow B 182 4 (.slice a n c) n (l.flatMap zV)) (hn : 0 < n) {k : Nat} {x : Sp} (hx : l[k]? = some x) : ∃ g, a = some ⟨g, 0, none⟩ ∧ g < w.heap.size ∧ w.cell? ⟨g, k * 4, none⟩ = some (.int .i64 x.2.1.1) ∧ w.cell? ⟨g, k * 4 + 1, none⟩ = some (.int .i64 x.2.1.2.1) ∧ w.cell? ⟨g, k * 4 + 2, none⟩ = some (.int .i64 (foLen x.2.2 : Int)) ∧ w.cell? ⟨g, k * 4 + 3, none⟩ = some (.string x.2.1.2.2) := by
 have hgg : ∃ g, a = some ⟨g, 0, none⟩ := by
  rcases h.2 with ⟨_, h0⟩ | ⟨g, cap2, cur, hv, _⟩
  · omega
  · cases hv; exact ⟨g, rfl⟩
 obtain ⟨g, rfl⟩ := hgg
 obtain ⟨l0, l1, l2, l3⟩ := jP l k x hx
 exact ⟨g, rfl, (zA h rfl).2, zK h rfl _ _ l0, zK h rfl _ _ l1, zK h rfl _ _ l2, zK h rfl _ _ l3⟩
theorem zae : ∀ (l m : List Sp) (k : Nat), l.length = m.length → l.length ≤ k → eqL (l.drop k) (m.drop k) = true := fun l m k h hk => by
 rw [List.drop_of_length_le hk, List.drop_of_length_le (by omega)]; rfl
theorem ZL (w : World) (B1 B2 : Nat) (v1 v2 : Value) (l m : List Sp) (h1 : w.ownsRow B1 182 4 v1 l.length (l.flatMap zV)) (h2 : w.ownsRow B2 182 4 v2 m.length (m.flatMap zV)) (hl : l.length ≤ 1000000) (hm : m.length ≤ 1000000) :
 Calls Tryz.prog 134 #[v1, v2] w fun e w' => e = .returned (.bool (eqL l m)) ∧ Below w.heap.size w w' := by
 obtain ⟨a1, c1, rfl⟩ := zO h1
 obtain ⟨a2, c2, rfl⟩ := zO h2
 by_cases hd : l.length = m.length
 · obtain ⟨n, hn⟩ : ∃ n, n = l.length := ⟨_, rfl⟩
   have hn2 : n = m.length := by omega
   rw [← hn2] at h2 ⊢
   rw [← hn] at h1 ⊢
   have HK := hH (aN h1 h2)
   have HN := hH (aN hn hn2)
   have hn6 : n ≤ 1000000 := by omega
   clear h1 h2 hd hn hn2 hl hm
   go_enter Tryz.func134, Tryz.ntmps134
   go_wp2_with fail
   go_loopw [5, 13] (fun _ i wr => zbm w l m i wr) (fun _ i _ => n - (intOf i).toNat)
   case atStart => exact ⟨0, Nat.zero_le _, rfl, hH (Below.refl _ _), hH rfl⟩
   case round =>
    obtain ⟨k, hkl, rfl, HB, HA⟩ := hrel
    rw [← HN.out.1] at hkl
    by_cases hlt : k < n
    · obtain ⟨x, hx⟩ : ∃ x, l[k]? = some x := ⟨l[k]'(by rw [← HN.out.1]; exact hlt), List.getElem?_eq_getElem _⟩
      obtain ⟨y, hy⟩ : ∃ y, m[k]? = some y := ⟨m[k]'(by rw [← HN.out.2]; exact hlt), List.getElem?_eq_getElem _⟩
      obtain ⟨g1, rfl, hg1, x0e, x1e, x2e, x3e⟩ := vQ HK.out.1 (by omega) hx
      obtain ⟨g2, rfl, hg2, y0e, y1e, y2e, y3e⟩ := vQ HK.out.2 (by omega) hy
      have hdr := ZJ k l m x y hx hy
      obtain ⟨bb, hbb⟩ : ∃ bb, bb = vZ x y := ⟨_, rfl⟩
      rw [← hbb] at hdr
      have HDR := hH hdr
      obtain ⟨x0, hx0⟩ : ∃ z, z = x.2.1.1 := ⟨_, rfl⟩
      obtain ⟨x1, hx1⟩ : ∃ z, z = x.2.1.2.1 := ⟨_, rfl⟩
      obtain ⟨x2, hx2⟩ : ∃ z : Int, z = (foLen x.2.2 : Int) := ⟨_, rfl⟩
      obtain ⟨x3, hx3⟩ : ∃ z, z = x.2.1.2.2 := ⟨_, rfl⟩
      obtain ⟨y0, hy0⟩ : ∃ z, z = y.2.1.1 := ⟨_, rfl⟩
      obtain ⟨y1, hy1⟩ : ∃ z, z = y.2.1.2.1 := ⟨_, rfl⟩
      obtain ⟨y2, hy2⟩ : ∃ z : Int, z = (foLen y.2.2 : Int) := ⟨_, rfl⟩
      obtain ⟨y3, hy3⟩ : ∃ z, z = y.2.1.2.2 := ⟨_, rfl⟩
      rw [← hx0] at x0e
      rw [← hx1] at x1e
      rw [← hx2] at x2e
      rw [← hx3] at x3e
      rw [← hy0] at y0e
      rw [← hy1] at y1e
      rw [← hy2] at y2e
      rw [← hy3] at y3e
      have HBB : Hid ((decide (x0 = y0) && (decide (x1 = y1) && (decide (x2 = y2) && decide (x3.toList = y3.toList)))) = bb) := hH (by
       rw [hbb, vZ, hx0, hx1, hx2, hx3, hy0, hy1, hy2, hy3]
       congr 3
       by_cases hf : foLen x.2.2 = foLen y.2.2
       · simp [hf]
       · rw [decide_eq_false hf, decide_eq_false (by omega)])
      have HCL := hH (fun (X : World) (hX : Below wr.heap.size wr X) => (show X.cell? ⟨g1, k * 4, none⟩ = some (.int .i64 x0) ∧ X.cell? ⟨g1, k * 4 + 1, none⟩ = some (.int .i64 x1) ∧ X.cell? ⟨g1, k * 4 + 2, none⟩ = some (.int .i64 x2) ∧ X.cell? ⟨g1, k * 4 + 3, none⟩ = some (.string x3) ∧ X.cell? ⟨g2, k * 4, none⟩ = some (.int .i64 y0) ∧ X.cell? ⟨g2, k * 4 + 1, none⟩ = some (.int .i64 y1) ∧ X.cell? ⟨g2, k * 4 + 2, none⟩ = some (.int .i64 y2) ∧ X.cell? ⟨g2, k * 4 + 3, none⟩ = some (.string y3) from by
       have hb := HB.out
       have hs := hb.size
       have e1 : X.heap[g1]? = w.heap[g1]? := (hX.block _ (by omega)).trans (hb.block _ hg1)
       have e2 : X.heap[g2]? = w.heap[g2]? := (hX.block _ (by omega)).trans (hb.block _ hg2)
       exact ⟨(World.cell?_of_block (a := ⟨g1, k * 4, none⟩) e1).trans x0e, (World.cell?_of_block (a := ⟨g1, k * 4 + 1, none⟩) e1).trans x1e, (World.cell?_of_block (a := ⟨g1, k * 4 + 2, none⟩) e1).trans x2e, (World.cell?_of_block (a := ⟨g1, k * 4 + 3, none⟩) e1).trans x3e, (World.cell?_of_block (a := ⟨g2, k * 4, none⟩) e2).trans y0e, (World.cell?_of_block (a := ⟨g2, k * 4 + 1, none⟩) e2).trans y1e, (World.cell?_of_block (a := ⟨g2, k * 4 + 2, none⟩) e2).trans y2e, (World.cell?_of_block (a := ⟨g2, k * 4 + 3, none⟩) e2).trans y3e⟩))
      have hkl2 : (k : Int) < (n : Int) := by omega
      have HLT := hH hlt
      clear hx hy x0e x1e x2e x3e y0e y1e y2e y3e hdr hbb hx0 hx1 hx2 hx3 hy0 hy1 hy2 hy3 hlt hkl hg1 hg2
      go_wp2_with fail
      refine wp_region_quiet (C := fun X => Below wr.heap.size wr X) (by kernel_rfl) (by kernel_rfl) (show Below wr.heap.size wr wr.drew from ⟨rfl, rfl, rfl, Nat.le_refl _, fun _ _ => rfl⟩) ?_
      refine wpQuiet_step (fun K hK => ?_)
      rw [if_pos (by rfl)]
      refine ⟨.slice (some ⟨g1, 0, none⟩) n c1, fun X hX => ?_, hK _ ?_⟩
      · clear hK; go_simp
      clear hK K
      simp only [Act.put, pgD, pgE, pgF]
      refine wpQuiet_step (fun K hK => ?_)
      rw [if_pos (by rfl)]
      refine ⟨.int .i64 (k : Int), fun X hX => ?_, hK _ ?_⟩
      · clear hK; go_simp
      clear hK K
      simp only [Act.put, pgD, pgE, pgF]
      refine wpQuiet_step (fun K hK => ?_)
      rw [if_pos (by rfl)]
      refine ⟨.pointer (some ⟨g1, k * 4, none⟩), fun X hX => ?_, hK _ ?_⟩
      · clear hK; go_simp
      clear hK K
      simp only [Act.put, pgD, pgE, pgF]
      refine wpQuiet_step (fun K hK => ?_)
      rw [if_pos (by rfl)]
      refine ⟨.agg #[.int .i64 x0, .int .i64 x1, .int .i64 x2, .string x3], fun X hX => ?_, hK _ ?_⟩
      · clear hK; obtain ⟨s0, s1, s2, s3, s4, s5, s6, s7⟩ := HCL.out X hX; go_simp
      clear hK K
      simp only [Act.put, pgD, pgE, pgF]
      refine wpQuiet_step (fun K hK => ?_)
      rw [if_pos (by rfl)]
      refine ⟨.slice (some ⟨g2, 0, none⟩) n c2, fun X hX => ?_, hK _ ?_⟩
      · clear hK; go_simp
      clear hK K
      simp only [Act.put, pgD, pgE, pgF]
      refine wpQuiet_step (fun K hK => ?_)
      rw [if_pos (by rfl)]
      refine ⟨.int .i64 (k : Int), fun X hX => ?_, hK _ ?_⟩
      · clear hK; go_simp
      clear hK K
      simp only [Act.put, pgD, pgE, pgF]
      refine wpQuiet_step (fun K hK => ?_)
      rw [if_pos (by rfl)]
      refine ⟨.pointer (some ⟨g2, k * 4, none⟩), fun X hX => ?_, hK _ ?_⟩
      · clear hK; go_simp
      clear hK K
      simp only [Act.put, pgD, pgE, pgF]
      refine wpQuiet_step (fun K hK => ?_)
      rw [if_pos (by rfl)]
      refine ⟨.agg #[.int .i64 y0, .int .i64 y1, .int .i64 y2, .string y3], fun X hX => ?_, hK _ ?_⟩
      · clear hK; obtain ⟨s0, s1, s2, s3, s4, s5, s6, s7⟩ := HCL.out X hX; go_simp
      clear hK K
      simp only [Act.put, pgD, pgE, pgF]
      refine wpQuiet_step (fun K hK => ?_)
      rw [if_pos (by rfl)]
      refine ⟨.bool (!bb), fun X hX => ?_, hK _ ?_⟩
      · clear hK; go_simp; rw [← HBB.out]; clear HBB HDR HCL; by_cases h1 : x0 = y0 <;> by_cases h2 : x1 = y1 <;> by_cases h3 : x2 = y2 <;> by_cases h4 : x3.toList = y3.toList <;> simp [h1, h2, h3, h4]
      clear hK K
      simp only [Act.put, pgD, pgE, pgF]
      refine wpQuiet_nil ?_
      intro X hX
      have HX := hH (HB.out.trans (hX.mono HB.out.size))
      clear hX HCL
      cases bb
      · go_wp2_with fail
        go_ret
        exact ⟨by rw [HA.out, HDR.out]; rfl, HX.out⟩
      · go_wp2_with fail
        exact ⟨⟨k + 1, by have := HLT.out; have := HN.out.1; omega, by go_num, HX, hH (by rw [HA.out, HDR.out]; rfl)⟩, by have := HLT.out; simp [intOf]; omega⟩
    · have HE := hH (show eqL l m = true by rw [HA.out]; exact zae l m k (by rw [← HN.out.1]; exact HN.out.2) (by rw [← HN.out.1]; omega))
      have hkl2 : ¬ (k : Int) < (n : Int) := by omega
      clear hkl hlt
      go_wp2_with fail
      go_ret
      exact ⟨by rw [HE.out]; rfl, HB.out⟩
 · have HE := hH (show eqL l m = false by
    cases h : eqL l m with
    | false => rfl
    | true => exact absurd (jK l m h) hd)
   have hd' : ¬ (l.length : Int) = (m.length : Int) := by omega
   clear h1 h2
   go_enter Tryz.func134, Tryz.ntmps134
   go_wp2_with fail
   go_ret
   exact ⟨by rw [HE.out]; rfl, Below.refl _ _⟩
attribute [local go_sem] Oper.semAt_some
theorem Jd (w : World) (S1 S2 : Nat → Prop) (v1 v2 : Value) (t u : Tr) (hS1 : ∀ x, S1 x → x < w.heap.size) (hS2 : ∀ x, S2 x → x < w.heap.size) (ht : qj w S1 v1 t) (hu : qj w S2 v2 u) (hs1 : zb t.kids + 1 ≤ 400000) (hs2 : zb u.kids + 1 ≤ 400000) :
 Calls Tryz.prog 99 #[v1, v2] w (qb t u w) := by
 obtain ⟨ka, cap, rfl, hcap, hk⟩ := ht
 obtain ⟨kb, cap2, rfl, hcap2, hkb⟩ := hu
 obtain ⟨n, hn⟩ : ∃ n, n = foLen t.kids := ⟨_, rfl⟩
 obtain ⟨m, hm⟩ : ∃ m, m = foLen u.kids := ⟨_, rfl⟩
 rw [← hn, ← hm]
 have hal := zg [.cells #[.int .i64 t.id, .int .i64 t.kind, .string t.text, .slice ka n cap] 35, .cells #[.int .i64 u.id, .int .i64 u.kind, .string u.text, .slice kb m cap2] 35] w
 have hab := zh [.cells #[.int .i64 t.id, .int .i64 t.kind, .string t.text, .slice ka n cap] 35, .cells #[.int .i64 u.id, .int .i64 u.kind, .string u.text, .slice kb m cap2] 35] w
 have kx := hal 0 _ rfl
 rw [Nat.add_zero] at kx
 have ky := hal 1 _ rfl
 obtain ⟨V, hV⟩ : ∃ V, V = zl w [.cells #[.int .i64 t.id, .int .i64 t.kind, .string t.text, .slice ka n cap] 35, .cells #[.int .i64 u.id, .int .i64 u.kind, .string u.text, .slice kb m cap2] 35] := ⟨_, rfl⟩
 rw [← hV] at kx ky hab
 obtain ⟨SX, hSX⟩ : ∃ SX : World → Prop, SX = fun X => Below V.heap.size V X := ⟨_, rfl⟩
 have HSx : ∀ X, SX X → X.cell? ⟨w.heap.size, 0, none⟩ = some (.int .i64 t.id) ∧ X.cell? ⟨w.heap.size, 1, none⟩ = some (.int .i64 t.kind) ∧ X.cell? ⟨w.heap.size, 2, none⟩ = some (.string t.text) ∧ X.cell? ⟨w.heap.size, 3, none⟩ = some (.slice ka n cap) ∧
  X.cell? ⟨w.heap.size + 1, 0, none⟩ = some (.int .i64 u.id) ∧ X.cell? ⟨w.heap.size + 1, 1, none⟩ = some (.int .i64 u.kind) ∧ X.cell? ⟨w.heap.size + 1, 2, none⟩ = some (.string u.text) ∧ X.cell? ⟨w.heap.size + 1, 3, none⟩ = some (.slice kb m cap2) := fun X h => by
  rw [hSX] at h
  have e1 := (h.block _ (lt_of_heap kx)).trans kx
  have e2 := (h.block _ (lt_of_heap ky)).trans ky
  exact ⟨by rw [cell_of_row _ _ 0 _ _ _ e1]; rfl, by rw [cell_of_row _ _ 1 _ _ _ e1]; rfl, by rw [cell_of_row _ _ 2 _ _ _ e1]; rfl, by rw [cell_of_row _ _ 3 _ _ _ e1]; rfl, by rw [cell_of_row _ _ 0 _ _ _ e2]; rfl, by rw [cell_of_row _ _ 1 _ _ _ e2]; rfl, by rw [cell_of_row _ _ 2 _ _ _ e2]; rfl, by rw [cell_of_row _ _ 3 _ _ _ e2]; rfl⟩
 have hS0 : SX V.drew := by rw [hSX]; exact ⟨rfl, rfl, rfl, Nat.le_refl _, fun _ _ => rfl⟩
 have HSB := hH (fun (X Y : World) (h : SX X) (hb : Below X.heap.size X Y) => (show SX Y by rw [hSX] at h ⊢; exact h.trans (hb.mono h.size)))
 have hwX : ∀ X, SX X → Below w.heap.size w X := fun X h => by rw [hSX] at h; exact hab.trans (h.mono hab.size)
 have HRA : Hid (∀ X, SX X → Calls Tryz.prog 135 #[.agg #[.int .i64 t.id, .int .i64 t.kind, .string t.text, .slice ka n cap], .func (.func 136) #[] #[]] X (Jn X 182 4 zV (spF 1 (zX t)))) := hH fun X h => Ya X S1 _ t (fun x hx => nL (hS1 x hx) (hwX X h).size) ⟨ka, cap, by rw [hn], hcap, hk.kept fun x hx => ⟨hx, (hwX X h).block x (hS1 x hx)⟩⟩ hs1
 have HRB : Hid (∀ X, SX X → Calls Tryz.prog 135 #[.agg #[.int .i64 u.id, .int .i64 u.kind, .string u.text, .slice kb m cap2], .func (.func 136) #[] #[]] X (Jn X 182 4 zV (spF 1 (zX u)))) := hH fun X h => Ya X S2 _ u (fun x hx => nL (hS2 x hx) (hwX X h).size) ⟨kb, cap2, by rw [hm], hcap2, hkb.kept fun x hx => ⟨hx, (hwX X h).block x (hS2 x hx)⟩⟩ hs2
 have HL := hH (show (spF 1 (zX t)).length ≤ 1000000 ∧ (spF 1 (zX u)).length ≤ 1000000 by rw [yz, yz, yx, yx]; omega)
 have HFIN := hH hwX
 have HV := hH hV
 clear hS1 hS2 hcap hk hcap2 hkb hs1 hs2 hn hm hal hab kx ky hwX hSX hV
 refine (callsIn_wide (n := 8)).1 ?_
 refine callsIn_of_wp_marks Tryz.func99 rfl trivial ?_ rfl
 simp only [Tryz.ntmps99, List.size_toArray, List.length_cons, List.length_nil, Nat.reduceAdd, Nat.reduceSub, Array.replicate_succ, Array.replicate_zero, List.push_toArray, List.append_toArray, List.nil_append, List.cons_append]
 gi_wp2_with fail
 change Code.wpIn _ _ _ _ _ _ (zl w [.cells #[.int .i64 t.id, .int .i64 t.kind, .string t.text, .slice ka n cap] 35, .cells #[.int .i64 u.id, .int .i64 u.kind, .string u.text, .slice kb m cap2] 35])
 rw [← HV.out]
 refine Zk (S := SX) (by kernel_rfl) ?_
 have hHeld := hS0
 clear hS0
 refine yV (i := 0) (oi := _) (v := (.agg #[.int .i64 t.id, .int .i64 t.kind, .string t.text, .slice ka n cap])) rfl (by kernel_rfl) (by kernel_rfl) (by kernel_rfl) (fun _ _ _ h => by cases h.1) (Or.inl ⟨by rfl, ?_⟩) hHeld ?_
 · clear hHeld; intro X hSw; obtain ⟨s0, s1, s2, s3, s4, s5, s6, s7⟩ := HSx X hSw; clear hSw; go_simp
 simp only [Act.put, pg]
 refine yV (i := 2) (oi := _) (v := (.agg #[.int .i64 u.id, .int .i64 u.kind, .string u.text, .slice kb m cap2])) rfl (by kernel_rfl) (by kernel_rfl) (by kernel_rfl) (fun _ _ _ h => by cases h.1) (Or.inl ⟨by rfl, ?_⟩) hHeld ?_
 · clear hHeld; intro X hSw; obtain ⟨s0, s1, s2, s3, s4, s5, s6, s7⟩ := HSx X hSw; clear hSw; go_simp
 simp only [Act.put, pg]
 refine zN (i := 1) (o := _) (by kernel_rfl) rfl fun K1 hK1 => ?_
 rw [if_pos (by rfl)]
 simp only [pg3]
 have HK1 := hH hK1
 have HH1 := hH hHeld
 clear hK1 hHeld
 gi_wp2_with (refine ⟨trivial, ?_⟩; gi_at_call 135; refine (callsIn_wide.2 (HRA.out _ HH1.out)).mono ?_; rintro e X1 ⟨va, rfl, hoa, hb⟩; have HX1 := hH (aN hoa hb); clear hoa hb)
 have hHeld := HSB.out _ X1 HH1.out HX1.out.2
 refine HK1.out _ _ hHeld ?_
 clear HK1
 refine zN (i := 3) (o := _) (by kernel_rfl) rfl fun K3 hK3 => ?_
 rw [if_pos (by rfl)]
 simp only [pg3]
 have HK3 := hH hK3
 have HH3 := hH hHeld
 clear hK3 hHeld
 gi_wp2_with (refine ⟨trivial, ?_⟩; gi_at_call 135; refine (callsIn_wide.2 (HRB.out _ HH3.out)).mono ?_; rintro e X3 ⟨vb, rfl, hob, hb⟩; have HX3 := hH (aN hob hb); clear hob hb)
 have hHeld := HSB.out _ X3 HH3.out HX3.out.2
 refine HK3.out _ _ hHeld ?_
 clear HK3
 refine zN (i := 4) (o := _) (by kernel_rfl) rfl fun K4 hK4 => ?_
 rw [if_pos (by rfl)]
 simp only [pg3]
 have HK4 := hH hK4
 have HH4 := hH hHeld
 clear hK4 hHeld
 gi_wp2_with (refine ⟨trivial, ?_⟩; gi_at_call 134; refine (callsIn_wide.2 (ZL X3 _ _ va vb _ _ (zw HX1.out.1 (fun g cur hc hg => HX3.out.2.block g (lt_of_heap hc))) HX3.out.1 HL.out.1 HL.out.2)).mono ?_; rintro e X4 ⟨rfl, hb⟩; rw [JF]; have HX4 := hH hb; clear hb)
 have hHeld := HSB.out _ X4 HH4.out HX4.out
 refine HK4.out _ _ hHeld ?_
 clear HK4
 refine yV (i := 5) (oi := _) (v := (.bool (yF t u))) rfl (by kernel_rfl) (by kernel_rfl) (by kernel_rfl) (fun _ _ _ h => by cases h.1) (Or.inl ⟨by rfl, ?_⟩) hHeld ?_
 · clear hHeld; intro X hSw; clear hSw; go_simp
 simp only [Act.put, pg]
 refine qw (by kernel_rfl) ⟨rfl, ?_⟩ _
 have HE := hH (HFIN.out _ hHeld)
 clear hHeld HSx
 gi_wp2
 exact ⟨_, results_tmp rfl _ _ _, rfl, HE.out⟩
end Go.Proofs.YtchccbfljamjnaaGreat
