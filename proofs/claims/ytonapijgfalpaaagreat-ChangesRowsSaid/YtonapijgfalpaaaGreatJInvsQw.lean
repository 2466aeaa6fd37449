/-
  .
-/
import Derived.Deep.Cut
import Derived.Deep.RegionHeld
import Derived.Test.YtonapijgfalpaaaGreatJInvPQw
import Derived.Test.YtonapijgfalpaaaGreatJPgQw
set_option maxRecDepth 100000
set_option maxHeartbeats 40000000
namespace Go.Proofs.YtonapijgfalpaaaGreat
open Go.RowKit Go.Shelf
set_option linter.unusedVariables false
set_option linter.unusedSimpArgs false
def qo (Y0 : World) (G : Nat → Prop) (BB : Nat) (t : Tr) (l : List Sf) (n : Int) (xa : Option Addr) (xm xc : Nat) (W : World) : Prop := (n = 0 ∧ (∃ x, goA t l = some x) ∧ ∃ ys, xm = (qy t l).length ∧ zP W G Y0.heap.size BB xa xc (qy t l) ys) ∨ (n ≠ 0 ∧ goA t l = none)
theorem J5.box {Y0 : World} {G : Nat → Prop} {BB : Nat} {t : Tr} {l : List Sf} {n : Int} {W : World} (h : J5 Y0 G BB t l n W) : ∃ xa xm xc, W.heap[BB]? = some (.cells #[.slice xa xm xc] 22 (0, 0)) ∧ qo Y0 G BB t l n xa xm xc W := by
 rcases h with ⟨h0, x, ba, bc, ys, h1, h2⟩ | ⟨h0, h1, ba, m, bc, h2⟩
 · exact ⟨ba, _, bc, h2.box, .inl ⟨h0, ⟨x, h1⟩, ys, rfl, h2⟩⟩
 · exact ⟨ba, m, bc, h2, .inr ⟨h0, h1⟩⟩
theorem qo.more {Y0 : World} {G : Nat → Prop} {BB R : Nat} {t : Tr} {l : List Sf} {n : Int} {xa : Option Addr} {xm xc : Nat} {W X : World} (h : qo Y0 G BB t l n xa xm xc W) (hR : W.heap.size ≤ R) (hb : Below W.heap.size W X) : qo Y0 (fun q => G q ∨ q = R) BB t l n xa xm xc X := by
 rcases h with ⟨h1, h2, ys, h3, h4⟩ | h
 · exact .inl ⟨h1, h2, ys, h3, (h4.Y7 hR).on hb⟩
 · exact .inr h
theorem qo.set {Y0 : World} {G : Nat → Prop} {BB R : Nat} {t : Tr} {l : List Sf} {n : Int} {xa : Option Addr} {xm xc : Nat} {W X : World} {cs : Array Value} (h : qo Y0 G BB t l n xa xm xc W) (hG : G R) (hne : BB < R) (hR : W.heap[R]? = some (.cells cs 37 (0, 0))) (hs : X.heap.size = W.heap.size) (hk : ∀ q, q ≠ R → X.heap[q]? = W.heap[q]?) : qo Y0 G BB t l n xa xm xc X := by
 rcases h with ⟨h1, h2, ys, h3, h4⟩ | h
 · refine .inl ⟨h1, h2, ys, h3, h4.kept (by rw [hs]; exact Nat.le_refl _) (fun q h5 h6 => hk q (fun e => ?_))⟩
   subst e
   rcases h6 with h6 | h6 | h6
   · omega
   · obtain ⟨d, hd⟩ := ZO h4.row (qL.2 h6).symm
     exact absurd (zd2 hd hR) (by decide)
   · exact h6 (Or.inl hG)
 · exact .inr h
def zfI (w : World) (t : Tr) (l : List Sf) (e : Ending) (W : World) : Prop := ∃ xa xm xc n, e = .returned (.tuple #[.slice xa xm xc, .int .i64 n]) ∧ Below w.heap.size w W ∧ ∃ G, qo w G (w.heap.size + 1) t l n xa xm xc W
theorem zdH (w : World) (t : Tr) (ta la : Option Addr) (tn tc n c : Nat) (vs : List SV) (htn : tn = zb t.kids) (ht : zU w t.kids ta tc) (hw : Way t) (hn : n = vs.length) (h : Row w la vs) (hI : ∀ x ∈ vs, QR x.s) (ho : qd (steps vs) = true) :
 Calls Tryz.prog 42 #[.agg #[.int .i64 t.id, .int .i64 t.kind, .string t.text, .slice ta tn tc], .slice la n c] w (zfI w t (steps vs)) := by
 obtain ⟨B, hB⟩ : ∃ B, B = zo w [.cells #[.int .i64 t.id, .int .i64 t.kind, .string t.text, .slice ta tn tc] 37, .cells #[.slice none 0 0] 22] := ⟨_, rfl⟩
 have BW := hH (show Below w.heap.size w B by rw [hB]; exact zk _ _)
 have EN := hH (show B.heap[w.heap.size]? = some (.cells #[.int .i64 t.id, .int .i64 t.kind, .string t.text, .slice ta tn tc] 37 (0, 0)) by rw [hB]; exact zg _ _ 0 _ rfl)
 obtain ⟨BB, hBB⟩ : ∃ BB, BB = w.heap.size + 1 := ⟨_, rfl⟩
 have EB := hH (show B.heap[BB]? = some (.cells #[.slice none 0 0] 22 (0, 0)) by rw [hB, hBB]; exact zg _ _ 1 _ rfl)
 have HT := hH (aN htn (aN ht (aN hw (aN hn (aN h (aN ho hI))))))
 have HBE := hH hB
 have HBB := hH hBB
 have HNC := hH (fun (X : World) (hX : X.heap[w.heap.size]? = some (.cells #[.int .i64 t.id, .int .i64 t.kind, .string t.text, .slice ta tn tc] 37 (0, 0))) => zJ hX)
 unfold zfI
 rw [← hBB]
 clear htn ht hw hn h ho hI hB
 go_enter Tryz.func42, Tryz.ntmps42
 go_upto_region 2 with fail
 change Code.wp _ _ _ _ (zo w [.cells #[.int .i64 t.id, .int .i64 t.kind, .string t.text, .slice ta tn tc] 37, .cells #[.slice none 0 0] 22])
 rw [← HBE.out, ← hBB]
 clear HBE hBB
 refine wp_region_held_drew (S := fun X => X.heap[w.heap.size]? = some (.cells #[.int .i64 t.id, .int .i64 t.kind, .string t.text, .slice ta tn tc] 37 (0, 0))) (by kernel_rfl) EN.out (fun hHeld => ?_)
 refine tkH (i := 0) (.agg #[.int .i64 t.id, .int .i64 t.kind, .string t.text, .slice ta tn tc]) rfl (Or.inl ⟨by rfl, ?_⟩) (by assumption) ?_
 · clear hHeld; intro X hSw; obtain ⟨n0, n1, n2, n3⟩ := HNC.out X hSw; clear hSw; go_simp
 simp only [Act.put, pg]
 refine tkH (i := 1) (.slice la n c) rfl (Or.inl ⟨by rfl, fun X _ => by clear hHeld; go_simp⟩) (by assumption) ?_
 simp only [Act.put, pg]
 refine tkH (i := 4) (.func (.func 65) #[] #[.pointer (some ⟨BB, 0, none⟩)]) rfl (Or.inl ⟨by rfl, fun X _ => by clear hHeld; go_simp⟩) (by assumption) ?_
 simp only [Act.put, pg]
 refine wpAnyH_ready (rs := [2, 10]) (by kernel_rfl) (by simp) ?_
 refine AllReadyH.cons (o := _) rfl (fun K hK => ?_) (AllReadyH.cons (o := _) rfl (fun K hK => ?_) (AllReadyH.nil))
 · skip
   rw [if_pos (by rfl)]
   simp only [pg3]
   have HK := hH hK
   have HS := hH hHeld
   clear hK hHeld
   go_wp2_with fail
   obtain ⟨Z1, hnx⟩ : ∃ nx, nx = (World.alloc B (.cells #[.slice la n c] 22)).drew := ⟨_, rfl⟩
   rw [← hnx]
   have hbx : Below B.heap.size B Z1 := by rw [hnx]; exact below_drewN (zh _ _) 1
   have hne : Z1.heap[B.heap.size]? = some (.cells #[.slice la n c] 22 (0, 0)) := by rw [hnx]; exact heap_alloc_new B _
   have hlt : BB < B.heap.size ∧ w.heap.size < B.heap.size := ⟨lt_of_heap EB.out, lt_of_heap EN.out⟩
   replace EN := hH ((hbx.block _ (lt_of_heap EN.out)).trans EN.out)
   replace EB := hH ((hbx.block _ (lt_of_heap EB.out)).trans EB.out)
   replace BW := hH (BW.out.trans (hbx.mono BW.out.size))
   obtain ⟨R, hblk⟩ : ∃ R, R = B.heap.size := ⟨_, rfl⟩
   rw [← hblk] at hne hlt ⊢
   skip
   have ER := hH hne
   have LR := hH hlt
   refine HK.out _ _ EN.out (fun hHeld => ?_)
   clear HK HS hnx hbx hne hlt hblk
   refine wpAnyH_ready (rs := [3, 10]) (by kernel_rfl) (by simp) ?_
   refine AllReadyH.cons (o := _) rfl (fun K hK => ?_) (AllReadyH.cons (o := _) rfl (fun K hK => ?_) (AllReadyH.nil))
   · skip
     rw [if_pos (by rfl)]
     simp only [pg3]
     have HK := hH hK
     have HS := hH hHeld
     clear hK hHeld
     go_wp2_with (go_at_call 24; refine (qO _ _ _ _).mono ?_; rintro e Z2 ⟨rfl, hnx⟩)
     have hbx : Below Z1.heap.size Z1 Z2 := by rw [← hnx]; exact zh _ _
     have hne : Z2.heap[Z1.heap.size]? = some (.cells #[.slice (some ⟨R, 0, none⟩) 1 1] 91 (0, 0)) := by rw [← hnx]; exact heap_alloc_new Z1 _
     have hlt : BB < Z1.heap.size ∧ w.heap.size < Z1.heap.size := ⟨lt_of_heap EB.out, lt_of_heap EN.out⟩
     replace EN := hH ((hbx.block _ (lt_of_heap EN.out)).trans EN.out)
     replace EB := hH ((hbx.block _ (lt_of_heap EB.out)).trans EB.out)
     replace ER := hH ((hbx.block _ (lt_of_heap ER.out)).trans ER.out)
     replace BW := hH (BW.out.trans (hbx.mono BW.out.size))
     obtain ⟨NB, hblk⟩ : ∃ NB, NB = Z1.heap.size := ⟨_, rfl⟩
     rw [← hblk] at hne hlt ⊢
     have EO := hH hne
     have LO := hH hlt
     refine HK.out _ _ EN.out (fun hHeld => ?_)
     clear HK HS hnx hbx hne hlt hblk
     refine wpAnyH_ready (rs := [5, 10]) (by kernel_rfl) (by simp) ?_
     refine AllReadyH.cons (o := _) rfl (fun K hK => ?_) (AllReadyH.cons (o := _) rfl (fun K hK => ?_) (AllReadyH.nil))
     · skip
       rw [if_pos (by rfl)]
       simp only [pg3]
       have HK := hH hK
       have HS := hH hHeld
       clear hK hHeld
       have hfo := YA (X := Z2) (t := t) BW.out ⟨by have := HBB.out; omega, lt_of_heap EB.out⟩ (by have := LO.out; omega) (by have := LR.out; omega) HT.out.2.2.2.2.1 HT.out.2.2.2.2.2.2 HT.out.2.2.2.2.2.1 EO.out (by rw [← HT.out.2.2.2.1]; exact ER.out) EB.out HT.out.1 HT.out.2.2.1 HT.out.2.1
       have HFO := hH hfo
       clear hfo
       skip
       go_wp2_with (go_at_call 39; refine HFO.out.mono ?_; rintro e Z3 ⟨v, kk, nn, rfl, hki, hdo⟩)
       obtain ⟨i2, k2, x2, a2, n2, c2⟩ := v
       simp only [NV.v]
       obtain ⟨xa, xm, xc, hbox, hrest⟩ := hdo.box
       replace EN := hH ((hki.2.2 _ (lt_of_heap EN.out) (by have := HBB.out; omega)).trans EN.out)
       replace ER := hH ((hki.2.2 _ (lt_of_heap ER.out) (by have := LR.out; omega)).trans ER.out)
       replace EO := hH ((hki.2.2 _ (lt_of_heap EO.out) (by have := LO.out; omega)).trans EO.out)
       replace EB := hH hbox
       replace BW := hH hki.1
       have HR := hH hrest
       refine HK.out _ _ EN.out (fun hHeld => ?_)
       clear HK HS HFO hki hdo hbox hrest
       refine tkH (i := 6) (.tuple #[.agg #[.int .i64 i2, .int .i64 k2, .string x2, .slice a2 n2 c2], .int .i64 (kk : Int), .int .i64 nn]) rfl (Or.inl ⟨by rfl, fun X _ => by clear hHeld; go_simp⟩) (by assumption) ?_
       simp only [Act.put, pg]
       refine tkH (i := 7) (.agg #[.int .i64 i2, .int .i64 k2, .string x2, .slice a2 n2 c2]) rfl (Or.inl ⟨by rfl, fun X _ => by clear hHeld; go_simp⟩) (by assumption) ?_
       simp only [Act.put, pg]
       refine tkH (i := 8) (.int .i64 (kk : Int)) rfl (Or.inl ⟨by rfl, fun X _ => by clear hHeld; go_simp⟩) (by assumption) ?_
       simp only [Act.put, pg]
       refine tkH (i := 9) (.int .i64 nn) rfl (Or.inl ⟨by rfl, fun X _ => by clear hHeld; go_simp⟩) (by assumption) ?_
       simp only [Act.put, pg]
       refine wpAnyH_ready (rs := [10]) (by kernel_rfl) (by simp) ?_
       refine AllReadyH.cons (o := _) rfl (fun K hK => ?_) (AllReadyH.nil)
       rw [if_pos (by rfl)]
       simp only [pg3]
       have HK := hH hK
       have HS := hH hHeld
       clear hK hHeld
       go_wp2_with fail
       obtain ⟨Z4, hnx⟩ : ∃ nx, nx = (World.alloc Z3 (.cells #[.int .i64 0, .int .i64 0, .string ⟨#[]⟩, .slice none 0 0] 37)) := ⟨_, rfl⟩
       rw [← hnx]
       have hbx : Below Z3.heap.size Z3 Z4 := by rw [hnx]; exact zh _ _
       have hne : Z4.heap[Z3.heap.size]? = some (.cells #[.int .i64 0, .int .i64 0, .string ⟨#[]⟩, .slice none 0 0] 37 (0, 0)) := by rw [hnx]; exact heap_alloc_new Z3 _
       have hlt : BB < Z3.heap.size ∧ w.heap.size < Z3.heap.size := ⟨lt_of_heap EB.out, lt_of_heap EN.out⟩
       replace EN := hH ((hbx.block _ (lt_of_heap EN.out)).trans EN.out)
       replace EB := hH ((hbx.block _ (lt_of_heap EB.out)).trans EB.out)
       replace ER := hH ((hbx.block _ (lt_of_heap ER.out)).trans ER.out)
       replace EO := hH ((hbx.block _ (lt_of_heap EO.out)).trans EO.out)
       replace BW := hH (BW.out.trans (hbx.mono BW.out.size))
       have hrz : ∃ G : Nat → Prop, G Z3.heap.size ∧ qo w G BB t (steps vs) nn xa xm xc Z4 := ⟨_, Or.inr rfl, HR.out.more (Nat.le_refl _) hbx⟩
       obtain ⟨ZB, hblk⟩ : ∃ ZB, ZB = Z3.heap.size := ⟨_, rfl⟩
       rw [← hblk] at hne hlt hrz ⊢
       have HRZ := hH hrz; clear hrz
       have EZ := hH hne
       have LZ := hH hlt
       refine HK.out _ _ EN.out (fun hHeld => ?_)
       clear HK HS hnx hbx hne hlt hblk
       refine wpAnyH_ready (rs := [11]) (by kernel_rfl) (by simp) ?_
       refine AllReadyH.cons (o := _) rfl (fun K hK => ?_) AllReadyH.nil
       rw [if_pos (by rfl)]
       simp only [pg3]
       have HK := hH hK
       have HS := hH hHeld
       clear hK hHeld
       obtain ⟨z0, z1, z2, z3⟩ := zJ EZ.out
       have zf : ∀ j, Z4.frozen? ⟨ZB, j, none⟩ = false := fun j => frozen_of_row _ _ j _ _ EZ.out
       obtain ⟨V, hV, s1, s2, s3, s4, s5, s6⟩ := zu (u0 := .int .i64 i2) (u1 := .int .i64 k2) (u2 := .string x2) (u3 := .slice a2 n2 c2) EZ.out
       have hbV : Below w.heap.size w V := ⟨s3.trans BW.out.os, s4.trans BW.out.tape, s5.trans BW.out.output, by rw [s6]; exact BW.out.size, fun y hy => (s2 y (by have := LZ.out; omega)).trans (BW.out.block y hy)⟩
       have hNV := (s2 _ (by have := LZ.out; omega)).trans EN.out
       have hBV := (s2 BB (by have := LZ.out; omega)).trans EB.out
       have HEZ := hH EZ.out
       have HV := hH (aN hV (aN s2 (aN s6 hbV)))
       replace EN := hH hNV
       replace EB := hH hBV
       clear hV s1 s2 s3 s4 s5 s6 hbV hNV hBV
       go_wp2_with fail
       rw [← HV.out.1]
       refine HK.out _ _ EN.out (fun hHeld => ?_)
       clear HK HS z0 z1 z2 z3 zf
       refine tkH (i := 12) (.int .i64 (kk : Int)) rfl (Or.inl ⟨by rfl, fun X _ => by clear hHeld; go_simp⟩) (by assumption) ?_
       simp only [Act.put, pg]
       refine tkH (i := 13) (.int .i64 nn) rfl (Or.inl ⟨by rfl, fun X _ => by clear hHeld; go_simp⟩) (by assumption) ?_
       simp only [Act.put, pg]
       refine wpAnyH_done (by kernel_rfl) ?_ _
       clear hHeld
       have c0 : V.cell? ⟨BB, 0, none⟩ = some (.slice xa xm xc) := by rw [cell_of_row _ _ 0 _ _ _ EB.out]; rfl
       go_wp2_with fail
       go_ret2
       obtain ⟨G, hGz, hr⟩ := HRZ.out
       exact ⟨xa, xm, xc, nn, rfl, HV.out.2.2.2, G, hr.set hGz (LZ.out).1 HEZ.out HV.out.2.2.1 HV.out.2.1⟩
     · skip
       rw [if_pos (by rfl)]
       simp only [pg3]
       have HK := hH hK
       have HS := hH hHeld
       clear hK hHeld
       go_wp2_with fail
       obtain ⟨Z5, hnx⟩ : ∃ nx, nx = (World.alloc Z2 (.cells #[.int .i64 0, .int .i64 0, .string ⟨#[]⟩, .slice none 0 0] 37)) := ⟨_, rfl⟩
       rw [← hnx]
       have hbx : Below Z2.heap.size Z2 Z5 := by rw [hnx]; exact zh _ _
       have hne : Z5.heap[Z2.heap.size]? = some (.cells #[.int .i64 0, .int .i64 0, .string ⟨#[]⟩, .slice none 0 0] 37 (0, 0)) := by rw [hnx]; exact heap_alloc_new Z2 _
       have hlt : BB < Z2.heap.size ∧ w.heap.size < Z2.heap.size := ⟨lt_of_heap EB.out, lt_of_heap EN.out⟩
       replace EN := hH ((hbx.block _ (lt_of_heap EN.out)).trans EN.out)
       replace EB := hH ((hbx.block _ (lt_of_heap EB.out)).trans EB.out)
       replace ER := hH ((hbx.block _ (lt_of_heap ER.out)).trans ER.out)
       replace EO := hH ((hbx.block _ (lt_of_heap EO.out)).trans EO.out)
       replace BW := hH (BW.out.trans (hbx.mono BW.out.size))
       obtain ⟨ZB, hblk⟩ : ∃ ZB, ZB = Z2.heap.size := ⟨_, rfl⟩
       rw [← hblk] at hne hlt ⊢
       skip
       have EZ := hH hne
       have LZ := hH hlt
       refine HK.out _ _ EN.out (fun hHeld => ?_)
       clear HK HS hnx hbx hne hlt hblk
       refine wpAnyH_ready (rs := [5]) (by kernel_rfl) (by simp) ?_
       refine AllReadyH.cons (o := _) rfl (fun K hK => ?_) (AllReadyH.nil)
       rw [if_pos (by rfl)]
       simp only [pg3]
       have HK := hH hK
       have HS := hH hHeld
       clear hK hHeld
       have hfo := YA (X := Z5) (t := t) BW.out ⟨by have := HBB.out; omega, lt_of_heap EB.out⟩ (by have := LO.out; omega) (by have := LR.out; omega) HT.out.2.2.2.2.1 HT.out.2.2.2.2.2.2 HT.out.2.2.2.2.2.1 EO.out (by rw [← HT.out.2.2.2.1]; exact ER.out) EB.out HT.out.1 HT.out.2.2.1 HT.out.2.1
       have HFO := hH hfo
       clear hfo
       have HZL := hH (lt_of_heap EZ.out)
       go_wp2_with (go_at_call 39; refine HFO.out.mono ?_; rintro e Z6 ⟨v, kk, nn, rfl, hki, hdo⟩)
       obtain ⟨i2, k2, x2, a2, n2, c2⟩ := v
       simp only [NV.v]
       obtain ⟨xa, xm, xc, hbox, hrest⟩ := hdo.box
       replace EN := hH ((hki.2.2 _ (lt_of_heap EN.out) (by have := HBB.out; omega)).trans EN.out)
       replace ER := hH ((hki.2.2 _ (lt_of_heap ER.out) (by have := LR.out; omega)).trans ER.out)
       replace EO := hH ((hki.2.2 _ (lt_of_heap EO.out) (by have := LO.out; omega)).trans EO.out)
       replace EZ := hH ((hki.2.2 _ (lt_of_heap EZ.out) (by have := LZ.out; omega)).trans EZ.out)
       replace EB := hH hbox
       replace BW := hH hki.1
       have HRZ := hH (show ∃ G : Nat → Prop, G ZB ∧ qo w G BB t (steps vs) nn xa xm xc Z6 from ⟨_, ⟨by have := LZ.out; omega, HZL.out⟩, hrest⟩)
       refine HK.out _ _ EN.out (fun hHeld => ?_)
       clear HK HS HFO hki hdo hbox hrest
       refine tkH (i := 6) (.tuple #[.agg #[.int .i64 i2, .int .i64 k2, .string x2, .slice a2 n2 c2], .int .i64 (kk : Int), .int .i64 nn]) rfl (Or.inl ⟨by rfl, fun X _ => by clear hHeld; go_simp⟩) (by assumption) ?_
       simp only [Act.put, pg]
       refine tkH (i := 7) (.agg #[.int .i64 i2, .int .i64 k2, .string x2, .slice a2 n2 c2]) rfl (Or.inl ⟨by rfl, fun X _ => by clear hHeld; go_simp⟩) (by assumption) ?_
       simp only [Act.put, pg]
       refine tkH (i := 8) (.int .i64 (kk : Int)) rfl (Or.inl ⟨by rfl, fun X _ => by clear hHeld; go_simp⟩) (by assumption) ?_
       simp only [Act.put, pg]
       refine tkH (i := 9) (.int .i64 nn) rfl (Or.inl ⟨by rfl, fun X _ => by clear hHeld; go_simp⟩) (by assumption) ?_
       simp only [Act.put, pg]
       refine wpAnyH_ready (rs := [11]) (by kernel_rfl) (by simp) ?_
       refine AllReadyH.cons (o := _) rfl (fun K hK => ?_) AllReadyH.nil
       rw [if_pos (by rfl)]
       simp only [pg3]
       have HK := hH hK
       have HS := hH hHeld
       clear hK hHeld
       obtain ⟨z0, z1, z2, z3⟩ := zJ EZ.out
       have zf : ∀ j, Z6.frozen? ⟨ZB, j, none⟩ = false := fun j => frozen_of_row _ _ j _ _ EZ.out
       obtain ⟨V, hV, s1, s2, s3, s4, s5, s6⟩ := zu (u0 := .int .i64 i2) (u1 := .int .i64 k2) (u2 := .string x2) (u3 := .slice a2 n2 c2) EZ.out
       have hbV : Below w.heap.size w V := ⟨s3.trans BW.out.os, s4.trans BW.out.tape, s5.trans BW.out.output, by rw [s6]; exact BW.out.size, fun y hy => (s2 y (by have := LZ.out; omega)).trans (BW.out.block y hy)⟩
       have hNV := (s2 _ (by have := LZ.out; omega)).trans EN.out
       have hBV := (s2 BB (by have := LZ.out; omega)).trans EB.out
       have HEZ := hH EZ.out
       have HV := hH (aN hV (aN s2 (aN s6 hbV)))
       replace EN := hH hNV
       replace EB := hH hBV
       clear hV s1 s2 s3 s4 s5 s6 hbV hNV hBV
       go_wp2_with fail
       rw [← HV.out.1]
       refine HK.out _ _ EN.out (fun hHeld => ?_)
       clear HK HS z0 z1 z2 z3 zf
       refine tkH (i := 12) (.int .i64 (kk : Int)) rfl (Or.inl ⟨by rfl, fun X _ => by clear hHeld; go_simp⟩) (by assumption) ?_
       simp only [Act.put, pg]
       refine tkH (i := 13) (.int .i64 nn) rfl (Or.inl ⟨by rfl, fun X _ => by clear hHeld; go_simp⟩) (by assumption) ?_
       simp only [Act.put, pg]
       refine wpAnyH_done (by kernel_rfl) ?_ _
       clear hHeld
       have c0 : V.cell? ⟨BB, 0, none⟩ = some (.slice xa xm xc) := by rw [cell_of_row _ _ 0 _ _ _ EB.out]; rfl
       go_wp2_with fail
       go_ret2
       obtain ⟨G, hGz, hr⟩ := HRZ.out
       exact ⟨xa, xm, xc, nn, rfl, HV.out.2.2.2, G, hr.set hGz (LZ.out).1 HEZ.out HV.out.2.2.1 HV.out.2.1⟩
   · skip
     rw [if_pos (by rfl)]
     simp only [pg3]
     have HK := hH hK
     have HS := hH hHeld
     clear hK hHeld
     go_wp2_with fail
     obtain ⟨Z7, hnx⟩ : ∃ nx, nx = (World.alloc Z1 (.cells #[.int .i64 0, .int .i64 0, .string ⟨#[]⟩, .slice none 0 0] 37)) := ⟨_, rfl⟩
     rw [← hnx]
     have hbx : Below Z1.heap.size Z1 Z7 := by rw [hnx]; exact zh _ _
     have hne : Z7.heap[Z1.heap.size]? = some (.cells #[.int .i64 0, .int .i64 0, .string ⟨#[]⟩, .slice none 0 0] 37 (0, 0)) := by rw [hnx]; exact heap_alloc_new Z1 _
     have hlt : BB < Z1.heap.size ∧ w.heap.size < Z1.heap.size := ⟨lt_of_heap EB.out, lt_of_heap EN.out⟩
     replace EN := hH ((hbx.block _ (lt_of_heap EN.out)).trans EN.out)
     replace EB := hH ((hbx.block _ (lt_of_heap EB.out)).trans EB.out)
     replace ER := hH ((hbx.block _ (lt_of_heap ER.out)).trans ER.out)
     replace BW := hH (BW.out.trans (hbx.mono BW.out.size))
     obtain ⟨ZB, hblk⟩ : ∃ ZB, ZB = Z1.heap.size := ⟨_, rfl⟩
     rw [← hblk] at hne hlt ⊢
     skip
     have EZ := hH hne
     have LZ := hH hlt
     refine HK.out _ _ EN.out (fun hHeld => ?_)
     clear HK HS hnx hbx hne hlt hblk
     refine wpAnyH_ready (rs := [3]) (by kernel_rfl) (by simp) ?_
     refine AllReadyH.cons (o := _) rfl (fun K hK => ?_) (AllReadyH.nil)
     rw [if_pos (by rfl)]
     simp only [pg3]
     have HK := hH hK
     have HS := hH hHeld
     clear hK hHeld
     go_wp2_with (go_at_call 24; refine (qO _ _ _ _).mono ?_; rintro e Z8 ⟨rfl, hnx⟩)
     have hbx : Below Z7.heap.size Z7 Z8 := by rw [← hnx]; exact zh _ _
     have hne : Z8.heap[Z7.heap.size]? = some (.cells #[.slice (some ⟨R, 0, none⟩) 1 1] 91 (0, 0)) := by rw [← hnx]; exact heap_alloc_new Z7 _
     have hlt : BB < Z7.heap.size ∧ w.heap.size < Z7.heap.size := ⟨lt_of_heap EB.out, lt_of_heap EN.out⟩
     replace EN := hH ((hbx.block _ (lt_of_heap EN.out)).trans EN.out)
     replace EB := hH ((hbx.block _ (lt_of_heap EB.out)).trans EB.out)
     replace ER := hH ((hbx.block _ (lt_of_heap ER.out)).trans ER.out)
     replace EZ := hH ((hbx.block _ (lt_of_heap EZ.out)).trans EZ.out)
     replace BW := hH (BW.out.trans (hbx.mono BW.out.size))
     obtain ⟨NB, hblk⟩ : ∃ NB, NB = Z7.heap.size := ⟨_, rfl⟩
     rw [← hblk] at hne hlt ⊢
     have EO := hH hne
     have LO := hH hlt
     refine HK.out _ _ EN.out (fun hHeld => ?_)
     clear HK HS hnx hbx hne hlt hblk
     refine wpAnyH_ready (rs := [5]) (by kernel_rfl) (by simp) ?_
     refine AllReadyH.cons (o := _) rfl (fun K hK => ?_) (AllReadyH.nil)
     rw [if_pos (by rfl)]
     simp only [pg3]
     have HK := hH hK
     have HS := hH hHeld
     clear hK hHeld
     have hfo := YA (X := Z8) (t := t) BW.out ⟨by have := HBB.out; omega, lt_of_heap EB.out⟩ (by have := LO.out; omega) (by have := LR.out; omega) HT.out.2.2.2.2.1 HT.out.2.2.2.2.2.2 HT.out.2.2.2.2.2.1 EO.out (by rw [← HT.out.2.2.2.1]; exact ER.out) EB.out HT.out.1 HT.out.2.2.1 HT.out.2.1
     have HFO := hH hfo
     clear hfo
     have HZL := hH (lt_of_heap EZ.out)
     go_wp2_with (go_at_call 39; refine HFO.out.mono ?_; rintro e Z9 ⟨v, kk, nn, rfl, hki, hdo⟩)
     obtain ⟨i2, k2, x2, a2, n2, c2⟩ := v
     simp only [NV.v]
     obtain ⟨xa, xm, xc, hbox, hrest⟩ := hdo.box
     replace EN := hH ((hki.2.2 _ (lt_of_heap EN.out) (by have := HBB.out; omega)).trans EN.out)
     replace ER := hH ((hki.2.2 _ (lt_of_heap ER.out) (by have := LR.out; omega)).trans ER.out)
     replace EZ := hH ((hki.2.2 _ (lt_of_heap EZ.out) (by have := LZ.out; omega)).trans EZ.out)
     replace EO := hH ((hki.2.2 _ (lt_of_heap EO.out) (by have := LO.out; omega)).trans EO.out)
     replace EB := hH hbox
     replace BW := hH hki.1
     have HRZ := hH (show ∃ G : Nat → Prop, G ZB ∧ qo w G BB t (steps vs) nn xa xm xc Z9 from ⟨_, ⟨by have := LZ.out; omega, HZL.out⟩, hrest⟩)
     refine HK.out _ _ EN.out (fun hHeld => ?_)
     clear HK HS HFO hki hdo hbox hrest
     refine tkH (i := 6) (.tuple #[.agg #[.int .i64 i2, .int .i64 k2, .string x2, .slice a2 n2 c2], .int .i64 (kk : Int), .int .i64 nn]) rfl (Or.inl ⟨by rfl, fun X _ => by clear hHeld; go_simp⟩) (by assumption) ?_
     simp only [Act.put, pg]
     refine tkH (i := 7) (.agg #[.int .i64 i2, .int .i64 k2, .string x2, .slice a2 n2 c2]) rfl (Or.inl ⟨by rfl, fun X _ => by clear hHeld; go_simp⟩) (by assumption) ?_
     simp only [Act.put, pg]
     refine tkH (i := 8) (.int .i64 (kk : Int)) rfl (Or.inl ⟨by rfl, fun X _ => by clear hHeld; go_simp⟩) (by assumption) ?_
     simp only [Act.put, pg]
     refine tkH (i := 9) (.int .i64 nn) rfl (Or.inl ⟨by rfl, fun X _ => by clear hHeld; go_simp⟩) (by assumption) ?_
     simp only [Act.put, pg]
     refine wpAnyH_ready (rs := [11]) (by kernel_rfl) (by simp) ?_
     refine AllReadyH.cons (o := _) rfl (fun K hK => ?_) AllReadyH.nil
     rw [if_pos (by rfl)]
     simp only [pg3]
     have HK := hH hK
     have HS := hH hHeld
     clear hK hHeld
     obtain ⟨z0, z1, z2, z3⟩ := zJ EZ.out
     have zf : ∀ j, Z9.frozen? ⟨ZB, j, none⟩ = false := fun j => frozen_of_row _ _ j _ _ EZ.out
     obtain ⟨V, hV, s1, s2, s3, s4, s5, s6⟩ := zu (u0 := .int .i64 i2) (u1 := .int .i64 k2) (u2 := .string x2) (u3 := .slice a2 n2 c2) EZ.out
     have hbV : Below w.heap.size w V := ⟨s3.trans BW.out.os, s4.trans BW.out.tape, s5.trans BW.out.output, by rw [s6]; exact BW.out.size, fun y hy => (s2 y (by have := LZ.out; omega)).trans (BW.out.block y hy)⟩
     have hNV := (s2 _ (by have := LZ.out; omega)).trans EN.out
     have hBV := (s2 BB (by have := LZ.out; omega)).trans EB.out
     have HEZ := hH EZ.out
     have HV := hH (aN hV (aN s2 (aN s6 hbV)))
     replace EN := hH hNV
     replace EB := hH hBV
     clear hV s1 s2 s3 s4 s5 s6 hbV hNV hBV
     go_wp2_with fail
     rw [← HV.out.1]
     refine HK.out _ _ EN.out (fun hHeld => ?_)
     clear HK HS z0 z1 z2 z3 zf
     refine tkH (i := 12) (.int .i64 (kk : Int)) rfl (Or.inl ⟨by rfl, fun X _ => by clear hHeld; go_simp⟩) (by assumption) ?_
     simp only [Act.put, pg]
     refine tkH (i := 13) (.int .i64 nn) rfl (Or.inl ⟨by rfl, fun X _ => by clear hHeld; go_simp⟩) (by assumption) ?_
     simp only [Act.put, pg]
     refine wpAnyH_done (by kernel_rfl) ?_ _
     clear hHeld
     have c0 : V.cell? ⟨BB, 0, none⟩ = some (.slice xa xm xc) := by rw [cell_of_row _ _ 0 _ _ _ EB.out]; rfl
     go_wp2_with fail
     go_ret2
     obtain ⟨G, hGz, hr⟩ := HRZ.out
     exact ⟨xa, xm, xc, nn, rfl, HV.out.2.2.2, G, hr.set hGz (LZ.out).1 HEZ.out HV.out.2.2.1 HV.out.2.1⟩
 · skip
   rw [if_pos (by rfl)]
   simp only [pg3]
   have HK := hH hK
   have HS := hH hHeld
   clear hK hHeld
   go_wp2_with fail
   obtain ⟨Z10, hnx⟩ : ∃ nx, nx = (World.alloc B (.cells #[.int .i64 0, .int .i64 0, .string ⟨#[]⟩, .slice none 0 0] 37)).drew := ⟨_, rfl⟩
   rw [← hnx]
   have hbx : Below B.heap.size B Z10 := by rw [hnx]; exact below_drewN (zh _ _) 1
   have hne : Z10.heap[B.heap.size]? = some (.cells #[.int .i64 0, .int .i64 0, .string ⟨#[]⟩, .slice none 0 0] 37 (0, 0)) := by rw [hnx]; exact heap_alloc_new B _
   have hlt : BB < B.heap.size ∧ w.heap.size < B.heap.size := ⟨lt_of_heap EB.out, lt_of_heap EN.out⟩
   replace EN := hH ((hbx.block _ (lt_of_heap EN.out)).trans EN.out)
   replace EB := hH ((hbx.block _ (lt_of_heap EB.out)).trans EB.out)
   replace BW := hH (BW.out.trans (hbx.mono BW.out.size))
   obtain ⟨ZB, hblk⟩ : ∃ ZB, ZB = B.heap.size := ⟨_, rfl⟩
   rw [← hblk] at hne hlt ⊢
   skip
   have EZ := hH hne
   have LZ := hH hlt
   refine HK.out _ _ EN.out (fun hHeld => ?_)
   clear HK HS hnx hbx hne hlt hblk
   refine wpAnyH_ready (rs := [2]) (by kernel_rfl) (by simp) ?_
   refine AllReadyH.cons (o := _) rfl (fun K hK => ?_) (AllReadyH.nil)
   rw [if_pos (by rfl)]
   simp only [pg3]
   have HK := hH hK
   have HS := hH hHeld
   clear hK hHeld
   go_wp2_with fail
   obtain ⟨Z11, hnx⟩ : ∃ nx, nx = (World.alloc Z10 (.cells #[.slice la n c] 22)) := ⟨_, rfl⟩
   rw [← hnx]
   have hbx : Below Z10.heap.size Z10 Z11 := by rw [hnx]; exact zh _ _
   have hne : Z11.heap[Z10.heap.size]? = some (.cells #[.slice la n c] 22 (0, 0)) := by rw [hnx]; exact heap_alloc_new Z10 _
   have hlt : BB < Z10.heap.size ∧ w.heap.size < Z10.heap.size := ⟨lt_of_heap EB.out, lt_of_heap EN.out⟩
   replace EN := hH ((hbx.block _ (lt_of_heap EN.out)).trans EN.out)
   replace EB := hH ((hbx.block _ (lt_of_heap EB.out)).trans EB.out)
   replace EZ := hH ((hbx.block _ (lt_of_heap EZ.out)).trans EZ.out)
   replace BW := hH (BW.out.trans (hbx.mono BW.out.size))
   obtain ⟨R, hblk⟩ : ∃ R, R = Z10.heap.size := ⟨_, rfl⟩
   rw [← hblk] at hne hlt ⊢
   skip
   have ER := hH hne
   have LR := hH hlt
   refine HK.out _ _ EN.out (fun hHeld => ?_)
   clear HK HS hnx hbx hne hlt hblk
   refine wpAnyH_ready (rs := [3]) (by kernel_rfl) (by simp) ?_
   refine AllReadyH.cons (o := _) rfl (fun K hK => ?_) (AllReadyH.nil)
   rw [if_pos (by rfl)]
   simp only [pg3]
   have HK := hH hK
   have HS := hH hHeld
   clear hK hHeld
   go_wp2_with (go_at_call 24; refine (qO _ _ _ _).mono ?_; rintro e Z12 ⟨rfl, hnx⟩)
   have hbx : Below Z11.heap.size Z11 Z12 := by rw [← hnx]; exact zh _ _
   have hne : Z12.heap[Z11.heap.size]? = some (.cells #[.slice (some ⟨R, 0, none⟩) 1 1] 91 (0, 0)) := by rw [← hnx]; exact heap_alloc_new Z11 _
   have hlt : BB < Z11.heap.size ∧ w.heap.size < Z11.heap.size := ⟨lt_of_heap EB.out, lt_of_heap EN.out⟩
   replace EN := hH ((hbx.block _ (lt_of_heap EN.out)).trans EN.out)
   replace EB := hH ((hbx.block _ (lt_of_heap EB.out)).trans EB.out)
   replace EZ := hH ((hbx.block _ (lt_of_heap EZ.out)).trans EZ.out)
   replace ER := hH ((hbx.block _ (lt_of_heap ER.out)).trans ER.out)
   replace BW := hH (BW.out.trans (hbx.mono BW.out.size))
   obtain ⟨NB, hblk⟩ : ∃ NB, NB = Z11.heap.size := ⟨_, rfl⟩
   rw [← hblk] at hne hlt ⊢
   have EO := hH hne
   have LO := hH hlt
   refine HK.out _ _ EN.out (fun hHeld => ?_)
   clear HK HS hnx hbx hne hlt hblk
   refine wpAnyH_ready (rs := [5]) (by kernel_rfl) (by simp) ?_
   refine AllReadyH.cons (o := _) rfl (fun K hK => ?_) (AllReadyH.nil)
   rw [if_pos (by rfl)]
   simp only [pg3]
   have HK := hH hK
   have HS := hH hHeld
   clear hK hHeld
   have hfo := YA (X := Z12) (t := t) BW.out ⟨by have := HBB.out; omega, lt_of_heap EB.out⟩ (by have := LO.out; omega) (by have := LR.out; omega) HT.out.2.2.2.2.1 HT.out.2.2.2.2.2.2 HT.out.2.2.2.2.2.1 EO.out (by rw [← HT.out.2.2.2.1]; exact ER.out) EB.out HT.out.1 HT.out.2.2.1 HT.out.2.1
   have HFO := hH hfo
   clear hfo
   have HZL := hH (lt_of_heap EZ.out)
   go_wp2_with (go_at_call 39; refine HFO.out.mono ?_; rintro e Z13 ⟨v, kk, nn, rfl, hki, hdo⟩)
   obtain ⟨i2, k2, x2, a2, n2, c2⟩ := v
   simp only [NV.v]
   obtain ⟨xa, xm, xc, hbox, hrest⟩ := hdo.box
   replace EN := hH ((hki.2.2 _ (lt_of_heap EN.out) (by have := HBB.out; omega)).trans EN.out)
   replace EZ := hH ((hki.2.2 _ (lt_of_heap EZ.out) (by have := LZ.out; omega)).trans EZ.out)
   replace ER := hH ((hki.2.2 _ (lt_of_heap ER.out) (by have := LR.out; omega)).trans ER.out)
   replace EO := hH ((hki.2.2 _ (lt_of_heap EO.out) (by have := LO.out; omega)).trans EO.out)
   replace EB := hH hbox
   replace BW := hH hki.1
   have HRZ := hH (show ∃ G : Nat → Prop, G ZB ∧ qo w G BB t (steps vs) nn xa xm xc Z13 from ⟨_, ⟨by have := LZ.out; omega, HZL.out⟩, hrest⟩)
   refine HK.out _ _ EN.out (fun hHeld => ?_)
   clear HK HS HFO hki hdo hbox hrest
   refine tkH (i := 6) (.tuple #[.agg #[.int .i64 i2, .int .i64 k2, .string x2, .slice a2 n2 c2], .int .i64 (kk : Int), .int .i64 nn]) rfl (Or.inl ⟨by rfl, fun X _ => by clear hHeld; go_simp⟩) (by assumption) ?_
   simp only [Act.put, pg]
   refine tkH (i := 7) (.agg #[.int .i64 i2, .int .i64 k2, .string x2, .slice a2 n2 c2]) rfl (Or.inl ⟨by rfl, fun X _ => by clear hHeld; go_simp⟩) (by assumption) ?_
   simp only [Act.put, pg]
   refine tkH (i := 8) (.int .i64 (kk : Int)) rfl (Or.inl ⟨by rfl, fun X _ => by clear hHeld; go_simp⟩) (by assumption) ?_
   simp only [Act.put, pg]
   refine tkH (i := 9) (.int .i64 nn) rfl (Or.inl ⟨by rfl, fun X _ => by clear hHeld; go_simp⟩) (by assumption) ?_
   simp only [Act.put, pg]
   refine wpAnyH_ready (rs := [11]) (by kernel_rfl) (by simp) ?_
   refine AllReadyH.cons (o := _) rfl (fun K hK => ?_) AllReadyH.nil
   rw [if_pos (by rfl)]
   simp only [pg3]
   have HK := hH hK
   have HS := hH hHeld
   clear hK hHeld
   obtain ⟨z0, z1, z2, z3⟩ := zJ EZ.out
   have zf : ∀ j, Z13.frozen? ⟨ZB, j, none⟩ = false := fun j => frozen_of_row _ _ j _ _ EZ.out
   obtain ⟨V, hV, s1, s2, s3, s4, s5, s6⟩ := zu (u0 := .int .i64 i2) (u1 := .int .i64 k2) (u2 := .string x2) (u3 := .slice a2 n2 c2) EZ.out
   have hbV : Below w.heap.size w V := ⟨s3.trans BW.out.os, s4.trans BW.out.tape, s5.trans BW.out.output, by rw [s6]; exact BW.out.size, fun y hy => (s2 y (by have := LZ.out; omega)).trans (BW.out.block y hy)⟩
   have hNV := (s2 _ (by have := LZ.out; omega)).trans EN.out
   have hBV := (s2 BB (by have := LZ.out; omega)).trans EB.out
   have HEZ := hH EZ.out
   have HV := hH (aN hV (aN s2 (aN s6 hbV)))
   replace EN := hH hNV
   replace EB := hH hBV
   clear hV s1 s2 s3 s4 s5 s6 hbV hNV hBV
   go_wp2_with fail
   rw [← HV.out.1]
   refine HK.out _ _ EN.out (fun hHeld => ?_)
   clear HK HS z0 z1 z2 z3 zf
   refine tkH (i := 12) (.int .i64 (kk : Int)) rfl (Or.inl ⟨by rfl, fun X _ => by clear hHeld; go_simp⟩) (by assumption) ?_
   simp only [Act.put, pg]
   refine tkH (i := 13) (.int .i64 nn) rfl (Or.inl ⟨by rfl, fun X _ => by clear hHeld; go_simp⟩) (by assumption) ?_
   simp only [Act.put, pg]
   refine wpAnyH_done (by kernel_rfl) ?_ _
   clear hHeld
   have c0 : V.cell? ⟨BB, 0, none⟩ = some (.slice xa xm xc) := by rw [cell_of_row _ _ 0 _ _ _ EB.out]; rfl
   go_wp2_with fail
   go_ret2
   obtain ⟨G, hGz, hr⟩ := HRZ.out
   exact ⟨xa, xm, xc, nn, rfl, HV.out.2.2.2, G, hr.set hGz (LZ.out).1 HEZ.out HV.out.2.2.1 HV.out.2.1⟩
end Go.Proofs.YtonapijgfalpaaaGreat
