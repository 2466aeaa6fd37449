/-
  .
-/
import Derived.Deep.Cut
import Derived.Deep.RegionHeld
import Derived.Maps.AppendAt
import Derived.Test.YtonapijgfalpaaaJDoQw
import Derived.Test.YtonapijgfalpaaaKFreshQw
import Derived.Test.YtonapijgfalpaaaIInvEQw
import Derived.Test.YtonapijgfalpaaaJPgQw
namespace Go.Proofs.Ytonapijgfalpaaa
open Go.RowKit Go.Shelf
set_option linter.unusedVariables false
set_option linter.unusedSimpArgs false
def namesK (op id par : Int) (x : Tr) : List Int := if op = 1 then par :: idT x else if op = 3 then [id, par] else [id]
set_option maxRecDepth 100000 in
set_option maxHeartbeats 8000000 in
theorem names_any (w : World) (Sx : Nat → Prop) (x : Tr) (op id par at_ : Int) (tx : ByteArray) (sa : Option Addr) (sn sc : Nat) (hSx : ∀ y, Sx y → y < w.heap.size) (hx : TrAt w Sx (.agg #[.int .i64 x.id, .int .i64 x.kind, .string x.text, .slice sa sn sc]) x) (hxz : foSize x.kids + 1 ≤ 2000) (hop : (Lit.int .i8 op).wf = true) :
 Calls Try.prog 193 #[.agg #[.int .i8 op, .int .i64 id, .int .i64 par, .int .i64 at_, .string tx, .int .i64 x.id, .int .i64 x.kind, .string x.text, .slice sa sn sc]] w (IdsC w (namesK op id par x)) := by
 obtain ⟨xid, hxid⟩ : ∃ xid, xid = x.id := ⟨_, rfl⟩
 obtain ⟨xkd, hxkd⟩ : ∃ xkd, xkd = x.kind := ⟨_, rfl⟩
 obtain ⟨xtx, hxtx⟩ : ∃ xtx, xtx = x.text := ⟨_, rfl⟩
 rw [← hxid, ← hxkd, ← hxtx] at hx ⊢
 obtain ⟨B, hB⟩ : ∃ B, B = w.alloc (.cells #[.int .i8 op, .int .i64 id, .int .i64 par, .int .i64 at_, .string tx, .int .i64 xid, .int .i64 xkd, .string xtx, .slice sa sn sc] 47) := ⟨_, rfl⟩
 have hb : Below w.heap.size w B := by rw [hB]; exact box_below _ _
 have hs0 : B.heap[w.heap.size]? = some (.cells #[.int .i8 op, .int .i64 id, .int .i64 par, .int .i64 at_, .string tx, .int .i64 xid, .int .i64 xkd, .string xtx, .slice sa sn sc] 47 (0, 0)) := by rw [hB]; exact heap_alloc_new _ _
 obtain ⟨ln, hln⟩ : ∃ ln, ln = (idT x).length := ⟨_, rfl⟩
 have HLP := Lib.hid (show 0 < ln ∧ ln ≤ 2000 by rw [hln, idT_length]; omega)
 have hi : ∀ X, Below B.heap.size B X → Calls Try.prog 158 #[.agg #[.int .i64 xid, .int .i64 xkd, .string xtx, .slice sa sn sc], .int .i64 2000] X (IdsC X (idT x)) := fun X hX => by
  have hbx := hb.trans (hX.mono hb.size)
  exact ids_any X Sx _ x 2000 (fun y hy => Nat.lt_of_lt_of_le (hSx y hy) hbx.size) (hx.kept fun y hy => ⟨hy, hbx.block y (hSx y hy)⟩) (by omega) (by omega)
 have hc : ∀ X, Below B.heap.size B X → X.cell? ⟨w.heap.size, 0, none⟩ = some (.int .i8 op) ∧ X.cell? ⟨w.heap.size, 1, none⟩ = some (.int .i64 id) ∧ X.cell? ⟨w.heap.size, 2, none⟩ = some (.int .i64 par) ∧ X.cell? ⟨w.heap.size, 3, none⟩ = some (.int .i64 at_) ∧ X.cell? ⟨w.heap.size, 4, none⟩ = some (.string tx) ∧ X.cell? ⟨w.heap.size, 5, none⟩ = some (.int .i64 xid) ∧ X.cell? ⟨w.heap.size, 6, none⟩ = some (.int .i64 xkd) ∧ X.cell? ⟨w.heap.size, 7, none⟩ = some (.string xtx) ∧ X.cell? ⟨w.heap.size, 8, none⟩ = some (.slice sa sn sc) := fun X hX => box9 ((hX.block _ (lt_of_heap hs0)).trans hs0)
 have HI := Lib.hid hi
 have HC := Lib.hid hc
 have HB := Lib.hid (And.intro hb hs0)
 have HBE := Lib.hid hB
 have HBW := Lib.hid hb
 have HLN := Lib.hid hln
 have hob := i8_bounds hop
 obtain ⟨bb, hbb⟩ : ∃ bb, bb = w.heap.size := ⟨_, rfl⟩
 have HBB := Lib.hid hbb
 clear hi hb hs0 hB hSx hx hxz hop hc hxid hxkd hxtx hln
 go_enter Try.func193, Try.ntmps193
 go_upto_region 1 with fail
 rw [← HBE.out, ← hbb]
 rw [← hbb] at HC HB
 obtain ⟨k0, k1, k2, k3, k4, k5, k6, k7, k8⟩ := HC.out B (Below.refl _ _)
 clear hbb HBE
 by_cases h1 : op = 1
 · have HNM := Lib.hid (show namesK op id par x = par :: idT x by rw [namesK, if_pos h1])
   have hb1 : (op == 1) = true := by simpa using h1
   clear hob
   have H1 := Lib.hid h1
   clear h1
   go_upto_region 3 with fail
   clear k0 k1 k2 k3 k4 k5 k6 k7 k8 hb1
   refine wp_region_held_drew (S := fun X => Below B.heap.size B X) (by kernel_rfl) (below_drewN (Below.refl _ B) 1) (fun hHeld => ?_)
   refine tkH (i := 0) (.pointer (some ⟨bb, 2, none⟩)) rfl (Or.inl ⟨by rfl, ?_⟩) (by assumption) ?_
   · clear hHeld; intro X hSw; obtain ⟨k0, k1, k2, k3, k4, k5, k6, k7, k8⟩ := HC.out X hSw; clear hSw; go_simp
   simp only [Act.put, pg]
   refine tkH (i := 1) (.int .i64 par) rfl (Or.inl ⟨by rfl, ?_⟩) (by assumption) ?_
   · clear hHeld; intro X hSw; obtain ⟨k0, k1, k2, k3, k4, k5, k6, k7, k8⟩ := HC.out X hSw; clear hSw; go_simp
   simp only [Act.put, pg]
   refine tkH (i := 3) (.pointer (some ⟨bb, 5, none⟩)) rfl (Or.inl ⟨by rfl, ?_⟩) (by assumption) ?_
   · clear hHeld; intro X hSw; obtain ⟨k0, k1, k2, k3, k4, k5, k6, k7, k8⟩ := HC.out X hSw; clear hSw; go_simp
   simp only [Act.put, pg]
   refine tkH (i := 4) (.agg #[.int .i64 xid, .int .i64 xkd, .string xtx, .slice sa sn sc]) rfl (Or.inl ⟨by rfl, ?_⟩) (by assumption) ?_
   · clear hHeld; intro X hSw; obtain ⟨k0, k1, k2, k3, k4, k5, k6, k7, k8⟩ := HC.out X hSw; clear hSw; go_simp
   simp only [Act.put, pg]
   refine wpAnyH_ready (rs := [2, 5]) (by kernel_rfl) (by simp) ?_
   refine AllReadyH.cons (o := _) rfl (fun K hK => ?_) (AllReadyH.cons (o := _) rfl (fun K hK => ?_) AllReadyH.nil)
   · skip
     rw [if_pos (by rfl)]
     simp only [pg3]
     have HK := Lib.hid hK
     have HS := Lib.hid hHeld
     clear hK hHeld
     go_wp2_with fail
     obtain ⟨WA, hWA⟩ : ∃ WA, WA = (World.alloc B (.cells #[.int .i64 par] 3)).drew := ⟨_, rfl⟩
     rw [← hWA]
     obtain ⟨pb, hpb⟩ : ∃ pb, pb = B.heap.size := ⟨_, rfl⟩
     have hro : WA.ownsRow B.heap.size 3 1 (.slice (some ⟨pb, 0, none⟩) 1 1) 1 [.int .i64 par] := by rw [hWA, hpb]; exact World.ownsRow_lit B #[.int .i64 par] 1 (Nat.le_refl _) (by unfold maxLen; omega) rfl
     have hba : Below B.heap.size B WA := by rw [hWA]; exact below_drewN (box_below _ _) 1
     have hbc : Below B.heap.size B WA := by rw [hWA]; exact below_drewN (box_below _ _) 1
     have HR := Lib.hid hro
     have HA := Lib.hid (And.intro hba hbc)
     rw [← hpb]
     refine HK.out _ _ hba (fun hHeld => ?_)
     clear HK HS hro hba hbc hWA hpb
     refine wpAnyH_ready (rs := [5]) (by kernel_rfl) (by simp) ?_
     refine AllReadyH.cons (o := _) rfl (fun K hK => ?_) AllReadyH.nil
     rw [if_pos (by rfl)]
     simp only [pg3]
     have HK := Lib.hid hK
     have HS := Lib.hid hHeld
     clear hK hHeld
     go_wp2_with (go_at_call 158; refine (HI.out _ HS.out).mono ?_; rintro e w4 ⟨ia, ic, rfl, hio, hib⟩; have HIO := Lib.hid (And.intro hio hib); clear hio hib)
     rw [← HLN.out] at HIO ⊢
     refine HK.out _ _ (HS.out.trans (HIO.out.2.mono HS.out.size)) (fun hHeld => ?_)
     clear HK HS
     refine wpAnyH_ready (rs := [6]) (by kernel_rfl) (by simp) ?_
     refine AllReadyH.cons (o := _) rfl (fun K hK => ?_) AllReadyH.nil
     have HK := Lib.hid hK
     have HS := Lib.hid hHeld
     clear hK hHeld
     obtain ⟨i0, hi0, hz0, hz1, hz2⟩ := info_parts Try.infoInt
     have hro := owns_kept (w' := w4) HR.out (fun g cur hg _ => HIO.out.2.block g (lt_of_heap hg))
     have hio := HIO.out.1
     have hpos := HLP.out
     obtain ⟨ig, ic2, e, _⟩ := hio.form (by omega)
     cases e
     obtain ⟨v', Z, hrun, hown, hgr, _, _⟩ := run_append_own_at (P := Try.prog) w4 B.heap.size 64 64 3 i0 _ 1 8 Try.underlying64 hi0 hz0 hz1 hz2 rfl (by decide) _ _ _ hro ⟨ig, 0, none⟩ ln ic ((idT x).map intV) (by rw [List.length_map, ← HLN.out, Nat.mul_one]) (fun j v hj => by rw [Addr.add_mid, Nat.zero_add]; exact owns_cell hio rfl j v hj) (fun v hv => by obtain ⟨z, _, rfl⟩ := List.mem_map.1 hv; rfl) (by unfold maxLen; omega) (by omega) HS.out.size
     obtain ⟨a', c', rfl⟩ := owns_slice hown
     have hbZ : Below B.heap.size B Z := HS.out.grown hgr HS.out.size (fun k hk => (owns_bounds hro hk).1)
     have HE := Lib.hid (And.intro hown hbZ)
     clear hown hgr hi0 hz0 hz1 hz2 hpos
     refine step_append_runI rfl (.tmp 9) (.tmp 12) 64 64 rfl (.slice (some ⟨pb, 0, none⟩) 1 1) (.slice (some ⟨ig, 0, none⟩) ln ic) (by simp [Act.eval, Act.put]) (by simp [Act.eval, Act.put]) hrun (HK.out _ _ hbZ (fun hHeld => ?_))
     simp only [Act.put, pg]
     clear HK HS hrun hbZ
     refine tkH (i := 7) (.slice a' (1 + ln) c') rfl (Or.inl ⟨by rfl, ?_⟩) (by assumption) ?_
     · clear hHeld; intro X hSw; obtain ⟨k0, k1, k2, k3, k4, k5, k6, k7, k8⟩ := HC.out X hSw; clear hSw; go_simp
     simp only [Act.put, pg]
     refine wpAnyH_done (by kernel_rfl) ?_ _
     clear hHeld
     go_wp2_with fail
     go_ret
     refine ⟨a', c', ?_, ?_, HBW.out.trans (HE.out.2.mono HBW.out.size)⟩
     · rw [HNM.out, List.length_cons, ← HLN.out, Nat.add_comm]; rfl
     · rw [HNM.out, List.length_cons, ← HLN.out, Nat.add_comm ln 1]; exact own_base HE.out.1 HBW.out.size
   · skip
     rw [if_pos (by rfl)]
     simp only [pg3]
     have HK := Lib.hid hK
     have HS := Lib.hid hHeld
     clear hK hHeld
     go_wp2_with (go_at_call 158; refine (HI.out _ HS.out).mono ?_; rintro e w4 ⟨ia, ic, rfl, hio, hib⟩; have HIO := Lib.hid (And.intro hio hib); clear hio hib)
     rw [← HLN.out] at HIO ⊢
     refine HK.out _ _ (HS.out.trans (HIO.out.2.mono HS.out.size)) (fun hHeld => ?_)
     clear HK HS
     refine wpAnyH_ready (rs := [2]) (by kernel_rfl) (by simp) ?_
     refine AllReadyH.cons (o := _) rfl (fun K hK => ?_) AllReadyH.nil
     rw [if_pos (by rfl)]
     simp only [pg3]
     have HK := Lib.hid hK
     have HS := Lib.hid hHeld
     clear hK hHeld
     go_wp2_with fail
     obtain ⟨WA, hWA⟩ : ∃ WA, WA = (World.alloc w4 (.cells #[.int .i64 par] 3)) := ⟨_, rfl⟩
     rw [← hWA]
     obtain ⟨pb, hpb⟩ : ∃ pb, pb = w4.heap.size := ⟨_, rfl⟩
     have hro : WA.ownsRow B.heap.size 3 1 (.slice (some ⟨pb, 0, none⟩) 1 1) 1 [.int .i64 par] := by rw [hWA, hpb]; exact World.ownsRow_lit w4 #[.int .i64 par] 1 HS.out.size (by unfold maxLen; omega) rfl
     have hba : Below B.heap.size B WA := by rw [hWA]; exact HS.out.alloc HS.out.size _
     have hbc : Below w4.heap.size w4 WA := by rw [hWA]; exact box_below _ _
     have HR := Lib.hid hro
     have HA := Lib.hid (And.intro hba hbc)
     rw [← hpb]
     refine HK.out _ _ hba (fun hHeld => ?_)
     clear HK HS hro hba hbc hWA hpb
     refine wpAnyH_ready (rs := [6]) (by kernel_rfl) (by simp) ?_
     refine AllReadyH.cons (o := _) rfl (fun K hK => ?_) AllReadyH.nil
     have HK := Lib.hid hK
     have HS := Lib.hid hHeld
     clear hK hHeld
     obtain ⟨i0, hi0, hz0, hz1, hz2⟩ := info_parts Try.infoInt
     have hro := HR.out
     have hio := owns_kept (w' := WA) HIO.out.1 (fun g cur hg _ => HA.out.2.block g (lt_of_heap hg))
     have hpos := HLP.out
     obtain ⟨ig, ic2, e, _⟩ := hio.form (by omega)
     cases e
     obtain ⟨v', Z, hrun, hown, hgr, _, _⟩ := run_append_own_at (P := Try.prog) WA B.heap.size 64 64 3 i0 _ 1 8 Try.underlying64 hi0 hz0 hz1 hz2 rfl (by decide) _ _ _ hro ⟨ig, 0, none⟩ ln ic ((idT x).map intV) (by rw [List.length_map, ← HLN.out, Nat.mul_one]) (fun j v hj => by rw [Addr.add_mid, Nat.zero_add]; exact owns_cell hio rfl j v hj) (fun v hv => by obtain ⟨z, _, rfl⟩ := List.mem_map.1 hv; rfl) (by unfold maxLen; omega) (by omega) HS.out.size
     obtain ⟨a', c', rfl⟩ := owns_slice hown
     have hbZ : Below B.heap.size B Z := HS.out.grown hgr HS.out.size (fun k hk => (owns_bounds hro hk).1)
     have HE := Lib.hid (And.intro hown hbZ)
     clear hown hgr hi0 hz0 hz1 hz2 hpos
     refine step_append_runI rfl (.tmp 9) (.tmp 12) 64 64 rfl (.slice (some ⟨pb, 0, none⟩) 1 1) (.slice (some ⟨ig, 0, none⟩) ln ic) (by simp [Act.eval, Act.put]) (by simp [Act.eval, Act.put]) hrun (HK.out _ _ hbZ (fun hHeld => ?_))
     simp only [Act.put, pg]
     clear HK HS hrun hbZ
     refine tkH (i := 7) (.slice a' (1 + ln) c') rfl (Or.inl ⟨by rfl, ?_⟩) (by assumption) ?_
     · clear hHeld; intro X hSw; obtain ⟨k0, k1, k2, k3, k4, k5, k6, k7, k8⟩ := HC.out X hSw; clear hSw; go_simp
     simp only [Act.put, pg]
     refine wpAnyH_done (by kernel_rfl) ?_ _
     clear hHeld
     go_wp2_with fail
     go_ret
     refine ⟨a', c', ?_, ?_, HBW.out.trans (HE.out.2.mono HBW.out.size)⟩
     · rw [HNM.out, List.length_cons, ← HLN.out, Nat.add_comm]; rfl
     · rw [HNM.out, List.length_cons, ← HLN.out, Nat.add_comm ln 1]; exact own_base HE.out.1 HBW.out.size
 · by_cases h3 : op = 3
   · have HNM := Lib.hid (show namesK op id par x = [id, par] by rw [namesK, if_neg h1, if_pos h3])
     have hb1 : (op == 1) = false := by simpa using h1
     have hb3 : (op == 3) = true := by simpa using h3
     clear h1 h3 hob
     have hown := World.ownsRow_lit B #[.int .i64 id, .int .i64 par] 2 (e := 3) (size := 1) HBW.out.size (by unfold maxLen; omega) rfl
     have HW := Lib.hid hown
     clear hown
     go_wp2_with fail
     go_ret
     rw [HNM.out]
     refine ⟨some ⟨B.heap.size, 0, none⟩, 2, rfl, ?_, HBW.out.trans ((box_below _ _).mono HBW.out.size)⟩
     exact HW.out
   · have HNM := Lib.hid (show namesK op id par x = [id] by rw [namesK, if_neg h1, if_neg h3])
     have hb1 : (op == 1) = false := by simpa using h1
     have hb3 : (op == 3) = false := by simpa using h3
     clear h1 h3 hob
     have hown := World.ownsRow_lit B #[.int .i64 id] 1 (e := 3) (size := 1) HBW.out.size (by unfold maxLen; omega) rfl
     have HW := Lib.hid hown
     clear hown
     go_wp2_with fail
     go_ret
     rw [HNM.out]
     refine ⟨some ⟨B.heap.size, 0, none⟩, 1, rfl, ?_, HBW.out.trans ((box_below _ _).mono HBW.out.size)⟩
     exact HW.out
end Go.Proofs.Ytonapijgfalpaaa
