/-
  .
-/
import Derived.Deep.Cut
import Derived.Deep.RegionHeld
import Derived.Maps.AppendAt
import Derived.Test.YtonapijgfalpaaaGreatJSeqQw
import Derived.Test.YtonapijgfalpaaaGreatKOpsQw
import Derived.Test.YtonapijgfalpaaaGreatIInv4Qw
import Derived.Test.YtonapijgfalpaaaGreatVWalkQw
import Derived.Test.YtonapijgfalpaaaGreatJPgQw
set_option maxRecDepth 100000
set_option maxHeartbeats 40000000
set_option linter.unusedVariables false
set_option linter.unusedSimpArgs false
namespace Go.Proofs.YtonapijgfalpaaaGreat
open Go.RowKit Go.Shelf
def yK (op id par : Int) (x : Tr) : List Int := if op = 1 then par :: idT x else if op = 3 then [id, par] else [id]
theorem Jk (w : World) (Sx : Nat → Prop) (x : Tr) (op id par at_ : Int) (tx : ByteArray) (sa : Option Addr) (sn sc : Nat) (hSx : ∀ y, Sx y → y < w.heap.size) (hx : zL w Sx (.agg #[.int .i64 x.id, .int .i64 x.kind, .string x.text, .slice sa sn sc]) x) (hxz : ze x.kids + 1 ≤ 2000) (hop : (Lit.int .i8 op).wf = true) :
 Calls Tryz.prog 31 #[.agg #[.int .i8 op, .int .i64 id, .int .i64 par, .int .i64 at_, .string tx, .int .i64 x.id, .int .i64 x.kind, .string x.text, .slice sa sn sc]] w (Ju w (yK op id par x)) := by
 obtain ⟨xid, hxid⟩ : ∃ xid, xid = x.id := ⟨_, rfl⟩
 obtain ⟨xkd, hxkd⟩ : ∃ xkd, xkd = x.kind := ⟨_, rfl⟩
 obtain ⟨xtx, hxtx⟩ : ∃ xtx, xtx = x.text := ⟨_, rfl⟩
 rw [← hxid, ← hxkd, ← hxtx] at hx ⊢
 obtain ⟨B, hB⟩ : ∃ B, B = w.alloc (.cells #[.int .i8 op, .int .i64 id, .int .i64 par, .int .i64 at_, .string tx, .int .i64 xid, .int .i64 xkd, .string xtx, .slice sa sn sc] 49) := ⟨_, rfl⟩
 have hb : Below w.heap.size w B := by rw [hB]; exact zh _ _
 have hs0 : B.heap[w.heap.size]? = some (.cells #[.int .i8 op, .int .i64 id, .int .i64 par, .int .i64 at_, .string tx, .int .i64 xid, .int .i64 xkd, .string xtx, .slice sa sn sc] 49 (0, 0)) := by rw [hB]; exact heap_alloc_new _ _
 obtain ⟨ln, hln⟩ : ∃ ln, ln = (idT x).length := ⟨_, rfl⟩
 have HLP := hH (show 0 < ln ∧ ln ≤ 2000 by rw [hln, yL]; omega)
 have hi : ∀ X, Below B.heap.size B X → Calls Tryz.prog 57 #[.agg #[.int .i64 xid, .int .i64 xkd, .string xtx, .slice sa sn sc], .int .i64 2000] X (Ju X (idT x)) := fun X hX => by
  have hbx := hb.trans (hX.mono hb.size)
  exact zcg X Sx _ x 2000 (fun y hy => nL (hSx y hy) hbx.size) (hx.kept fun y hy => ⟨hy, hbx.block y (hSx y hy)⟩) (by omega) (by omega)
 have hc : ∀ X, Below B.heap.size B X → X.cell? ⟨w.heap.size, 0, none⟩ = some (.int .i8 op) ∧ X.cell? ⟨w.heap.size, 1, none⟩ = some (.int .i64 id) ∧ X.cell? ⟨w.heap.size, 2, none⟩ = some (.int .i64 par) ∧ X.cell? ⟨w.heap.size, 3, none⟩ = some (.int .i64 at_) ∧ X.cell? ⟨w.heap.size, 4, none⟩ = some (.string tx) ∧ X.cell? ⟨w.heap.size, 5, none⟩ = some (.int .i64 xid) ∧ X.cell? ⟨w.heap.size, 6, none⟩ = some (.int .i64 xkd) ∧ X.cell? ⟨w.heap.size, 7, none⟩ = some (.string xtx) ∧ X.cell? ⟨w.heap.size, 8, none⟩ = some (.slice sa sn sc) := fun X hX => yP ((hX.block _ (lt_of_heap hs0)).trans hs0)
 have HI := hH hi
 have HC := hH hc
 have HB := hH (aN hb hs0)
 have HBE := hH hB
 have HBW := hH hb
 have HLN := hH hln
 have hob := Jh hop
 obtain ⟨bb, hbb⟩ : ∃ bb, bb = w.heap.size := ⟨_, rfl⟩
 have HBB := hH hbb
 clear hi hb hs0 hB hSx hx hxz hop hc hxid hxkd hxtx hln
 go_enter Tryz.func31, Tryz.ntmps31
 go_upto_region 1 with fail
 rw [← HBE.out, ← hbb]
 rw [← hbb] at HC HB
 obtain ⟨k0, k1, k2, k3, k4, k5, k6, k7, k8⟩ := HC.out B (Below.refl _ _)
 clear hbb HBE
 by_cases h1 : op = 1
 · have HNM := hH (show yK op id par x = par :: idT x by rw [yK, if_pos h1])
   have hb1 : (op == 1) = true := by simpa using h1
   clear hob
   have H1 := hH h1
   clear h1
   go_upto_region 3 with fail
   clear k0 k1 k2 k3 k4 k5 k6 k7 k8 hb1
   refine wp_region_held_drew (S := fun X => Below B.heap.size B X) (by kernel_rfl) (below_drewN (Below.refl _ B) 1) (fun hHeld => ?_)
   refine tkH (i := 0) (.pointer (some ⟨bb, 2, none⟩)) rfl (Or.inl ⟨by rfl, ?_⟩) (by assumption) ?_
   · clear hHeld; intro X hSw; obtain ⟨k0, k1, k2, k3, k4, k5, k6, k7, k8⟩ := HC.out X hSw; clear hSw; go_simp
   simp only [Act.put, pg]
   refine tkH (i := 1) (.int .i64 par) rfl (Or.inl ⟨by rfl, ?_⟩) (by assumption) ?_
   · clear hHeld; intro X hSw; obtain ⟨k0, k1, k2, k3, k4, k5, k6, k7, k8⟩ := HC.out X hSw; clear hSw; go_simp
   simp only [Act.put, pg]
   refine tkH (i := 3) (.pointer (some ⟨bb, 5, none⟩)) rfl (Or.inl ⟨by rfl, ?_⟩) (by assumption) ?_
   · clear hHeld; intro X hSw; obtain ⟨k0, k1, k2, k3, k4, k5, k6, k7, k8⟩ := HC.out X hSw; clear hSw; go_simp
   simp only [Act.put, pg]
   refine tkH (i := 4) (.agg #[.int .i64 xid, .int .i64 xkd, .string xtx, .slice sa sn sc]) rfl (Or.inl ⟨by rfl, ?_⟩) (by assumption) ?_
   · clear hHeld; intro X hSw; obtain ⟨k0, k1, k2, k3, k4, k5, k6, k7, k8⟩ := HC.out X hSw; clear hSw; go_simp
   simp only [Act.put, pg]
   refine wpAnyH_ready (rs := [2, 5]) (by kernel_rfl) (by simp) ?_
   refine AllReadyH.cons (o := _) rfl (fun K hK => ?_) (AllReadyH.cons (o := _) rfl (fun K hK => ?_) AllReadyH.nil)
   · skip
     rw [if_pos (by rfl)]
     simp only [pg3]
     have HK := hH hK
     have HS := hH hHeld
     clear hK hHeld
     go_wp2_with fail
     obtain ⟨WA, hWA⟩ : ∃ WA, WA = (World.alloc B (.cells #[.int .i64 par] 3)).drew := ⟨_, rfl⟩
     rw [← hWA]
     obtain ⟨pb, hpb⟩ : ∃ pb, pb = B.heap.size := ⟨_, rfl⟩
     have hro : WA.ownsRow B.heap.size 3 1 (.slice (some ⟨pb, 0, none⟩) 1 1) 1 [.int .i64 par] := by rw [hWA, hpb]; exact World.ownsRow_lit B #[.int .i64 par] 1 (Nat.le_refl _) (by unfold maxLen; omega) rfl
     have hba : Below B.heap.size B WA := by rw [hWA]; exact below_drewN (zh _ _) 1
     have hbc : Below B.heap.size B WA := by rw [hWA]; exact below_drewN (zh _ _) 1
     have HR := hH hro
     have HA := hH (aN hba hbc)
     rw [← hpb]
     refine HK.out _ _ hba (fun hHeld => ?_)
     clear HK HS hro hba hbc hWA hpb
     refine wpAnyH_ready (rs := [5]) (by kernel_rfl) (by simp) ?_
     refine AllReadyH.cons (o := _) rfl (fun K hK => ?_) AllReadyH.nil
     rw [if_pos (by rfl)]
     simp only [pg3]
     have HK := hH hK
     have HS := hH hHeld
     clear hK hHeld
     go_wp2_with (go_at_call 57; refine (HI.out _ HS.out).mono ?_; rintro e w4 ⟨ia, ic, rfl, hio, hib⟩; have HIO := hH (aN hio hib); clear hio hib)
     rw [← HLN.out] at HIO ⊢
     refine HK.out _ _ (HS.out.trans (HIO.out.2.mono HS.out.size)) (fun hHeld => ?_)
     clear HK HS
     refine wpAnyH_ready (rs := [6]) (by kernel_rfl) (by simp) ?_
     refine AllReadyH.cons (o := _) rfl (fun K hK => ?_) AllReadyH.nil
     have HK := hH hK
     have HS := hH hHeld
     clear hK hHeld
     obtain ⟨i0, hi0, hz0, hz1, hz2⟩ := info_parts Tryz.kw
     have hro := zB (w' := w4) HR.out (fun g cur hg _ => HIO.out.2.block g (lt_of_heap hg))
     have hio := HIO.out.1
     have hpos := HLP.out
     obtain ⟨ig, ic2, e, _⟩ := hio.form (by omega)
     cases e
     obtain ⟨v', Z, hrun, hown, hgr, _, _⟩ := run_append_own_at (P := Tryz.prog) w4 B.heap.size 30 30 3 i0 _ 1 8 Tryz.underlying30 hi0 hz0 hz1 hz2 rfl (by decide) _ _ _ hro ⟨ig, 0, none⟩ ln ic ((idT x).map qF) (by rw [List.length_map, ← HLN.out, Nat.mul_one]) (fun j v hj => by rw [Addr.add_mid, Nat.zero_add]; exact zy hio rfl j v hj) (fun v hv => by obtain ⟨z, _, rfl⟩ := List.mem_map.1 hv; rfl) (by unfold maxLen; omega) (by omega) HS.out.size
     obtain ⟨a', c', rfl⟩ := zw hown
     have hbZ : Below B.heap.size B Z := HS.out.grown hgr HS.out.size (fun k hk => (zq hro hk).1)
     have HE := hH (aN hown hbZ)
     clear hown hgr hi0 hz0 hz1 hz2 hpos
     refine yY rfl (.tmp 9) (.tmp 12) 30 30 rfl (.slice (some ⟨pb, 0, none⟩) 1 1) (.slice (some ⟨ig, 0, none⟩) ln ic) (by simp [Act.eval, Act.put]) (by simp [Act.eval, Act.put]) hrun (HK.out _ _ hbZ (fun hHeld => ?_))
     simp only [Act.put, pg]
     clear HK HS hrun hbZ
     refine tkH (i := 7) (.slice a' (1 + ln) c') rfl (Or.inl ⟨by rfl, ?_⟩) (by assumption) ?_
     · clear hHeld; intro X hSw; obtain ⟨k0, k1, k2, k3, k4, k5, k6, k7, k8⟩ := HC.out X hSw; clear hSw; go_simp
     simp only [Act.put, pg]
     refine wpAnyH_done (by kernel_rfl) ?_ _
     clear hHeld
     go_wp2_with fail
     go_ret
     refine ⟨a', c', ?_, ?_, HBW.out.trans (HE.out.2.mono HBW.out.size)⟩
     · rw [HNM.out, List.length_cons, ← HLN.out, Nat.add_comm]; rfl
     · rw [HNM.out, List.length_cons, ← HLN.out, Nat.add_comm ln 1]; exact kg HE.out.1 HBW.out.size
   · skip
     rw [if_pos (by rfl)]
     simp only [pg3]
     have HK := hH hK
     have HS := hH hHeld
     clear hK hHeld
     go_wp2_with (go_at_call 57; refine (HI.out _ HS.out).mono ?_; rintro e w4 ⟨ia, ic, rfl, hio, hib⟩; have HIO := hH (aN hio hib); clear hio hib)
     rw [← HLN.out] at HIO ⊢
     refine HK.out _ _ (HS.out.trans (HIO.out.2.mono HS.out.size)) (fun hHeld => ?_)
     clear HK HS
     refine wpAnyH_ready (rs := [2]) (by kernel_rfl) (by simp) ?_
     refine AllReadyH.cons (o := _) rfl (fun K hK => ?_) AllReadyH.nil
     rw [if_pos (by rfl)]
     simp only [pg3]
     have HK := hH hK
     have HS := hH hHeld
     clear hK hHeld
     go_wp2_with fail
     obtain ⟨WA, hWA⟩ : ∃ WA, WA = (World.alloc w4 (.cells #[.int .i64 par] 3)) := ⟨_, rfl⟩
     rw [← hWA]
     obtain ⟨pb, hpb⟩ : ∃ pb, pb = w4.heap.size := ⟨_, rfl⟩
     have hro : WA.ownsRow B.heap.size 3 1 (.slice (some ⟨pb, 0, none⟩) 1 1) 1 [.int .i64 par] := by rw [hWA, hpb]; exact World.ownsRow_lit w4 #[.int .i64 par] 1 HS.out.size (by unfold maxLen; omega) rfl
     have hba : Below B.heap.size B WA := by rw [hWA]; exact HS.out.alloc HS.out.size _
     have hbc : Below w4.heap.size w4 WA := by rw [hWA]; exact zh _ _
     have HR := hH hro
     have HA := hH (aN hba hbc)
     rw [← hpb]
     refine HK.out _ _ hba (fun hHeld => ?_)
     clear HK HS hro hba hbc hWA hpb
     refine wpAnyH_ready (rs := [6]) (by kernel_rfl) (by simp) ?_
     refine AllReadyH.cons (o := _) rfl (fun K hK => ?_) AllReadyH.nil
     have HK := hH hK
     have HS := hH hHeld
     clear hK hHeld
     obtain ⟨i0, hi0, hz0, hz1, hz2⟩ := info_parts Tryz.kw
     have hro := HR.out
     have hio := zB (w' := WA) HIO.out.1 (fun g cur hg _ => HA.out.2.block g (lt_of_heap hg))
     have hpos := HLP.out
     obtain ⟨ig, ic2, e, _⟩ := hio.form (by omega)
     cases e
     obtain ⟨v', Z, hrun, hown, hgr, _, _⟩ := run_append_own_at (P := Tryz.prog) WA B.heap.size 30 30 3 i0 _ 1 8 Tryz.underlying30 hi0 hz0 hz1 hz2 rfl (by decide) _ _ _ hro ⟨ig, 0, none⟩ ln ic ((idT x).map qF) (by rw [List.length_map, ← HLN.out, Nat.mul_one]) (fun j v hj => by rw [Addr.add_mid, Nat.zero_add]; exact zy hio rfl j v hj) (fun v hv => by obtain ⟨z, _, rfl⟩ := List.mem_map.1 hv; rfl) (by unfold maxLen; omega) (by omega) HS.out.size
     obtain ⟨a', c', rfl⟩ := zw hown
     have hbZ : Below B.heap.size B Z := HS.out.grown hgr HS.out.size (fun k hk => (zq hro hk).1)
     have HE := hH (aN hown hbZ)
     clear hown hgr hi0 hz0 hz1 hz2 hpos
     refine yY rfl (.tmp 9) (.tmp 12) 30 30 rfl (.slice (some ⟨pb, 0, none⟩) 1 1) (.slice (some ⟨ig, 0, none⟩) ln ic) (by simp [Act.eval, Act.put]) (by simp [Act.eval, Act.put]) hrun (HK.out _ _ hbZ (fun hHeld => ?_))
     simp only [Act.put, pg]
     clear HK HS hrun hbZ
     refine tkH (i := 7) (.slice a' (1 + ln) c') rfl (Or.inl ⟨by rfl, ?_⟩) (by assumption) ?_
     · clear hHeld; intro X hSw; obtain ⟨k0, k1, k2, k3, k4, k5, k6, k7, k8⟩ := HC.out X hSw; clear hSw; go_simp
     simp only [Act.put, pg]
     refine wpAnyH_done (by kernel_rfl) ?_ _
     clear hHeld
     go_wp2_with fail
     go_ret
     refine ⟨a', c', ?_, ?_, HBW.out.trans (HE.out.2.mono HBW.out.size)⟩
     · rw [HNM.out, List.length_cons, ← HLN.out, Nat.add_comm]; rfl
     · rw [HNM.out, List.length_cons, ← HLN.out, Nat.add_comm ln 1]; exact kg HE.out.1 HBW.out.size
 · by_cases h3 : op = 3
   · have HNM := hH (show yK op id par x = [id, par] by rw [yK, if_neg h1, if_pos h3])
     have hb1 : (op == 1) = false := by simpa using h1
     have hb3 : (op == 3) = true := by simpa using h3
     clear h1 h3 hob
     have hown := World.ownsRow_lit B #[.int .i64 id, .int .i64 par] 2 (e := 3) (size := 1) HBW.out.size (by unfold maxLen; omega) rfl
     have HW := hH hown
     clear hown
     go_wp2_with fail
     go_ret
     rw [HNM.out]
     refine ⟨some ⟨B.heap.size, 0, none⟩, 2, rfl, ?_, HBW.out.trans ((zh _ _).mono HBW.out.size)⟩
     exact HW.out
   · have HNM := hH (show yK op id par x = [id] by rw [yK, if_neg h1, if_neg h3])
     have hb1 : (op == 1) = false := by simpa using h1
     have hb3 : (op == 3) = false := by simpa using h3
     clear h1 h3 hob
     have hown := World.ownsRow_lit B #[.int .i64 id] 1 (e := 3) (size := 1) HBW.out.size (by unfold maxLen; omega) rfl
     have HW := hH hown
     clear hown
     go_wp2_with fail
     go_ret
     rw [HNM.out]
     refine ⟨some ⟨B.heap.size, 0, none⟩, 1, rfl, ?_, HBW.out.trans ((zh _ _).mono HBW.out.size)⟩
     exact HW.out
theorem JA : ∀ (f : Fo) (d : Nat), (spF d f).map (fun x => x.2.1.1) = idF f
 | .nil, _ => rfl
 | .node _ _ k l r, d => by simp [spF, idF, JA l, JA r]
theorem zcj (x : Tr) : (spF 1 (zm x)).map (fun x => x.2.1.1) = idT x := by rw [JA]; simp [zm, idF, idT]
def RNI (w w2 : World) (pb : Nat) (l : List Int) (par : Int) (n : Nat) (v : Value) (i : Value) (X : World) : Prop := ∃ k : Nat, k ≤ n ∧ i = .int .i64 (k : Int) ∧ X.ownsRow w.heap.size 3 1 v (k + 1) ((par :: l.take k).map qF) ∧ Below w.heap.size w X ∧ (∀ y, y < w2.heap.size → y ≠ pb → X.heap[y]? = w2.heap[y]?) ∧ w2.heap.size ≤ X.heap.size ∧ ∀ g, v.ownBlock = some g → g = pb ∨ w2.heap.size ≤ g
theorem zbL (w : World) (Sx : Nat → Prop) (x : Tr) (op id par at_ : Int) (tx : ByteArray) (sa : Option Addr) (sn sc : Nat) (hSx : ∀ y, Sx y → y < w.heap.size) (hx : zL w Sx (.agg #[.int .i64 x.id, .int .i64 x.kind, .string x.text, .slice sa sn sc]) x) (hxz : ze x.kids + 1 ≤ 2000) :
 Calls Tryz.prog 34 #[.agg #[.int .i8 op, .int .i64 id, .int .i64 par, .int .i64 at_, .string tx, .int .i64 x.id, .int .i64 x.kind, .string x.text, .slice sa sn sc]] w (Ju w (yK op id par x)) := by
 obtain ⟨xid, hxid⟩ : ∃ xid, xid = x.id := ⟨_, rfl⟩
 obtain ⟨xkd, hxkd⟩ : ∃ xkd, xkd = x.kind := ⟨_, rfl⟩
 obtain ⟨xtx, hxtx⟩ : ∃ xtx, xtx = x.text := ⟨_, rfl⟩
 rw [← hxid, ← hxkd, ← hxtx] at hx ⊢
 obtain ⟨B, hB⟩ : ∃ B, B = w.alloc (.cells #[.int .i8 op, .int .i64 id, .int .i64 par, .int .i64 at_, .string tx, .int .i64 xid, .int .i64 xkd, .string xtx, .slice sa sn sc] 49) := ⟨_, rfl⟩
 have hb : Below w.heap.size w B := by rw [hB]; exact zh _ _
 have hs0 : B.heap[w.heap.size]? = some (.cells #[.int .i8 op, .int .i64 id, .int .i64 par, .int .i64 at_, .string tx, .int .i64 xid, .int .i64 xkd, .string xtx, .slice sa sn sc] 49 (0, 0)) := by rw [hB]; exact heap_alloc_new _ _
 have HWK : Hid (∀ X, Below B.heap.size B X → Calls Tryz.prog 22 #[.agg #[.int .i64 xid, .int .i64 xkd, .string xtx, .slice sa sn sc], .int .i64 2000] X (WalkM X Sx x 2000)) := hH fun X hX => by
  have hbx := hb.trans (hX.mono hb.size)
  exact kv 2000 (by omega) X Sx _ x (by have := zX x.kids; omega) (jw _ (by omega)) (fun y hy => nL (hSx y hy) hbx.size) (hx.kept fun y hy => ⟨hy, hbx.block y (hSx y hy)⟩)
 have HC : Hid (∀ X, Below B.heap.size B X → X.cell? ⟨w.heap.size, 0, none⟩ = some (.int .i8 op) ∧ X.cell? ⟨w.heap.size, 1, none⟩ = some (.int .i64 id) ∧ X.cell? ⟨w.heap.size, 2, none⟩ = some (.int .i64 par) ∧ X.cell? ⟨w.heap.size, 3, none⟩ = some (.int .i64 at_) ∧ X.cell? ⟨w.heap.size, 4, none⟩ = some (.string tx) ∧ X.cell? ⟨w.heap.size, 5, none⟩ = some (.int .i64 xid) ∧ X.cell? ⟨w.heap.size, 6, none⟩ = some (.int .i64 xkd) ∧ X.cell? ⟨w.heap.size, 7, none⟩ = some (.string xtx) ∧ X.cell? ⟨w.heap.size, 8, none⟩ = some (.slice sa sn sc)) := hH fun X hX => yP ((hX.block _ (lt_of_heap hs0)).trans hs0)
 have hlq : ((spF 1 (zm x)).take 2000).length = (idT x).length ∧ ((spF 1 (zm x)).take 2000) = spF 1 (zm x) := by
  rw [List.take_of_length_le (by rw [zS, zI]; omega)]
  exact ⟨by rw [zS, zI, yL], rfl⟩
 have HLQ := hH hlq
 have HLL := hH (show (idT x).length ≤ 2000 by rw [yL]; omega)
 have HBE := hH hB
 have HBW := hH hb
 obtain ⟨i0, hi, hz0, hz1, hz2⟩ := info_parts Tryz.kw
 have HI := hH (aN hi (aN hz0 (aN hz1 hz2)))
 obtain ⟨bb, hbb⟩ : ∃ bb, bb = w.heap.size := ⟨_, rfl⟩
 clear hb hs0 hB hSx hx hxz hxid hxkd hxtx hlq hi hz0 hz1 hz2
 go_enter Tryz.func34, Tryz.ntmps34
 go_upto_region 1 with fail
 rw [← HBE.out, ← hbb]
 rw [← hbb] at HC
 clear hbb HBE
 obtain ⟨k0, k1, k2, k3, k4, k5, k6, k7, k8⟩ := HC.out B (Below.refl _ _)
 by_cases h3 : op = 3
 · have HNM := hH (show yK op id par x = [id, par] by rw [yK, if_neg (by omega), if_pos h3])
   have hb3 : (op == 3) = true := by simpa using h3
   have HW := hH (World.ownsRow_lit B #[.int .i64 id, .int .i64 par] 2 (e := 3) (size := 1) HBW.out.size (by unfold maxLen; omega) rfl)
   clear h3
   go_wp2_with fail
   go_ret
   rw [HNM.out]
   exact ⟨some ⟨B.heap.size, 0, none⟩, 2, rfl, HW.out, HBW.out.trans ((zh _ _).mono HBW.out.size)⟩
 by_cases h1 : op = 1
 rotate_left
 · have HNM := hH (show yK op id par x = [id] by rw [yK, if_neg h1, if_neg h3])
   have hb1 : (op == 1) = false := by simpa using h1
   have hb3 : (op == 3) = false := by simpa using h3
   have HW := hH (World.ownsRow_lit B #[.int .i64 id] 1 (e := 3) (size := 1) HBW.out.size (by unfold maxLen; omega) rfl)
   clear h1 h3
   go_wp2_with fail
   go_ret
   rw [HNM.out]
   exact ⟨some ⟨B.heap.size, 0, none⟩, 1, rfl, HW.out, HBW.out.trans ((zh _ _).mono HBW.out.size)⟩
 have HNM := hH (show yK op id par x = par :: idT x by rw [yK, if_pos h1])
 have hb1 : (op == 1) = true := by simpa using h1
 have hb3 : (op == 3) = false := by simpa using h3
 clear h1 h3
 have hown := World.ownsRow_lit B #[.int .i64 par] 1 (e := 3) (size := 1) (base := w.heap.size) HBW.out.size (by unfold maxLen; omega) rfl
 obtain ⟨W5, hW5⟩ : ∃ W5, W5 = B.alloc (.cells #[.int .i64 par] 3) := ⟨_, rfl⟩
 have hb5 : Below B.heap.size B W5 := by rw [hW5]; exact zh _ _
 rw [← hW5] at hown
 have HO5 := hH hown
 have HB5 := hH hb5
 have HW5 := hH hW5
 have HZ5 := hH (show W5.heap.size = B.heap.size + 1 by rw [hW5]; simp)
 obtain ⟨pb, hpb⟩ : ∃ pb, pb = B.heap.size := ⟨_, rfl⟩
 have HPB := hH hpb
 clear hown hb5 hW5
 go_upto_region 6 with fail
 change Code.wp _ _ _ _ (B.alloc (.cells #[.int .i64 par] 3))
 rw [← HW5.out, ← hpb]
 clear hpb HW5
 clear k0 k1 k2 k3 k4 k5 k6 k7 k8 hb1 hb3
 obtain ⟨k0, k1, k2, k3, k4, k5, k6, k7, k8⟩ := HC.out W5 HB5.out
 go_wp2_with fail
 refine (HWK.out W5 HB5.out).mono ?_
 rintro e w2 ⟨a, cap', rfl, ⟨hTl, xs, ho, hx⟩, hb2⟩
 rw [HLQ.out.1] at ho ⊢
 rw [HLQ.out.2] at hx
 obtain ⟨q, hq⟩ : ∃ q, q = (idT x).length := ⟨_, rfl⟩
 rw [← hq] at ho ⊢
 have hq5 : q ≤ 2000 := by rw [hq]; exact HLL.out
 have HQ := hH hq
 have HO := hH (aN ho hx)
 have hbw2 : Below w.heap.size w w2 := HBW.out.trans ((HB5.out.trans (hb2.mono HB5.out.size)).mono HBW.out.size)
 have HI0 : Hid (RNI w w2 pb (idT x) par q (.slice (some ⟨pb, 0, none⟩) 1 1) (.int .i64 0) w2) := hH ⟨0, Nat.zero_le _, rfl, by
  have h := zB (w' := w2) HO5.out (fun g cur hg _ => hb2.block g (lt_of_heap hg))
  rw [HPB.out]; exact h, hbw2, fun _ _ _ => rfl, Nat.le_refl _, fun g hg => by cases hg; exact Or.inl rfl⟩
 have HPW := hH (show pb < W5.heap.size ∧ W5.heap.size ≤ w2.heap.size by rw [HPB.out, HZ5.out]; exact ⟨Nat.lt_succ_self _, by have := hb2.size; rw [HZ5.out] at this; exact this⟩)
 have HIN := hH hx
 clear hb2 ho hx hTl hq hbw2 k0 k1 k2 k3 k4 k5 k6 k7 k8
 go_wp2_with fail
 go_loopw [3, 5] (fun v i wr => Hid (RNI w w2 pb (idT x) par q v i wr)) (fun _ i _ => q - (intOf i).toNat)
 case atStart => exact HI0
 case round =>
  obtain ⟨k, hk, rfl, hown, hbr, hkp, hsz, hpl⟩ := hrel.out
  clear hrel HI0
  obtain ⟨ra, rc, rfl⟩ := zw hown
  have HR := hH (aN hown (aN hbr (aN hkp (aN hsz hpl))))
  by_cases hlt : k < q
  · obtain ⟨y, hy⟩ : ∃ y, (spF 1 (zm x))[k]? = some y := ⟨_, List.getElem?_eq_getElem (by rw [zS, zI, ← yL, ← HQ.out]; exact hlt)⟩
    have hsx := (HO.out.2 k y hy).1
    have ho := HO.out.1
    have hgg : ∃ g, a = some ⟨g, 0, none⟩ := by
     rcases ho.2 with ⟨hv, h0⟩ | ⟨g, cap2, cur, hv, _⟩
     · omega
     · cases hv; exact ⟨g, rfl⟩
    obtain ⟨g, rfl⟩ := hgg
    have hgb := zq ho (g := g) rfl
    have c0 : w2.cell? ⟨g, k * 5, none⟩ = some (.int .i64 y.2.1.1) := zy ho rfl _ _ hsx
    have c1 : wr.cell? ⟨g, k * 5, none⟩ = some (.int .i64 y.2.1.1) := (World.cell?_of_block (hkp g hgb.2 (by have := HPW.out.1; omega))).trans c0
    have hkl : (k : Int) < (q : Int) := by omega
    have hey : (idT x)[k]? = some y.2.1.1 := by rw [← zcj, List.getElem?_map, hy]; rfl
    obtain ⟨nid, hnid⟩ : ∃ nid, nid = y.2.1.1 := ⟨_, rfl⟩
    rw [← hnid] at c1 hey
    have HEY := hH hey
    have HLT := hH hlt
    have hk5 : k ≤ 2000 := by omega
    clear ho hsx c0 hy hlt hnid hk hey hgb hown hbr hkp hsz hpl
    go_wp2_with (at_builtin; refine wpList_append_own_at _ rfl (.tmp 32) (.tmp 39) 30 rfl w.heap.size 3 i0 (.int .i64 0) 1 8 Tryz.underlying30 HI.out.1 HI.out.2.1 HI.out.2.2.1 HI.out.2.2.2 rfl (by decide) (.slice ra (k + 1) rc) (k + 1) _ rfl (HR.out.1.alloc _) ⟨wr.heap.size, 0, none⟩ 1 1 [.int .i64 nid] rfl rfl (World.news_of_block (cs := #[.int .i64 nid]) (heap_alloc_new wr _)) (by simp [Value.oneCell']) (by unfold maxLen; omega) (by omega) (by have := HR.out.2.1.size; simp; omega) ?_; intro v2 w4 hown hgrow _ hat; have HE := hH (aN hown (aN hgrow hat)); clear hown hgrow hat)
    refine ⟨hH ⟨k + 1, by have := HLT.out; omega, by go_num, ?_, ?_, ?_, ?_, ?_⟩, by have := HLT.out; simp [intOf]; omega⟩
    · have h1 := HE.out.1
      have e2 : (par :: (idT x).take (k + 1)).map qF = (par :: (idT x).take k).map qF ++ [.int .i64 nid] := by rw [List.take_add_one, HEY.out]; simp [qF]
      rw [e2]; exact h1
    · exact (HR.out.2.1.alloc HR.out.2.1.size _).grown HE.out.2.1 (by have := HR.out.2.1.size; simp; omega) (fun y hy => (zq HR.out.1 hy).1)
    · intro z hz hzp
      have h1 := HE.out.2.1.block z (by have := HR.out.2.2.2.1; simp; omega) (fun e => by rcases HR.out.2.2.2.2 z e.symm with h | h; exact hzp h; omega)
      exact h1.trans ((Below.heap_alloc _ _ _ (by have := HR.out.2.2.2.1; omega)).trans (HR.out.2.2.1 z hz hzp))
    · have h1 := HE.out.2.1.size; have h2 := HR.out.2.2.2.1; simp at h1; omega
    · intro z hz
      rcases HE.out.2.2 with h | h
      · rw [h] at hz; exact HR.out.2.2.2.2 z hz
      · rw [h] at hz; cases hz; exact Or.inr (by have := HR.out.2.2.2.1; simp; omega)
  · have hkl : ¬ (k : Int) < (q : Int) := by omega
    have hkq : k = q := by omega
    have HKQ := hH hkq
    clear hown hbr hkp hsz hpl hkq hk
    go_wp2_with fail
    go_ret
    rw [HNM.out]
    have h1 := HR.out.1
    rw [List.take_of_length_le (by rw [HKQ.out, HQ.out]; exact Nat.le_refl _)] at h1
    have e1 : (par :: idT x).length = k + 1 := by rw [List.length_cons, HKQ.out, HQ.out]
    exact ⟨ra, rc, by rw [e1]; rfl, by rw [e1]; exact h1, HR.out.2.1⟩
end Go.Proofs.YtonapijgfalpaaaGreat
