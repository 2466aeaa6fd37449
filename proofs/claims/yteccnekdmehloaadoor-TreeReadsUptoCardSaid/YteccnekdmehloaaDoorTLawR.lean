/-
  What TreeReads answers: true. Its condition: the tables that a program starts with, and that the tree's bytes are not too many.
-/
import Derived.Test.YteccnekdmehloaaDoorTConv
import Derived.Test.YteccnekdmehloaaDoorEWakes
import Derived.Test.YteccnekdmehloaaDoorRSame
namespace Go.Proofs.YteccnekdmehloaaDoor
open Go.RowKit Go.Shelf
set_option linter.unusedVariables false
set_option linter.unusedSimpArgs false

theorem box4 {w : World} {b : Nat} {c0 c1 c2 c3 : Value} {T : TypeId} (h : w.heap[b]? = some (.cells #[c0, c1, c2, c3] T (0, 0))) : w.cell? ⟨b, 0, none⟩ = some c0 ∧ w.cell? ⟨b, 1, none⟩ = some c1 ∧ w.cell? ⟨b, 2, none⟩ = some c2 ∧ w.cell? ⟨b, 3, none⟩ = some c3 := four_cell h
theorem bx_below (w : World) (o : Obj) : Below w.heap.size w (w.alloc o) := (Below.refl _ _).alloc (Nat.le_refl _) _
def YesR (w : World) (e : Ending) (w' : World) : Prop := e = .returned (.bool true) ∧ Below w.heap.size w w'
theorem readT_fit (bs : List UInt8) (hb : bs.length ≤ 100000000 ∨ 65536 < bs.length) : foLen (readT bs).1.kids ≤ 9223372036854775807 ∧ foFit (readT bs).1.kids := by
  by_cases hl : bs.length ≤ 65536
  · have h := fits_vl (s := ⟨bs, 0, false⟩) (by simp only; omega)
    rw [read_eq bs hl]
    split
    · exact ⟨Nat.zero_le _, True.intro⟩
    · exact h
  · unfold readT
    rw [if_pos (by omega)]
    exact ⟨Nat.zero_le _, True.intro⟩
set_option maxRecDepth 100000 in
set_option maxHeartbeats 8000000 in
theorem treeReads_any (w : World) (S : Nat → Prop) (nv : Value) (t : Tr) (ba : Option Addr) (n bc : Nat) (bs : List UInt8) (htab : ∀ X, Below w.heap.size w X → Tab X) (hS : ∀ y, S y → y < w.heap.size) (ht : TrAt w S nv t) (hlen : foLen t.kids ≤ 9223372036854775807) (hfit : foFit t.kids) (hn : n = bs.length) (hby : ByAt w ba bs) (hbc : bs.length ≤ bc ∧ (bc : Int) ≤ 9223372036854775807) (hl : (encT t).length ≤ 100000000000) :
    Calls Tryd.prog 3 #[.slice ba n bc, nv] w (YesR w) := by
  obtain ⟨ka, tc, rfl, hcap, hk⟩ := ht
  obtain ⟨nk, hnk⟩ : ∃ n, n = foLen t.kids := ⟨_, rfl⟩
  obtain ⟨B, hB⟩ : ∃ B, B = w.alloc (.cells #[.int .i64 t.id, .int .i64 t.kind, .string t.text, .slice ka nk tc] 25) := ⟨_, rfl⟩
  have hb : Below w.heap.size w B := by rw [hB]; exact bx_below _ _
  have hbt : B.heap[w.heap.size]? = some (.cells #[.int .i64 t.id, .int .i64 t.kind, .string t.text, .slice ka nk tc] 25 (0, 0)) := by rw [hB]; exact heap_alloc_new w _
  have htr : ∀ X, Below w.heap.size w X → (∀ y, S y → y < X.heap.size) ∧ TrAt X S (.agg #[.int .i64 t.id, .int .i64 t.kind, .string t.text, .slice ka nk tc]) t := fun X hX => ⟨fun y hy => Nat.lt_of_lt_of_le (hS y hy) hX.size, ka, tc, by rw [hnk], hcap, hk.below hX hS⟩
  have hgr := great_tree B S _ t hlen hfit (htr B hb).1 (htr B hb).2
  rw [← hnk]
  have HG1 := Lib.hid hgr
  have HC := Lib.hid (And.intro hb (And.intro hB hbt))
  have HT := Lib.hid htr
  have HTAB := Lib.hid htab
  have HRD : Hid (∀ X, Below w.heap.size w X → Calls Tryd.prog 7 #[.slice ba n bc] X (TReadC X (readT bs))) := Lib.hid fun X hX => tread_any X ba bc n bs hn (hby.below hX)
  have HDD : Hid (∀ X, Below w.heap.size w X → Calls Tryd.prog 8 #[.slice ba n bc] X (TReadC X (readT bs))) := Lib.hid fun X hX => dread_any X ba bc n bs hn (hby.below hX) hbc
  have HTB : Hid (∀ X, Below w.heap.size w X → Calls Tryd.prog 10 #[.agg #[.int .i64 t.id, .int .i64 t.kind, .string t.text, .slice ka nk tc]] X (NewB X (encT t))) := Lib.hid fun X hX => tbytes_any X S _ t (htr X hX).1 (htr X hX).2 hl
  have HDB : Hid (∀ X, Below w.heap.size w X → Calls Tryd.prog 11 #[.agg #[.int .i64 t.id, .int .i64 t.kind, .string t.text, .slice ka nk tc]] X (NewB X (encT t))) := Lib.hid fun X hX => dbytes_any X S _ t (htr X hX).1 (htr X hX).2 hl
  have HFIT := Lib.hid (readT_fit bs (by omega))
  clear hgr hb hB hbt htr hnk hk hcap hS hlen hfit hn hby hbc hl htab
  go_enter Tryd.func3, Tryd.ntmps3
  go_wp2_with fail
  rw [← HC.out.2.1]
  refine HG1.out.mono ?_
  rintro e w2 ⟨g, rfl, _, hb2⟩
  have HB := Lib.hid (HC.out.1.trans (hb2.mono HC.out.1.size))
  have HBT := Lib.hid ((hb2.block _ (lt_of_heap HC.out.2.2)).trans HC.out.2.2)
  clear hb2 HG1
  cases g
  · go_wp2_with fail
    refine (HRD.out w2 HB.out).mono ?_
    obtain ⟨r, hr⟩ : ∃ r, r = readT bs := ⟨_, rfl⟩
    rw [← hr] at HFIT HRD HDD ⊢
    obtain ⟨u, at_, er⟩ := r
    simp only at HFIT
    rintro e w5 ⟨v1, rfl, ⟨ya, yc, rfl, hyc, hyk⟩, hb5⟩
    simp only at hyc hyk ⊢
    obtain ⟨um, hum⟩ : ∃ um, um = foLen u.kids := ⟨_, rfl⟩
    rw [← hum] at hyc ⊢
    obtain ⟨X1, hX1⟩ : ∃ X1, X1 = w5.alloc (.cells #[.int .i64 u.id, .int .i64 u.kind, .string u.text, .slice ya um yc] 25) := ⟨_, rfl⟩
    have hbx1 : Below w5.heap.size w5 X1 := by rw [hX1]; exact bx_below _ _
    have hx1 : X1.heap[w5.heap.size]? = some (.cells #[.int .i64 u.id, .int .i64 u.kind, .string u.text, .slice ya um yc] 25 (0, 0)) := by rw [hX1]; exact heap_alloc_new w5 _
    have hb35 : Below w2.heap.size w2 X1 := hb5.trans (hbx1.mono hb5.size)
    have HB5 := Lib.hid (HB.out.trans (hb35.mono HB.out.size))
    have HBT5 := Lib.hid ((hb35.block _ (lt_of_heap HBT.out)).trans HBT.out)
    have HY := Lib.hid (And.intro hx1 (And.intro (hyk.kept (w' := X1) (S' := fun y => y < w5.heap.size) (fun y hy => ⟨hy.2, hbx1.block y hy.2⟩)) (And.intro hyc (And.intro hum hbx1.size))))
    have HXE := Lib.hid hX1
    clear hr hb5 hyk hyc hum hbx1 hx1 hb35 hX1 HRD
    go_wp2_with fail
    rw [← HXE.out]
    refine (HDD.out X1 HB5.out).mono ?_
    rintro e w6 ⟨v2, rfl, ⟨za, zc, rfl, hzc, hzk⟩, hb6⟩
    simp only at hzc hzk ⊢
    rw [← HY.out.2.2.2.1] at hzc ⊢
    obtain ⟨X2, hX2⟩ : ∃ X2, X2 = w6.alloc (.cells #[.int .i64 u.id, .int .i64 u.kind, .string u.text, .slice za um zc] 25) := ⟨_, rfl⟩
    have hbx2 : Below w6.heap.size w6 X2 := by rw [hX2]; exact bx_below _ _
    have hx2 : X2.heap[w6.heap.size]? = some (.cells #[.int .i64 u.id, .int .i64 u.kind, .string u.text, .slice za um zc] 25 (0, 0)) := by rw [hX2]; exact heap_alloc_new w6 _
    have hb56 : Below X1.heap.size X1 X2 := hb6.trans (hbx2.mono hb6.size)
    have HB6 := Lib.hid (HB5.out.trans (hb56.mono HB5.out.size))
    have hy6 := (hb56.block _ (lt_of_heap HY.out.1)).trans HY.out.1
    have hyk6 := HY.out.2.1.kept (w' := X2) (S' := fun y => y < w5.heap.size) (fun y hy => ⟨hy, hb56.block y (by have := HY.out.2.2.2.2; omega)⟩)
    have hzk6 := hzk.kept (w' := X2) (S' := fun y => y < w6.heap.size) (fun y hy => ⟨hy.2, hbx2.block y hy.2⟩)
    have hb5s := HY.out.2.2.2.2
    have hb6s := hb56.size
    have hb2s := hbx2.size
    have HSN : Hid (∀ X, Below X2.heap.size X2 X → Calls Tryd.prog 9 #[.agg #[.int .i64 u.id, .int .i64 u.kind, .string u.text, .slice ya um yc], .agg #[.int .i64 u.id, .int .i64 u.kind, .string u.text, .slice za um zc]] X fun e w' => e = .returned (.bool true) ∧ Below X.heap.size X w') := Lib.hid fun X hX => by
      have h := same_any (foSize u.kids + 1) X (fun y => y < w5.heap.size) (fun y => y < w6.heap.size) (.agg #[.int .i64 u.id, .int .i64 u.kind, .string u.text, .slice ya (foLen u.kids) yc]) (.agg #[.int .i64 u.id, .int .i64 u.kind, .string u.text, .slice za (foLen u.kids) zc]) u u (Nat.lt_succ_self _) HFIT.out (fun y hy => by have := hX.size; omega) (fun y hy => by have := hX.size; omega) ⟨ya, yc, rfl, by rw [← HY.out.2.2.2.1]; exact HY.out.2.2.1, hyk6.kept (w' := X) (S' := fun y => y < w5.heap.size) (fun y hy => ⟨hy, hX.block y (by omega)⟩)⟩ ⟨za, zc, rfl, by rw [← HY.out.2.2.2.1]; exact hzc, hzk6.kept (w' := X) (S' := fun y => y < w6.heap.size) (fun y hy => ⟨hy, hX.block y (by omega)⟩)⟩
      rw [← HY.out.2.2.2.1] at h
      refine h.mono ?_
      rintro e w' ⟨rfl, hb⟩
      rw [sameT_refl]
      exact ⟨rfl, hb⟩
    have ht6 := (hb56.block _ (lt_of_heap HBT5.out)).trans HBT5.out
    have HBX := Lib.hid (fun (X : World) (h : Below X2.heap.size X2 X) => And.intro (box4 ((h.block _ (lt_of_heap hy6)).trans hy6)) (And.intro (box4 ((h.block _ (lt_of_heap hx2)).trans hx2)) (box4 ((h.block _ (lt_of_heap ht6)).trans ht6))))
    have HXE2 := Lib.hid hX2
    clear hb6 hzk hzc hbx2 hx2 hb56 hy6 hyk6 hzk6 hX2 hb5s hb6s hb2s ht6 HY HFIT
    go_wp2_with fail
    rw [← HXE2.out]
    obtain ⟨st, hst⟩ : ∃ st : ByteArray, st = ⟨(encT t).toArray⟩ := ⟨_, rfl⟩
    have HST := Lib.hid hst.symm
    clear hst
    refine wp_region_held_drew (S := fun X => Below X2.heap.size X2 X) (by kernel_rfl) (below_drewN (Below.refl _ X2) 1) (fun hHeld => ?_)
    refine wpAnyH_take (i := 0) (oi := _) (v := .int .i64 er) rfl (by kernel_rfl) (by kernel_rfl) (by kernel_rfl) (fun _ _ _ h => h) (Or.inl ⟨by rfl, ?_⟩) (by assumption) ?_
    · clear hHeld; intro X hSw; clear hSw; go_simp
    simp only [Act.put, List.getElem_toArray, List.getElem_cons_zero, List.getElem_cons_succ, List.setIfInBounds_toArray, List.set_cons_zero, List.set_cons_succ]
    refine wpAnyH_take (i := 1) (oi := _) (v := .int .i64 er) rfl (by kernel_rfl) (by kernel_rfl) (by kernel_rfl) (fun _ _ _ h => h) (Or.inl ⟨by rfl, ?_⟩) (by assumption) ?_
    · clear hHeld; intro X hSw; clear hSw; go_simp
    simp only [Act.put, List.getElem_toArray, List.getElem_cons_zero, List.getElem_cons_succ, List.setIfInBounds_toArray, List.set_cons_zero, List.set_cons_succ]
    refine wpAnyH_take (i := 2) (oi := _) (v := .bool true) rfl (by kernel_rfl) (by kernel_rfl) (by kernel_rfl) (fun _ _ _ h => h) (Or.inl ⟨by rfl, ?_⟩) (by assumption) ?_
    · clear hHeld; intro X hSw; clear hSw; go_simp
    simp only [Act.put, List.getElem_toArray, List.getElem_cons_zero, List.getElem_cons_succ, List.setIfInBounds_toArray, List.set_cons_zero, List.set_cons_succ]
    refine wpAnyH_take (i := 3) (oi := _) (v := .bool true) rfl (by kernel_rfl) (by kernel_rfl) (by kernel_rfl) (fun _ _ _ h => h) (Or.inl ⟨by rfl, ?_⟩) (by assumption) ?_
    · clear hHeld; intro X hSw; clear hSw; go_simp
    simp only [Act.put, List.getElem_toArray, List.getElem_cons_zero, List.getElem_cons_succ, List.setIfInBounds_toArray, List.set_cons_zero, List.set_cons_succ]
    refine wpAnyH_take (i := 4) (oi := _) (v := .int .i64 at_) rfl (by kernel_rfl) (by kernel_rfl) (by kernel_rfl) (fun _ _ _ h => h) (Or.inl ⟨by rfl, ?_⟩) (by assumption) ?_
    · clear hHeld; intro X hSw; clear hSw; go_simp
    simp only [Act.put, List.getElem_toArray, List.getElem_cons_zero, List.getElem_cons_succ, List.setIfInBounds_toArray, List.set_cons_zero, List.set_cons_succ]
    refine wpAnyH_take (i := 5) (oi := _) (v := .int .i64 at_) rfl (by kernel_rfl) (by kernel_rfl) (by kernel_rfl) (fun _ _ _ h => h) (Or.inl ⟨by rfl, ?_⟩) (by assumption) ?_
    · clear hHeld; intro X hSw; clear hSw; go_simp
    simp only [Act.put, List.getElem_toArray, List.getElem_cons_zero, List.getElem_cons_succ, List.setIfInBounds_toArray, List.set_cons_zero, List.set_cons_succ]
    refine wpAnyH_take (i := 6) (oi := _) (v := .bool true) rfl (by kernel_rfl) (by kernel_rfl) (by kernel_rfl) (fun _ _ _ h => h) (Or.inl ⟨by rfl, ?_⟩) (by assumption) ?_
    · clear hHeld; intro X hSw; clear hSw; go_simp
    simp only [Act.put, List.getElem_toArray, List.getElem_cons_zero, List.getElem_cons_succ, List.setIfInBounds_toArray, List.set_cons_zero, List.set_cons_succ]
    refine wpAnyH_take (i := 7) (oi := _) (v := .bool true) rfl (by kernel_rfl) (by kernel_rfl) (by kernel_rfl) (fun _ _ _ h => h) (Or.inl ⟨by rfl, ?_⟩) (by assumption) ?_
    · clear hHeld; intro X hSw; clear hSw; go_simp
    simp only [Act.put, List.getElem_toArray, List.getElem_cons_zero, List.getElem_cons_succ, List.setIfInBounds_toArray, List.set_cons_zero, List.set_cons_succ]
    refine wpAnyH_take (i := 8) (oi := _) (v := .bool true) rfl (by kernel_rfl) (by kernel_rfl) (by kernel_rfl) (fun _ _ _ h => h) (Or.inl ⟨by rfl, ?_⟩) (by assumption) ?_
    · clear hHeld; intro X hSw; clear hSw; go_simp
    simp only [Act.put, List.getElem_toArray, List.getElem_cons_zero, List.getElem_cons_succ, List.setIfInBounds_toArray, List.set_cons_zero, List.set_cons_succ]
    refine wpAnyH_take (i := 9) (oi := _) (v := .agg #[.int .i64 u.id, .int .i64 u.kind, .string u.text, .slice ya um yc]) rfl (by kernel_rfl) (by kernel_rfl) (by kernel_rfl) (fun _ _ _ h => h) (Or.inl ⟨by rfl, ?_⟩) (by assumption) ?_
    · clear hHeld; intro X hSw; obtain ⟨⟨a0, a1, a2, a3⟩, ⟨b0, b1, b2, b3⟩, ⟨e0, e1, e2, e3⟩⟩ := HBX.out X hSw; clear hSw; go_simp
    simp only [Act.put, List.getElem_toArray, List.getElem_cons_zero, List.getElem_cons_succ, List.setIfInBounds_toArray, List.set_cons_zero, List.set_cons_succ]
    refine wpAnyH_take (i := 10) (oi := _) (v := .agg #[.int .i64 u.id, .int .i64 u.kind, .string u.text, .slice za um zc]) rfl (by kernel_rfl) (by kernel_rfl) (by kernel_rfl) (fun _ _ _ h => h) (Or.inl ⟨by rfl, ?_⟩) (by assumption) ?_
    · clear hHeld; intro X hSw; obtain ⟨⟨a0, a1, a2, a3⟩, ⟨b0, b1, b2, b3⟩, ⟨e0, e1, e2, e3⟩⟩ := HBX.out X hSw; clear hSw; go_simp
    simp only [Act.put, List.getElem_toArray, List.getElem_cons_zero, List.getElem_cons_succ, List.setIfInBounds_toArray, List.set_cons_zero, List.set_cons_succ]
    refine wpAnyH_ready (rs := [11]) (by kernel_rfl) (by simp) ?_
    refine AllReadyH.cons (o := _) rfl (fun K hK => ?_) (AllReadyH.nil)
    rw [if_pos (by rfl)]
    simp only [List.getElem_toArray, List.getElem_cons_zero, List.getElem_cons_succ]
    have HK := Lib.hid hK
    have HS := Lib.hid hHeld
    clear hK hHeld
    go_wp2_with (go_at_call 9; refine (HSN.out _ HS.out).mono ?_; rintro e y11 ⟨rfl, hb⟩; skip; have HY11 := Lib.hid (HS.out.trans (hb.mono HS.out.size)); have HL11 := Lib.hid hb; clear hb)
    refine HK.out _ _ HY11.out (fun hHeld => ?_)
    clear HK HS
    refine wpAnyH_take (i := 12) (oi := _) (v := .bool true) rfl (by kernel_rfl) (by kernel_rfl) (by kernel_rfl) (fun _ _ _ h => h) (Or.inl ⟨by rfl, ?_⟩) (by assumption) ?_
    · clear hHeld; intro X hSw; clear hSw; go_simp
    simp only [Act.put, List.getElem_toArray, List.getElem_cons_zero, List.getElem_cons_succ, List.setIfInBounds_toArray, List.set_cons_zero, List.set_cons_succ]
    refine wpAnyH_take (i := 13) (oi := _) (v := .bool true) rfl (by kernel_rfl) (by kernel_rfl) (by kernel_rfl) (fun _ _ _ h => h) (Or.inl ⟨by rfl, ?_⟩) (by assumption) ?_
    · clear hHeld; intro X hSw; clear hSw; go_simp
    simp only [Act.put, List.getElem_toArray, List.getElem_cons_zero, List.getElem_cons_succ, List.setIfInBounds_toArray, List.set_cons_zero, List.set_cons_succ]
    refine wpAnyH_take (i := 14) (oi := _) (v := .agg #[.int .i64 t.id, .int .i64 t.kind, .string t.text, .slice ka nk tc]) rfl (by kernel_rfl) (by kernel_rfl) (by kernel_rfl) (fun _ _ _ h => h) (Or.inl ⟨by rfl, ?_⟩) (by assumption) ?_
    · clear hHeld; intro X hSw; obtain ⟨⟨a0, a1, a2, a3⟩, ⟨b0, b1, b2, b3⟩, ⟨e0, e1, e2, e3⟩⟩ := HBX.out X hSw; clear hSw; go_simp
    simp only [Act.put, List.getElem_toArray, List.getElem_cons_zero, List.getElem_cons_succ, List.setIfInBounds_toArray, List.set_cons_zero, List.set_cons_succ]
    refine wpAnyH_take (i := 17) (oi := _) (v := .agg #[.int .i64 t.id, .int .i64 t.kind, .string t.text, .slice ka nk tc]) rfl (by kernel_rfl) (by kernel_rfl) (by kernel_rfl) (fun _ _ _ h => h) (Or.inl ⟨by rfl, ?_⟩) (by assumption) ?_
    · clear hHeld; intro X hSw; obtain ⟨⟨a0, a1, a2, a3⟩, ⟨b0, b1, b2, b3⟩, ⟨e0, e1, e2, e3⟩⟩ := HBX.out X hSw; clear hSw; go_simp
    simp only [Act.put, List.getElem_toArray, List.getElem_cons_zero, List.getElem_cons_succ, List.setIfInBounds_toArray, List.set_cons_zero, List.set_cons_succ]
    refine wpAnyH_ready (rs := [15]) (by kernel_rfl) (by simp) ?_
    refine AllReadyH.cons (o := _) rfl (fun K hK => ?_) (AllReadyH.nil)
    rw [if_pos (by rfl)]
    simp only [List.getElem_toArray, List.getElem_cons_zero, List.getElem_cons_succ]
    have HK := Lib.hid hK
    have HS := Lib.hid hHeld
    clear hK hHeld
    go_wp2_with (go_at_call 10; refine (HTB.out _ (HB6.out.trans (HS.out.mono HB6.out.size))).mono ?_; rintro e y15 ⟨a1, n1, c1, rfl, hn1, hby1, hb⟩; have HC1 := Lib.hid (And.intro hn1 hby1); clear hn1 hby1; have HY15 := Lib.hid (HS.out.trans (hb.mono HS.out.size)); have HL15 := Lib.hid hb; clear hb)
    refine HK.out _ _ HY15.out (fun hHeld => ?_)
    clear HK HS
    refine wpAnyH_ready (rs := [16, 18]) (by kernel_rfl) (by simp) ?_
    refine AllReadyH.cons (o := _) rfl (fun K hK => ?_) (AllReadyH.cons (o := _) rfl (fun K hK => ?_) (AllReadyH.nil))
    · rw [if_pos (by rfl)]
      simp only [List.getElem_toArray, List.getElem_cons_zero, List.getElem_cons_succ]
      have HK := Lib.hid hK
      have HS := Lib.hid hHeld
      clear hK hHeld
      have hcv := ByAt.conv (cap := c1) (HC1.out.2) HC1.out.1
      rw [HST.out] at hcv
      go_wp2_with fail
      refine HK.out _ _ HS.out (fun hHeld => ?_)
      clear HK HS hcv
      refine wpAnyH_ready (rs := [18]) (by kernel_rfl) (by simp) ?_
      refine AllReadyH.cons (o := _) rfl (fun K hK => ?_) (AllReadyH.nil)
      rw [if_pos (by rfl)]
      simp only [List.getElem_toArray, List.getElem_cons_zero, List.getElem_cons_succ]
      have HK := Lib.hid hK
      have HS := Lib.hid hHeld
      clear hK hHeld
      go_wp2_with (go_at_call 11; refine (HDB.out _ (HB6.out.trans (HS.out.mono HB6.out.size))).mono ?_; rintro e y18 ⟨a2, n2, c2, rfl, hn2, hby2, hb⟩; have HC2 := Lib.hid (And.intro hn2 hby2); clear hn2 hby2; have HY18 := Lib.hid (HS.out.trans (hb.mono HS.out.size)); have HL18 := Lib.hid hb; clear hb)
      refine HK.out _ _ HY18.out (fun hHeld => ?_)
      clear HK HS
      refine wpAnyH_ready (rs := [19]) (by kernel_rfl) (by simp) ?_
      refine AllReadyH.cons (o := _) rfl (fun K hK => ?_) (AllReadyH.nil)
      rw [if_pos (by rfl)]
      simp only [List.getElem_toArray, List.getElem_cons_zero, List.getElem_cons_succ]
      have HK := Lib.hid hK
      have HS := Lib.hid hHeld
      clear hK hHeld
      have hcv := ByAt.conv (cap := c2) (HC2.out.2) HC2.out.1
      rw [HST.out] at hcv
      go_wp2_with fail
      refine HK.out _ _ HS.out (fun hHeld => ?_)
      clear HK HS hcv
      refine wpAnyH_take (i := 20) (oi := _) (v := .bool true) rfl (by kernel_rfl) (by kernel_rfl) (by kernel_rfl) (fun _ _ _ h => h) (Or.inl ⟨by rfl, ?_⟩) (by assumption) ?_
      · clear hHeld; intro X hSw; clear hSw; go_simp
      simp only [Act.put, List.getElem_toArray, List.getElem_cons_zero, List.getElem_cons_succ, List.setIfInBounds_toArray, List.set_cons_zero, List.set_cons_succ]
      refine wpAnyH_take (i := 21) (oi := _) (v := .bool true) rfl (by kernel_rfl) (by kernel_rfl) (by kernel_rfl) (fun _ _ _ h => h) (Or.inl ⟨by rfl, ?_⟩) (by assumption) ?_
      · clear hHeld; intro X hSw; clear hSw; go_simp
      simp only [Act.put, List.getElem_toArray, List.getElem_cons_zero, List.getElem_cons_succ, List.setIfInBounds_toArray, List.set_cons_zero, List.set_cons_succ]
      refine wpAnyH_take (i := 22) (oi := _) (v := .bool true) rfl (by kernel_rfl) (by kernel_rfl) (by kernel_rfl) (fun _ _ _ h => h) (Or.inl ⟨by rfl, ?_⟩) (by assumption) ?_
      · clear hHeld; intro X hSw; clear hSw; go_simp
      simp only [Act.put, List.getElem_toArray, List.getElem_cons_zero, List.getElem_cons_succ, List.setIfInBounds_toArray, List.set_cons_zero, List.set_cons_succ]
      refine wpAnyH_ready (rs := [23]) (by kernel_rfl) (by simp) ?_
      refine AllReadyH.cons (o := _) rfl (fun K hK => ?_) (AllReadyH.nil)
      rw [if_pos (by rfl)]
      simp only [List.getElem_toArray, List.getElem_cons_zero, List.getElem_cons_succ]
      have HK := Lib.hid hK
      have HS := Lib.hid hHeld
      clear hK hHeld
      go_wp2_with (go_at_call 6; refine (wakes_any _ (HTAB.out _ (HB6.out.trans (HS.out.mono HB6.out.size)))).mono ?_; rintro e y23 ⟨rfl, hb⟩; skip; have HY23 := Lib.hid (HS.out.trans (hb.mono HS.out.size)); have HL23 := Lib.hid hb; clear hb)
      refine HK.out _ _ HY23.out (fun hHeld => ?_)
      clear HK HS
      refine wpAnyH_take (i := 24) (oi := _) (v := .bool true) rfl (by kernel_rfl) (by kernel_rfl) (by kernel_rfl) (fun _ _ _ h => h) (Or.inl ⟨by rfl, ?_⟩) (by assumption) ?_
      · clear hHeld; intro X hSw; clear hSw; go_simp
      simp only [Act.put, List.getElem_toArray, List.getElem_cons_zero, List.getElem_cons_succ, List.setIfInBounds_toArray, List.set_cons_zero, List.set_cons_succ]
      refine wpAnyH_take (i := 25) (oi := _) (v := .bool true) rfl (by kernel_rfl) (by kernel_rfl) (by kernel_rfl) (fun _ _ _ h => h) (Or.inl ⟨by rfl, ?_⟩) (by assumption) ?_
      · clear hHeld; intro X hSw; clear hSw; go_simp
      simp only [Act.put, List.getElem_toArray, List.getElem_cons_zero, List.getElem_cons_succ, List.setIfInBounds_toArray, List.set_cons_zero, List.set_cons_succ]
      refine wpAnyH_done (by kernel_rfl) ?_ _
      clear hHeld
      go_wp2_with fail
      go_ret
      exact ⟨rfl, HB6.out.trans (HY23.out.mono HB6.out.size)⟩
    · rw [if_pos (by rfl)]
      simp only [List.getElem_toArray, List.getElem_cons_zero, List.getElem_cons_succ]
      have HK := Lib.hid hK
      have HS := Lib.hid hHeld
      clear hK hHeld
      go_wp2_with (go_at_call 11; refine (HDB.out _ (HB6.out.trans (HS.out.mono HB6.out.size))).mono ?_; rintro e y18 ⟨a2, n2, c2, rfl, hn2, hby2, hb⟩; have HC2 := Lib.hid (And.intro hn2 hby2); clear hn2 hby2; have HY18 := Lib.hid (HS.out.trans (hb.mono HS.out.size)); have HL18 := Lib.hid hb; clear hb)
      refine HK.out _ _ HY18.out (fun hHeld => ?_)
      clear HK HS
      refine wpAnyH_ready (rs := [16, 19]) (by kernel_rfl) (by simp) ?_
      refine AllReadyH.cons (o := _) rfl (fun K hK => ?_) (AllReadyH.cons (o := _) rfl (fun K hK => ?_) (AllReadyH.nil))
      · rw [if_pos (by rfl)]
        simp only [List.getElem_toArray, List.getElem_cons_zero, List.getElem_cons_succ]
        have HK := Lib.hid hK
        have HS := Lib.hid hHeld
        clear hK hHeld
        have hcv := ByAt.conv (cap := c1) (HC1.out.2.below HL18.out) HC1.out.1
        rw [HST.out] at hcv
        go_wp2_with fail
        refine HK.out _ _ HS.out (fun hHeld => ?_)
        clear HK HS hcv
        refine wpAnyH_ready (rs := [19]) (by kernel_rfl) (by simp) ?_
        refine AllReadyH.cons (o := _) rfl (fun K hK => ?_) (AllReadyH.nil)
        rw [if_pos (by rfl)]
        simp only [List.getElem_toArray, List.getElem_cons_zero, List.getElem_cons_succ]
        have HK := Lib.hid hK
        have HS := Lib.hid hHeld
        clear hK hHeld
        have hcv := ByAt.conv (cap := c2) (HC2.out.2) HC2.out.1
        rw [HST.out] at hcv
        go_wp2_with fail
        refine HK.out _ _ HS.out (fun hHeld => ?_)
        clear HK HS hcv
        refine wpAnyH_take (i := 20) (oi := _) (v := .bool true) rfl (by kernel_rfl) (by kernel_rfl) (by kernel_rfl) (fun _ _ _ h => h) (Or.inl ⟨by rfl, ?_⟩) (by assumption) ?_
        · clear hHeld; intro X hSw; clear hSw; go_simp
        simp only [Act.put, List.getElem_toArray, List.getElem_cons_zero, List.getElem_cons_succ, List.setIfInBounds_toArray, List.set_cons_zero, List.set_cons_succ]
        refine wpAnyH_take (i := 21) (oi := _) (v := .bool true) rfl (by kernel_rfl) (by kernel_rfl) (by kernel_rfl) (fun _ _ _ h => h) (Or.inl ⟨by rfl, ?_⟩) (by assumption) ?_
        · clear hHeld; intro X hSw; clear hSw; go_simp
        simp only [Act.put, List.getElem_toArray, List.getElem_cons_zero, List.getElem_cons_succ, List.setIfInBounds_toArray, List.set_cons_zero, List.set_cons_succ]
        refine wpAnyH_take (i := 22) (oi := _) (v := .bool true) rfl (by kernel_rfl) (by kernel_rfl) (by kernel_rfl) (fun _ _ _ h => h) (Or.inl ⟨by rfl, ?_⟩) (by assumption) ?_
        · clear hHeld; intro X hSw; clear hSw; go_simp
        simp only [Act.put, List.getElem_toArray, List.getElem_cons_zero, List.getElem_cons_succ, List.setIfInBounds_toArray, List.set_cons_zero, List.set_cons_succ]
        refine wpAnyH_ready (rs := [23]) (by kernel_rfl) (by simp) ?_
        refine AllReadyH.cons (o := _) rfl (fun K hK => ?_) (AllReadyH.nil)
        rw [if_pos (by rfl)]
        simp only [List.getElem_toArray, List.getElem_cons_zero, List.getElem_cons_succ]
        have HK := Lib.hid hK
        have HS := Lib.hid hHeld
        clear hK hHeld
        go_wp2_with (go_at_call 6; refine (wakes_any _ (HTAB.out _ (HB6.out.trans (HS.out.mono HB6.out.size)))).mono ?_; rintro e y23 ⟨rfl, hb⟩; skip; have HY23 := Lib.hid (HS.out.trans (hb.mono HS.out.size)); have HL23 := Lib.hid hb; clear hb)
        refine HK.out _ _ HY23.out (fun hHeld => ?_)
        clear HK HS
        refine wpAnyH_take (i := 24) (oi := _) (v := .bool true) rfl (by kernel_rfl) (by kernel_rfl) (by kernel_rfl) (fun _ _ _ h => h) (Or.inl ⟨by rfl, ?_⟩) (by assumption) ?_
        · clear hHeld; intro X hSw; clear hSw; go_simp
        simp only [Act.put, List.getElem_toArray, List.getElem_cons_zero, List.getElem_cons_succ, List.setIfInBounds_toArray, List.set_cons_zero, List.set_cons_succ]
        refine wpAnyH_take (i := 25) (oi := _) (v := .bool true) rfl (by kernel_rfl) (by kernel_rfl) (by kernel_rfl) (fun _ _ _ h => h) (Or.inl ⟨by rfl, ?_⟩) (by assumption) ?_
        · clear hHeld; intro X hSw; clear hSw; go_simp
        simp only [Act.put, List.getElem_toArray, List.getElem_cons_zero, List.getElem_cons_succ, List.setIfInBounds_toArray, List.set_cons_zero, List.set_cons_succ]
        refine wpAnyH_done (by kernel_rfl) ?_ _
        clear hHeld
        go_wp2_with fail
        go_ret
        exact ⟨rfl, HB6.out.trans (HY23.out.mono HB6.out.size)⟩
      · rw [if_pos (by rfl)]
        simp only [List.getElem_toArray, List.getElem_cons_zero, List.getElem_cons_succ]
        have HK := Lib.hid hK
        have HS := Lib.hid hHeld
        clear hK hHeld
        have hcv := ByAt.conv (cap := c2) (HC2.out.2) HC2.out.1
        rw [HST.out] at hcv
        go_wp2_with fail
        refine HK.out _ _ HS.out (fun hHeld => ?_)
        clear HK HS hcv
        refine wpAnyH_ready (rs := [16]) (by kernel_rfl) (by simp) ?_
        refine AllReadyH.cons (o := _) rfl (fun K hK => ?_) (AllReadyH.nil)
        rw [if_pos (by rfl)]
        simp only [List.getElem_toArray, List.getElem_cons_zero, List.getElem_cons_succ]
        have HK := Lib.hid hK
        have HS := Lib.hid hHeld
        clear hK hHeld
        have hcv := ByAt.conv (cap := c1) (HC1.out.2.below HL18.out) HC1.out.1
        rw [HST.out] at hcv
        go_wp2_with fail
        refine HK.out _ _ HS.out (fun hHeld => ?_)
        clear HK HS hcv
        refine wpAnyH_take (i := 20) (oi := _) (v := .bool true) rfl (by kernel_rfl) (by kernel_rfl) (by kernel_rfl) (fun _ _ _ h => h) (Or.inl ⟨by rfl, ?_⟩) (by assumption) ?_
        · clear hHeld; intro X hSw; clear hSw; go_simp
        simp only [Act.put, List.getElem_toArray, List.getElem_cons_zero, List.getElem_cons_succ, List.setIfInBounds_toArray, List.set_cons_zero, List.set_cons_succ]
        refine wpAnyH_take (i := 21) (oi := _) (v := .bool true) rfl (by kernel_rfl) (by kernel_rfl) (by kernel_rfl) (fun _ _ _ h => h) (Or.inl ⟨by rfl, ?_⟩) (by assumption) ?_
        · clear hHeld; intro X hSw; clear hSw; go_simp
        simp only [Act.put, List.getElem_toArray, List.getElem_cons_zero, List.getElem_cons_succ, List.setIfInBounds_toArray, List.set_cons_zero, List.set_cons_succ]
        refine wpAnyH_take (i := 22) (oi := _) (v := .bool true) rfl (by kernel_rfl) (by kernel_rfl) (by kernel_rfl) (fun _ _ _ h => h) (Or.inl ⟨by rfl, ?_⟩) (by assumption) ?_
        · clear hHeld; intro X hSw; clear hSw; go_simp
        simp only [Act.put, List.getElem_toArray, List.getElem_cons_zero, List.getElem_cons_succ, List.setIfInBounds_toArray, List.set_cons_zero, List.set_cons_succ]
        refine wpAnyH_ready (rs := [23]) (by kernel_rfl) (by simp) ?_
        refine AllReadyH.cons (o := _) rfl (fun K hK => ?_) (AllReadyH.nil)
        rw [if_pos (by rfl)]
        simp only [List.getElem_toArray, List.getElem_cons_zero, List.getElem_cons_succ]
        have HK := Lib.hid hK
        have HS := Lib.hid hHeld
        clear hK hHeld
        go_wp2_with (go_at_call 6; refine (wakes_any _ (HTAB.out _ (HB6.out.trans (HS.out.mono HB6.out.size)))).mono ?_; rintro e y23 ⟨rfl, hb⟩; skip; have HY23 := Lib.hid (HS.out.trans (hb.mono HS.out.size)); have HL23 := Lib.hid hb; clear hb)
        refine HK.out _ _ HY23.out (fun hHeld => ?_)
        clear HK HS
        refine wpAnyH_take (i := 24) (oi := _) (v := .bool true) rfl (by kernel_rfl) (by kernel_rfl) (by kernel_rfl) (fun _ _ _ h => h) (Or.inl ⟨by rfl, ?_⟩) (by assumption) ?_
        · clear hHeld; intro X hSw; clear hSw; go_simp
        simp only [Act.put, List.getElem_toArray, List.getElem_cons_zero, List.getElem_cons_succ, List.setIfInBounds_toArray, List.set_cons_zero, List.set_cons_succ]
        refine wpAnyH_take (i := 25) (oi := _) (v := .bool true) rfl (by kernel_rfl) (by kernel_rfl) (by kernel_rfl) (fun _ _ _ h => h) (Or.inl ⟨by rfl, ?_⟩) (by assumption) ?_
        · clear hHeld; intro X hSw; clear hSw; go_simp
        simp only [Act.put, List.getElem_toArray, List.getElem_cons_zero, List.getElem_cons_succ, List.setIfInBounds_toArray, List.set_cons_zero, List.set_cons_succ]
        refine wpAnyH_done (by kernel_rfl) ?_ _
        clear hHeld
        go_wp2_with fail
        go_ret
        exact ⟨rfl, HB6.out.trans (HY23.out.mono HB6.out.size)⟩
  · clear HT HRD HDD HTB HDB HFIT
    go_wp2_with fail
    refine (wakes_any w2 (HTAB.out w2 HB.out)).mono ?_
    rintro e w4 ⟨rfl, hb4⟩
    have HB4 := Lib.hid (HB.out.trans (hb4.mono HB.out.size))
    clear hb4
    go_wp2_with fail
    go_ret
    exact ⟨rfl, HB4.out⟩
end Go.Proofs.YteccnekdmehloaaDoor
