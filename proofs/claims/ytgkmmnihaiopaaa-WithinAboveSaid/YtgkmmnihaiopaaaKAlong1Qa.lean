/-
  .
-/
import Derived.Deep.RegionHeld
import Derived.Test.YtgkmmnihaiopaaaTouWQa
import Derived.Test.YtgkmmnihaiopaaaJPgQa
set_option maxRecDepth 100000
set_option maxHeartbeats 40000000
namespace Go.Proofs.Ytgkmmnihaiopaaa
open Go.RowKit Go.Shelf
set_option linter.unusedVariables false
set_option linter.unusedSimpArgs false
structure zgj (P : Program) (W : World) (tb : Nat) (E S SS : Nat → Prop) (u : Tr) (lf : FuncId) (c0 : Value) (c : Tr) (RR : World → Prop) : Prop where
 enter : ∀ (args : Array Value) (w : World), (callFunc lf args).run P w = .ok (.enter lf args) w
 call : ∀ (X X1 : World) (b off : Nat) (sv : Value) (xs : List Value), AlH W tb (fun _ => False) X → AlC W tb E S X u b off sv xs X1 → b < X.heap.size → (b = tb ∨ W.heap.size ≤ b) → Calls P lf #[.pointer (some ⟨b, off, none⟩), c0] X1 (zda W tb E SS X.heap.size X1 b off c RR)
structure zgL (W : World) (tb : Nat) (E : Nat → Prop) (lf : FuncId) (c0 : Value) (CB DB : Nat) : Prop where
 down : W.heap[DB]? = some (.cells #[.func (.func 113) #[] #[.pointer (some ⟨CB, 0, none⟩), .pointer (some ⟨DB, 0, none⟩)]] 171 (0, 0))
 change : W.heap[CB]? = some (.cells #[.func (.func lf) #[] #[c0]] 139 (0, 0))
 hd : DB < W.heap.size ∧ DB ≠ tb ∧ ¬ E DB
 hc : CB < W.heap.size ∧ CB ≠ tb ∧ ¬ E CB
theorem zaN {W : World} {tb : Nat} {E S SS : Nat → Prop} {lf : FuncId} {c0 : Value} {t uL cT : Tr} {RR : World → Prop} (hS : AlS W tb E S) (hSS : ∀ y, S y → SS y) (hC : zgj Try.prog W tb E S SS uL lf c0 cT RR) (CB DB : Nat) (hB : zgL W tb E lf c0 CB DB) (hsz : zg t.kids ≤ 400000) :
 ∀ (M : Nat) (X : World) (p l : List Nat) (u : Tr) (b off : Nat) (pa : Option Addr) (n pc : Nat), n < M → n = l.length → n ≤ 1000000 → AlH W tb (fun _ => False) X → AlN W tb E S t X p u b off → zg u.kids ≤ 400000 → yX W (fun y => y < W.heap.size ∧ y ≠ tb ∧ ¬ E y) pa pc (yF l) → atT u l = some uL →
 Calls Try.prog 113 #[.pointer (some ⟨b, off, none⟩), .slice pa n pc, .pointer (some ⟨CB, 0, none⟩), .pointer (some ⟨DB, 0, none⟩)] X (Qa W tb E SS X b (zO t (p ++ l) cT) RR) := by
 intro M
 induction M with
 | zero => intro X p l u b off pa n pc h; omega
 | succ M ih =>
   intro X p l u b off pa n pc hM hn hnb hH hN hus hp hat
   obtain ⟨ka, kc, d3, hkc, hk, hk0⟩ := hN.c3
   obtain ⟨xs, hr, hxl, hxc, hx1⟩ := zcR u.kids hk
   have hul := yu u.kids
   have hcl := kD X ka (foLen u.kids) kc xs hxl hx1 (by omega) hxc hk0
   obtain ⟨m, hm⟩ : ∃ m, m = foLen u.kids := ⟨_, rfl⟩
   rw [← hm] at d3 hcl
   have HCL := Lib.hid hcl
   have hblt := hN.lt
   have hfz := hN.fz
   by_cases hn0 : n = 0
   · subst hn0
     have hl : l = [] := List.length_eq_zero_iff.1 hn.symm
     subst hl
     have hu : u = uL := by simpa [atT] using hat
     subst hu
     have HA := Lib.hid (aN hH (aN hN (aN hr (aN hx1 (aN hm hblt)))))
     have hent := hC.enter
     clear ih hM hp hat hn hnb hH hN hkc hk hk0 hr hxl hxc hx1 hul hcl hus hm
     go_enter Try.func113, Try.ntmps113
     go_wp2_with fail
     refine HCL.out.mono ?_
     rintro e w1 ⟨v', rfl, hb1, ho⟩
     obtain ⟨va, vc, rfl⟩ := zu ho
     have g3 : w1.cell? ⟨b, off + 3, none⟩ = some (.slice ka m kc) := (hb1.cell (p := ⟨b, off + 3, none⟩) hblt).trans d3
     have gf : ∀ j, w1.frozen? ⟨b, j, none⟩ = false := fun j => (World.frozen?_of_block (hb1.block b hblt)).trans (hfz j)
     rw [HA.out.2.2.2.2.1] at ho
     have hk1 := HA.out.2.1.clone hS HA.out.1 HA.out.2.2.1 HA.out.2.2.2.1 hb1 ho
     rw [← HA.out.2.2.2.2.1] at hk1
     obtain ⟨X1, hX1⟩ : ∃ X1, X1 = w1.setCell ⟨b, off + 3, none⟩ (.slice va m vc) := ⟨_, rfl⟩
     rw [← hX1] at hk1
     have hcb : X1.cell? ⟨CB, 0, none⟩ = some (.func (.func lf) #[] #[c0]) := by rw [cell_of_row _ _ 0 _ _ _ ((hk1.h.kept CB hB.hc.1 hB.hc.2.1 (fun h => h)).trans hB.change)]; rfl
     have HCH := Lib.hid (hC.call X X1 b off _ xs HA.out.1 hk1 hblt HA.out.2.1.bl)
     have HK1 := Lib.hid hk1
     have HX1 := Lib.hid hX1
     clear hb1 ho hk1 d3 hfz hX1 HCL
     rw [HX1.out] at hcb
     go_wp2_with fail
     rw [← HX1.out]
     refine HCH.out.mono ?_
     intro e X' hq
     have hd := HA.out.2.1.done hS hSS HA.out.1 HK1.out hq
     have hr0 := hq.1
     subst hr0
     have hd2 : Qa W tb E SS X b (zO t (p ++ []) cT) RR (.returned (.tuple #[])) X' := by rw [List.append_nil]; exact hd
     have HD := Lib.hid hd2
     clear hd2
     clear hq hd hcb
     go_wp2_with fail
     go_end0
     exact HD.out
   · obtain ⟨j, l', rfl⟩ : ∃ j l', l = j :: l' := by
      cases l with
      | nil => simp at hn; omega
      | cons j l' => exact ⟨j, l', rfl⟩
     obtain ⟨q, rfl⟩ : ∃ q, n = q + 1 := ⟨n - 1, by omega⟩
     have hql : q = l'.length := by simp at hn; omega
     obtain ⟨pb, po, rfl, hpb, hpc⟩ := hp.2.resolve_left (fun e => by simp [yF] at e)
     have hnc : q + 1 ≤ pc := by have := hp.1; rw [zP, List.length_cons] at this; omega
     obtain ⟨v, hv, hatv⟩ : ∃ v, zz u.kids j = some v ∧ atT v l' = some uL := by
      simp only [atT] at hat
      cases hkj : zz u.kids j with
      | none => rw [hkj] at hat; cases hat
      | some v => rw [hkj] at hat; exact ⟨v, rfl, hat⟩
     have hjl := qg hv
     have hvs := jB hv
     obtain ⟨pq, hpq⟩ : ∃ pq : Option Addr, pq = if pc = 1 then some ⟨pb, po, none⟩ else some ⟨pb, po + 1, none⟩ := ⟨_, rfl⟩
     have hpd : yX W (fun y => y < W.heap.size ∧ y ≠ tb ∧ ¬ E y) pq (pc - 1) (yF l') := by
      rw [hpq]
      split
      · exact ⟨by rw [zP, ← hql]; omega, Or.inl (by
         have h2 : l' = [] := List.length_eq_zero_iff.1 (by omega)
         rw [h2]; rfl)⟩
      · have h9 : yX W (fun y => y < W.heap.size ∧ y ≠ tb ∧ ¬ E y) (some ⟨pb, po, none⟩) pc (yF (j :: l')) := hp
        have := h9.drop 1
        simpa [yF] using this
     have px : W.cell? ⟨pb, po, none⟩ = some (.int .i64 (j : Int)) := by have := hpc 0 (j : Int) (by simp [yF]); rwa [Nat.add_zero] at this
     have HA := Lib.hid (aN hH (aN hN (aN hr (aN hx1 (aN hm hblt)))))
     have HIH := Lib.hid ih
     have HP := Lib.hid (aN hpd (aN px (aN hpb (aN hql (aN (show q < M by omega) (aN (show q ≤ 1000000 by omega) (aN (show zg v.kids ≤ 400000 by omega) hatv)))))))
     have HPQ := Lib.hid hpq
     have HV := Lib.hid (aN hv (show j < m by omega))
     have hq0 : ¬ (q : Int) + 1 = 0 := by omega
     clear ih hM hp hat hn hnb hH hN hkc hk hk0 hr hxl hxc hx1 hul hcl hus hm hpc hpb hatv hv hvs hpq hpd px hql hn0
     go_enter Try.func113, Try.ntmps113
     go_wp2_with fail
     refine HCL.out.mono ?_
     rintro e w1 ⟨v', rfl, hb1, ho⟩
     obtain ⟨g, gc, rfl, _⟩ := World.ownsRow.form ho (by have := HV.out.2; omega)
     have g3 : w1.cell? ⟨b, off + 3, none⟩ = some (.slice ka m kc) := (hb1.cell (p := ⟨b, off + 3, none⟩) hblt).trans d3
     have gf : ∀ j, w1.frozen? ⟨b, j, none⟩ = false := fun j => (World.frozen?_of_block (hb1.block b hblt)).trans (hfz j)
     rw [HA.out.2.2.2.2.1] at ho
     have hk1 := HA.out.2.1.clone hS HA.out.1 HA.out.2.2.1 HA.out.2.2.2.1 hb1 ho
     obtain ⟨hN2, hbg, hgX⟩ := HA.out.2.1.down hS HA.out.1 HV.out.1 hk1
     rw [← HA.out.2.2.2.2.1] at hk1 hN2
     obtain ⟨X1, hX1⟩ : ∃ X1, X1 = w1.setCell ⟨b, off + 3, none⟩ (.slice (some ⟨g, 0, none⟩) m gc) := ⟨_, rfl⟩
     rw [← hX1] at hk1 hN2
     have hdb : X1.cell? ⟨DB, 0, none⟩ = some (.func (.func 113) #[] #[.pointer (some ⟨CB, 0, none⟩), .pointer (some ⟨DB, 0, none⟩)]) := by rw [cell_of_row _ _ 0 _ _ _ ((hk1.h.kept DB hB.hd.1 hB.hd.2.1 (fun h => h)).trans hB.down)]; rfl
     have hpx : X1.cell? ⟨pb, po, none⟩ = some (.int .i64 (j : Int)) := (World.cell?_of_block (a := ⟨pb, po, none⟩) (hk1.h.kept pb HP.out.2.2.1.1 HP.out.2.2.1.2.1 (fun h => h))).trans HP.out.2.1
     have hc3 := hk1.c3
     have hcallD := HIH.out X1.drew (p ++ [j]) l' v g (j * 4) pq q (pc - 1) HP.out.2.2.2.2.1 HP.out.2.2.2.1 HP.out.2.2.2.2.2.1 hk1.h.drew hN2.drew HP.out.2.2.2.2.2.2.1 HP.out.1 HP.out.2.2.2.2.2.2.2
     have HCALLD := Lib.hid (show Calls Try.prog 113 #[.pointer (some ⟨g, j * 4, none⟩), .slice pq q (pc - 1), .pointer (some ⟨CB, 0, none⟩), .pointer (some ⟨DB, 0, none⟩)] X1.drew _ from hcallD)
     have HK1 := Lib.hid (aN hk1 (aN hbg hgX))
     have hbE := HA.out.2.1.notE hS
     have HKP := Lib.hid (aN hbE (show b < X1.heap.size by have := hk1.size; omega))
     have HX1 := Lib.hid hX1
     obtain ⟨SW, hSW⟩ : ∃ SW : World → Prop, SW = fun X => X.cell? ⟨DB, 0, none⟩ = some (.func (.func 113) #[] #[.pointer (some ⟨CB, 0, none⟩), .pointer (some ⟨DB, 0, none⟩)]) ∧ X.cell? ⟨b, off + 3, none⟩ = some (.slice (some ⟨g, 0, none⟩) m gc) ∧ X.cell? ⟨pb, po, none⟩ = some (.int .i64 (j : Int)) := ⟨_, rfl⟩
     have HSW := Lib.hid (fun (X : World) (h : SW X) => (show X.cell? ⟨DB, 0, none⟩ = some (.func (.func 113) #[] #[.pointer (some ⟨CB, 0, none⟩), .pointer (some ⟨DB, 0, none⟩)]) ∧ X.cell? ⟨b, off + 3, none⟩ = some (.slice (some ⟨g, 0, none⟩) m gc) ∧ X.cell? ⟨pb, po, none⟩ = some (.int .i64 (j : Int)) by rw [hSW] at h; exact h))
     have HMK := Lib.hid (fun (X : World) (h : X.cell? ⟨DB, 0, none⟩ = some (.func (.func 113) #[] #[.pointer (some ⟨CB, 0, none⟩), .pointer (some ⟨DB, 0, none⟩)]) ∧ X.cell? ⟨b, off + 3, none⟩ = some (.slice (some ⟨g, 0, none⟩) m gc) ∧ X.cell? ⟨pb, po, none⟩ = some (.int .i64 (j : Int))) => (show SW X by rw [hSW]; exact h))
     have hS0 : SW X1.drew := HMK.out _ ⟨hdb, hc3, hpx⟩
     have hjm : (j : Int) < (m : Int) := by have := HV.out.2; omega
     have hj0 : (0 : Int) ≤ (j : Int) := by omega
     have hq1 : (0 : Int) < (q : Int) + 1 := by omega
     clear hb1 ho hk1 hN2 hbg hgX d3 hfz hX1 HCL hcallD hdb hpx hc3 hSW hbE
     go_wp2_with fail
     rw [← HX1.out]
     refine wp_region_held_drew (S := SW) (by kernel_rfl) hS0 (fun hHeld => ?_)
     clear hS0
     refine tkH (i := 0) (.func (.func 113) #[] #[.pointer (some ⟨CB, 0, none⟩), .pointer (some ⟨DB, 0, none⟩)]) rfl (Or.inl ⟨by rfl, ?_⟩) (by assumption) ?_
     · clear hHeld; intro X hSw; obtain ⟨s0, s1, s2⟩ := HSW.out X hSw; clear hSw; go_simp
     simp only [Act.put, pg]
     refine tkH (i := 1) (.pointer (some ⟨b, off, none⟩)) rfl (Or.inl ⟨by rfl, fun X _ => by clear hHeld; go_simp⟩) (by assumption) ?_
     simp only [Act.put, pg]
     refine tkH (i := 2) (.pointer (some ⟨b, off, none⟩)) rfl (Or.inl ⟨by rfl, fun X _ => by clear hHeld; go_simp⟩) (by assumption) ?_
     simp only [Act.put, pg]
     refine tkH (i := 3) (.pointer (some ⟨b, off + 3, none⟩)) rfl (Or.inl ⟨by rfl, fun X _ => by clear hHeld; go_simp⟩) (by assumption) ?_
     simp only [Act.put, pg]
     refine tkH (i := 4) (.slice (some ⟨g, 0, none⟩) m gc) rfl (Or.inl ⟨by rfl, ?_⟩) (by assumption) ?_
     · clear hHeld; intro X hSw; obtain ⟨s0, s1, s2⟩ := HSW.out X hSw; clear hSw; go_simp
     simp only [Act.put, pg]
     refine tkH (i := 5) (.slice (some ⟨pb, po, none⟩) (q + 1) pc) rfl (Or.inl ⟨by rfl, fun X _ => by clear hHeld; go_simp⟩) (by assumption) ?_
     simp only [Act.put, pg]
     refine tkH (i := 6) (.pointer (some ⟨pb, po, none⟩)) rfl (Or.inl ⟨by rfl, fun X _ => by clear hHeld; go_simp⟩) (by assumption) ?_
     simp only [Act.put, pg]
     refine tkH (i := 7) (.int .i64 (j : Int)) rfl (Or.inl ⟨by rfl, ?_⟩) (by assumption) ?_
     · clear hHeld; intro X hSw; obtain ⟨s0, s1, s2⟩ := HSW.out X hSw; clear hSw; go_simp
     simp only [Act.put, pg]
     refine tkH (i := 8) (.pointer (some ⟨g, j * 4, none⟩)) rfl (Or.inl ⟨by rfl, fun X _ => by clear hHeld; go_simp⟩) (by assumption) ?_
     simp only [Act.put, pg]
     refine tkH (i := 9) (.slice (some ⟨pb, po, none⟩) (q + 1) pc) rfl (Or.inl ⟨by rfl, fun X _ => by clear hHeld; go_simp⟩) (by assumption) ?_
     simp only [Act.put, pg]
     refine tkH (i := 10) (.slice pq q (pc - 1)) rfl (Or.inl ⟨by rfl, ?_⟩) (by assumption) ?_
     · clear hHeld; intro X hSw; clear hSw; have h1 : (1 : Int) ≤ (q : Int) + 1 := by omega
       go_simp; rw [HPQ.out]
     simp only [Act.put, pg]
     refine wpAnyH_ready (rs := [11]) (by kernel_rfl) (by simp) ?_
     refine AllReadyH.cons (o := _) rfl (fun K hK => ?_) AllReadyH.nil
     rw [if_pos (by rfl)]
     simp only [pg3]
     have HK := Lib.hid hK
     clear hK hHeld
     go_wp2_with (go_at_call 113; refine HCALLD.out.mono ?_; rintro e X' ⟨rfl, hd⟩; have HD := Lib.hid hd; clear hd)
     refine HK.out _ _ (HMK.out _ ?_) (fun hHeld => ?_)
     · obtain ⟨k1, _, k3, _, _⟩ := HD.out
       have hgb := HK1.out.2
       refine ⟨?_, ?_, ?_⟩
       · rw [cell_of_row _ _ 0 _ _ _ ((k1.kept DB hB.hd.1 hB.hd.2.1 hB.hd.2.2).trans hB.down)]; rfl
       · exact (World.cell?_of_block (a := ⟨b, off + 3, none⟩) (k3 b HKP.out.2 hgb.1 HKP.out.1)).trans HK1.out.1.c3
       · exact (World.cell?_of_block (a := ⟨pb, po, none⟩) (k1.kept pb HP.out.2.2.1.1 HP.out.2.2.1.2.1 HP.out.2.2.1.2.2)).trans HP.out.2.1
     clear HK hHeld
     refine wpAnyH_done (by kernel_rfl) ?_ _
     go_wp2_with fail
     go_end0
     obtain ⟨k1, k2, k3, k4, k5⟩ := HD.out
     have hs1 := HK1.out.1.size
     have k2' : X1.heap.size ≤ X'.heap.size := k2
     refine ⟨rfl, k1, by omega, fun y hy hn he => ?_, by rw [List.append_assoc] at k4; exact k4, k5⟩
     rw [k3 y (show y < X1.heap.size by omega) (by have := HK1.out.2.2; omega) he]
     exact HK1.out.1.old y hy hn
theorem zgx (w : World) {E S SS : Nat → Prop} {lf : FuncId} {c0 : Value} {RR : World → Prop} (nv : Value) (t uL cT : Tr) (p : List Nat) (pa : Option Addr) (n pc : Nat) (hS : ∀ y, S y → y < w.heap.size ∧ ¬ E y) (hSS : ∀ y, SS y → y < w.heap.size ∧ ¬ E y) (hsub : ∀ y, S y → SS y) (hE : ∀ y, E y → y < w.heap.size) (hn : n = p.length) (hnb : n ≤ 1000000)
 (ht : zH w S nv t) (hsz : zg t.kids ≤ 400000) (hp : yX w (fun y => y < w.heap.size ∧ ¬ E y) pa pc (yF p)) (hat : atT t p = some uL) (hC : ∀ W, Below w.heap.size w W → W.heap.size = w.heap.size + 4 → zgj Try.prog W w.heap.size E S SS uL lf c0 cT RR) (hRR : ∀ X X' : World, (∀ y, E y → X'.heap[y]? = X.heap[y]?) → RR X → RR X') :
 Calls Try.prog 91 #[nv, .slice pa n pc, .func (.func lf) #[] #[c0]] w (Qb w E SS (zO t p cT) RR) := by
 have hmf : ∀ (fn : Fn) (first cap : Array Value) (w : World), (Instr.makeFunc fn first cap).run Try.prog w = .ok (.func fn first cap) w := fun _ _ _ _ => rfl
 obtain ⟨ka, tc, rfl, hcap, hk⟩ := ht
 obtain ⟨nk, hnk⟩ : ∃ nk, nk = foLen t.kids := ⟨_, rfl⟩
 rw [← hnk]
 obtain ⟨DV, hDV⟩ : ∃ DV, DV = Value.func (.func 113) #[] #[.pointer (some ⟨w.heap.size + 1, 0, none⟩), .pointer (some ⟨w.heap.size + 1 + 1 + 1, 0, none⟩)] := ⟨_, rfl⟩
 obtain ⟨W, hW⟩ : ∃ W, W = zq w [.cells #[.int .i64 t.id, .int .i64 t.kind, .string t.text, .slice ka nk tc] 27, .cells #[.func (.func lf) #[] #[c0]] 139, .cells #[.int .i64 0, .int .i64 0, .string ⟨#[]⟩, .slice none 0 0] 27, .cells #[DV] 171] := ⟨_, rfl⟩
 have hb : Below w.heap.size w W := by rw [hW]; exact zm _ _
 have hs : W.heap.size = w.heap.size + 4 := by rw [hW]; exact zx _ _
 have h0 : W.heap[w.heap.size]? = some (.cells #[.int .i64 t.id, .int .i64 t.kind, .string t.text, .slice ka nk tc] 27 (0, 0)) := by rw [hW]; exact zi _ _ 0 _ rfl
 have h1 : W.heap[w.heap.size + 1]? = some (.cells #[.func (.func lf) #[] #[c0]] 139 (0, 0)) := by rw [hW]; exact zi _ _ 1 _ rfl
 have h2 : W.heap[w.heap.size + 2]? = some (.cells #[.int .i64 0, .int .i64 0, .string ⟨#[]⟩, .slice none 0 0] 27 (0, 0)) := by rw [hW]; exact zi _ _ 2 _ rfl
 have h3 : W.heap[w.heap.size + 3]? = some (.cells #[DV] 171 (0, 0)) := by rw [hW]; exact zi _ _ 3 _ rfl
 have hAS : AlS W w.heap.size E S := ⟨fun y hy => ⟨by have := (hS y hy).1; omega, by have := (hS y hy).1; omega, (hS y hy).2⟩, fun y hy => ⟨by have := hE y hy; omega, by have := hE y hy; omega⟩, by omega⟩
 have hAB : zgL W w.heap.size E lf c0 (w.heap.size + 1) (w.heap.size + 3) := ⟨by rw [h3, hDV], h1, ⟨by omega, by omega, fun h => by have := hE _ h; omega⟩, ⟨by omega, by omega, fun h => by have := hE _ h; omega⟩⟩
 have hAH : AlH W w.heap.size (fun _ => False) W := ⟨rfl, rfl, rfl, Nat.le_refl _, fun _ _ _ _ => rfl⟩
 have hkW : zC W S t.kids ka := hk.kept (w' := W) (S' := S) fun y hy => ⟨hy, hb.block y (hS y hy).1⟩
 obtain ⟨b0, b1, b2, b3⟩ := zF h0
 have hAN : AlN W w.heap.size E S t W [] t w.heap.size 0 := ⟨rfl, b0, b1, b2, ⟨ka, tc, by rw [← hnk]; exact b3, hcap, hkW, fun e => by
  rw [e] at hkW
  cases hkk : t.kids with
  | nil => rfl
  | node _ _ _ _ _ => rw [hkk] at hkW; obtain ⟨_, _, _, _, e2, _⟩ := hkW; cases e2⟩, fun j => frozen_of_row _ _ j _ _ h0, Or.inl rfl, by omega, fun X' S' u' _ _ _ hn => hn⟩
 have hc := zaN hAS hsub (hC W hb hs) (w.heap.size + 1) (w.heap.size + 3) hAB hsz (n + 1) W [] p t w.heap.size 0 pa n pc (Nat.lt_succ_self _) hn hnb hAH hAN hsz (hp.kept fun y hy => ⟨⟨by omega, by omega, hy.2⟩, hb.block y hy.1⟩) hat
 rw [List.nil_append] at hc
 have HC := Lib.hid (aN hc (aN hb (aN hs (aN hW h2))))
 have HDV := Lib.hid hDV
 have HQ := Lib.hid (aN hRR (aN hE hSS))
 clear hc hb hs hW h0 h1 h2 h3 hAS hAB hAH hAN hkW b0 b1 b2 b3 hp hn hDV hS hSS hsub hE hk hcap hC hRR hat hsz hnb hnk
 go_enter Try.func91, Try.ntmps91
 go_wp2_with fail
 have hWW := HC.out.2.2.2.1
 rw [HDV.out] at hWW
 change Calls _ _ _ (zq w [.cells #[.int .i64 t.id, .int .i64 t.kind, .string t.text, .slice ka nk tc] 27, .cells #[.func (.func lf) #[] #[c0]] 139, .cells #[.int .i64 0, .int .i64 0, .string ⟨#[]⟩, .slice none 0 0] 27, .cells #[Value.func (.func 113) #[] #[.pointer (some ⟨w.heap.size + 1, 0, none⟩), .pointer (some ⟨w.heap.size + 1 + 1 + 1, 0, none⟩)]] 171]) _
 rw [← hWW]
 clear hWW
 refine HC.out.1.mono ?_
 rintro e X ⟨rfl, k1, k2, k3, k4, k5⟩
 obtain ⟨y, hy⟩ : ∃ y, y = zO t p cT := ⟨_, rfl⟩
 rw [← hy] at k4 ⊢
 have HY := Lib.hid hy
 obtain ⟨_, d0, d1, d2, kb, kc, d3, hkc, hkk⟩ := k4
 simp only [Nat.zero_add] at d1 d2 d3
 have hr : X.heap[w.heap.size + 2]? = some (.cells #[.int .i64 0, .int .i64 0, .string ⟨#[]⟩, .slice none 0 0] 27 (0, 0)) := (k1.kept _ (by have := HC.out.2.2.1; omega) (by omega) (fun h => by have := HQ.out.2.1 _ h; omega)).trans HC.out.2.2.2.2
 have hkk2 := qy hkk
 obtain ⟨yn, hyn⟩ : ∃ yn, yn = foLen y.kids := ⟨_, rfl⟩
 rw [← hyn] at d3
 obtain ⟨z0, z1, z2, z3⟩ := zF hr
 have zf : ∀ j, X.frozen? ⟨w.heap.size + 2, j, none⟩ = false := fun j => frozen_of_row _ _ j _ _ hr
 obtain ⟨V, hV, r1, r2, r3, r4, r5, r6⟩ := zt (u0 := .int .i64 y.id) (u1 := .int .i64 y.kind) (u2 := .string y.text) (u3 := .slice kb yn kc) hr
 have HV := Lib.hid hV
 have hfin : Qb w E SS y RR (.returned (.agg #[.int .i64 y.id, .int .i64 y.kind, .string y.text, .slice kb yn kc])) V := by
  have hs := HC.out.2.2.1
  have hXs := k1.size
  refine ⟨_, rfl, ⟨kb, kc, by rw [hyn], hkc, hkk2.kept fun z hz => ⟨?_, r2 z ?_⟩⟩, r3.trans (k1.os.trans HC.out.2.1.os), r4.trans (k1.tape.trans HC.out.2.1.tape), r5.trans (k1.output.trans HC.out.2.1.output), by omega, fun z hz he => ?_, HQ.out.1 X V (fun z hz => r2 z (by have := HQ.out.2.1 z hz; omega)) k5⟩
  · have hzl := hz.1.lt
    rcases hz.2 with h | h | h
    · exact Or.inl h
    · exact Or.inr ⟨by omega, by omega⟩
    · exact Or.inr ⟨by omega, by omega⟩
  · rcases hz.2 with h | h | h
    · have := (HQ.out.2.2 z h).1; omega
    · omega
    · omega
  · rw [r2 z (by omega), k1.kept z (by omega) (by omega) he]
    exact HC.out.2.1.block z hz
 have HF := Lib.hid (aN hfin r1)
 clear hfin r1 r2 r3 r4 r5 r6 hV k1 k2 k3 k5 hkc hkk hkk2 hyn hy
 go_wp2_with fail
 rw [← HV.out]
 refine bodyPost_ret (qX rfl _ _ (w.heap.size + 2) 27 _ _ _ rfl HF.out.2 Try.underlying27 rfl (by kernel_rfl)) rfl ?_
 rw [← HY.out]
 exact HF.out.1
end Go.Proofs.Ytgkmmnihaiopaaa
