/-
  .
-/
import Derived.Deep.RegionHeld
import Derived.Test.YtonapijgfalpaaaGreatICopiedQw
import Derived.Deep.Cut
import Derived.Deep.QuietTactic
import Derived.BigQuiet
import Derived.Test.YtonapijgfalpaaaGreatKPathQw
import Derived.Test.YtonapijgfalpaaaGreatKIdsQw
import Derived.Test.YtonapijgfalpaaaGreatERowQw
import Derived.Test.YtonapijgfalpaaaGreatJPgQw
set_option maxRecDepth 100000
set_option maxHeartbeats 40000000
set_option linter.unusedVariables false
set_option linter.unusedSimpArgs false
namespace Go.Proofs.YtonapijgfalpaaaGreat
open Go.RowKit Go.Shelf
structure zgo (P : Program) (W : World) (tb : Nat) (E S SS : Nat → Prop) (u : Tr) (lf : FuncId) (c0 c1 c2 : Value) (c : Tr) (RR : World → Prop) : Prop where
 enter : ∀ (args : Array Value) (w : World), (callFunc lf args).run P w = .ok (.enter lf args) w
 call : ∀ (X X1 : World) (b off : Nat) (sv : Value) (xs : List Value), AlH W tb (fun _ => False) X → AlC W tb E S X u b off sv xs X1 → b < X.heap.size → (b = tb ∨ W.heap.size ≤ b) → Calls P lf #[.pointer (some ⟨b, off, none⟩), c0, c1, c2] X1 (zf7 W tb E SS X.heap.size X1 b off c RR)
structure zgU (W : World) (tb : Nat) (E : Nat → Prop) (lf : FuncId) (c0 c1 c2 : Value) (CB DB : Nat) : Prop where
 down : W.heap[DB]? = some (.cells #[.func (.func 142) #[] #[.pointer (some ⟨CB, 0, none⟩), .pointer (some ⟨DB, 0, none⟩)]] 190 (0, 0))
 change : W.heap[CB]? = some (.cells #[.func (.func lf) #[] #[c0, c1, c2]] 125 (0, 0))
 hd : DB < W.heap.size ∧ DB ≠ tb ∧ ¬ E DB
 hc : CB < W.heap.size ∧ CB ≠ tb ∧ ¬ E CB
theorem zan {W : World} {tb : Nat} {E S SS : Nat → Prop} {lf : FuncId} {c0 c1 c2 : Value} {t uL cT : Tr} {RR : World → Prop} (hS : AlS W tb E S) (hSS : ∀ y, S y → SS y) (hC : zgo Tryz.prog W tb E S SS uL lf c0 c1 c2 cT RR) (CB DB : Nat) (hB : zgU W tb E lf c0 c1 c2 CB DB) (hsz : ze t.kids ≤ 400000) :
 ∀ (M : Nat) (X : World) (p l : List Nat) (u : Tr) (b off : Nat) (pa : Option Addr) (n pc : Nat), n < M → n = l.length → n ≤ 1000000 → AlH W tb (fun _ => False) X → AlN W tb E S t X p u b off → ze u.kids ≤ 400000 → qX W (fun y => y < W.heap.size ∧ y ≠ tb ∧ ¬ E y) pa pc (yE l) → atT u l = some uL →
 Calls Tryz.prog 142 #[.pointer (some ⟨b, off, none⟩), .slice pa n pc, .pointer (some ⟨CB, 0, none⟩), .pointer (some ⟨DB, 0, none⟩)] X (YP W tb E SS X b (yj t (p ++ l) cT) RR) := by
 intro M
 induction M with
 | zero => intro X p l u b off pa n pc h; omega
 | succ M ih =>
   intro X p l u b off pa n pc hM hn hnb hH hN hus hp hat
   obtain ⟨ka, kc, d3, hkc, hk, hk0⟩ := hN.c3
   obtain ⟨xs, hr, hxl, hxc, hx1⟩ := zcl u.kids hk
   have hul := zX u.kids
   have hcl := jW X ka (zb u.kids) kc xs hxl hx1 (by omega) hxc hk0
   obtain ⟨m, hm⟩ : ∃ m, m = zb u.kids := ⟨_, rfl⟩
   rw [← hm] at d3 hcl
   have HCL := Lib.hid hcl
   have hblt := hN.lt
   have hfz := hN.fz
   by_cases hn0 : n = 0
   · subst hn0
     have hl : l = [] := List.length_eq_zero_iff.1 hn.symm
     subst hl
     have hu : u = uL := by simpa [atT] using hat
     subst hu
     have HA := Lib.hid (aN hH (aN hN (aN hr (aN hx1 (aN hm hblt)))))
     have hent := hC.enter
     clear ih hM hp hat hn hnb hH hN hkc hk hk0 hr hxl hxc hx1 hul hcl hus hm
     go_enter Tryz.func142, Tryz.ntmps142
     go_wp2_with fail
     refine HCL.out.mono ?_
     rintro e w1 ⟨v', rfl, hb1, ho⟩
     obtain ⟨va, vc, rfl⟩ := zw ho
     have g3 : w1.cell? ⟨b, off + 3, none⟩ = some (.slice ka m kc) := (hb1.cell (p := ⟨b, off + 3, none⟩) hblt).trans d3
     have gf : ∀ j, w1.frozen? ⟨b, j, none⟩ = false := fun j => (World.frozen?_of_block (hb1.block b hblt)).trans (hfz j)
     rw [HA.out.2.2.2.2.1] at ho
     have hk1 := HA.out.2.1.clone hS HA.out.1 HA.out.2.2.1 HA.out.2.2.2.1 hb1 ho
     rw [← HA.out.2.2.2.2.1] at hk1
     obtain ⟨X1, hX1⟩ : ∃ X1, X1 = w1.setCell ⟨b, off + 3, none⟩ (.slice va m vc) := ⟨_, rfl⟩
     rw [← hX1] at hk1
     have hcb : X1.cell? ⟨CB, 0, none⟩ = some (.func (.func lf) #[] #[c0, c1, c2]) := by rw [cell_of_row _ _ 0 _ _ _ ((hk1.h.kept CB hB.hc.1 hB.hc.2.1 (fun h => h)).trans hB.change)]; rfl
     have HCH := Lib.hid (hC.call X X1 b off _ xs HA.out.1 hk1 hblt HA.out.2.1.bl)
     have HK1 := Lib.hid hk1
     have HX1 := Lib.hid hX1
     clear hb1 ho hk1 d3 hfz hX1 HCL
     rw [HX1.out] at hcb
     go_wp2_with fail
     rw [← HX1.out]
     refine HCH.out.mono ?_
     intro e X' hq
     have hd := HA.out.2.1.done hS hSS HA.out.1 HK1.out hq
     have hr0 := hq.1
     subst hr0
     have hd2 : YP W tb E SS X b (yj t (p ++ []) cT) RR (.returned (.tuple #[])) X' := by rw [List.append_nil]; exact hd
     have HD := Lib.hid hd2
     clear hd2
     clear hq hd hcb
     go_wp2_with fail
     go_end0
     exact HD.out
   · obtain ⟨j, l', rfl⟩ : ∃ j l', l = j :: l' := by
      cases l with
      | nil => simp at hn; omega
      | cons j l' => exact ⟨j, l', rfl⟩
     obtain ⟨q, rfl⟩ : ∃ q, n = q + 1 := ⟨n - 1, by omega⟩
     have hql : q = l'.length := by simp at hn; omega
     obtain ⟨pb, po, rfl, hpb, hpc⟩ := hp.2.resolve_left (fun e => by simp [yE] at e)
     have hnc : q + 1 ≤ pc := by have := hp.1; rw [zN, List.length_cons] at this; omega
     obtain ⟨v, hv, hatv⟩ : ∃ v, zH u.kids j = some v ∧ atT v l' = some uL := by
      simp only [atT] at hat
      cases hkj : zH u.kids j with
      | none => rw [hkj] at hat; cases hat
      | some v => rw [hkj] at hat; exact ⟨v, rfl, hat⟩
     have hjl := qC hv
     have hvs := vF hv
     obtain ⟨pq, hpq⟩ : ∃ pq : Option Addr, pq = if pc = 1 then some ⟨pb, po, none⟩ else some ⟨pb, po + 1, none⟩ := ⟨_, rfl⟩
     have hpd : qX W (fun y => y < W.heap.size ∧ y ≠ tb ∧ ¬ E y) pq (pc - 1) (yE l') := by
      rw [hpq]
      split
      · exact ⟨by rw [zN, ← hql]; omega, Or.inl (by
         have h2 : l' = [] := List.length_eq_zero_iff.1 (by omega)
         rw [h2]; rfl)⟩
      · have h9 : qX W (fun y => y < W.heap.size ∧ y ≠ tb ∧ ¬ E y) (some ⟨pb, po, none⟩) pc (yE (j :: l')) := hp
        have := h9.drop 1
        simpa [yE] using this
     have px : W.cell? ⟨pb, po, none⟩ = some (.int .i64 (j : Int)) := by have := hpc 0 (j : Int) (by simp [yE]); rwa [Nat.add_zero] at this
     have HA := Lib.hid (aN hH (aN hN (aN hr (aN hx1 (aN hm hblt)))))
     have HIH := Lib.hid ih
     have HP := Lib.hid (aN hpd (aN px (aN hpb (aN hql (aN (show q < M by omega) (aN (show q ≤ 1000000 by omega) (aN (show ze v.kids ≤ 400000 by omega) hatv)))))))
     have HPQ := Lib.hid hpq
     have HV := Lib.hid (aN hv (show j < m by omega))
     have hq0 : ¬ (q : Int) + 1 = 0 := by omega
     clear ih hM hp hat hn hnb hH hN hkc hk hk0 hr hxl hxc hx1 hul hcl hus hm hpc hpb hatv hv hvs hpq hpd px hql hn0
     go_enter Tryz.func142, Tryz.ntmps142
     go_wp2_with fail
     refine HCL.out.mono ?_
     rintro e w1 ⟨v', rfl, hb1, ho⟩
     obtain ⟨g, gc, rfl, _⟩ := World.ownsRow.form ho (by have := HV.out.2; omega)
     have g3 : w1.cell? ⟨b, off + 3, none⟩ = some (.slice ka m kc) := (hb1.cell (p := ⟨b, off + 3, none⟩) hblt).trans d3
     have gf : ∀ j, w1.frozen? ⟨b, j, none⟩ = false := fun j => (World.frozen?_of_block (hb1.block b hblt)).trans (hfz j)
     rw [HA.out.2.2.2.2.1] at ho
     have hk1 := HA.out.2.1.clone hS HA.out.1 HA.out.2.2.1 HA.out.2.2.2.1 hb1 ho
     obtain ⟨hN2, hbg, hgX⟩ := HA.out.2.1.down hS HA.out.1 HV.out.1 hk1
     rw [← HA.out.2.2.2.2.1] at hk1 hN2
     obtain ⟨X1, hX1⟩ : ∃ X1, X1 = w1.setCell ⟨b, off + 3, none⟩ (.slice (some ⟨g, 0, none⟩) m gc) := ⟨_, rfl⟩
     rw [← hX1] at hk1 hN2
     have hdb : X1.cell? ⟨DB, 0, none⟩ = some (.func (.func 142) #[] #[.pointer (some ⟨CB, 0, none⟩), .pointer (some ⟨DB, 0, none⟩)]) := by rw [cell_of_row _ _ 0 _ _ _ ((hk1.h.kept DB hB.hd.1 hB.hd.2.1 (fun h => h)).trans hB.down)]; rfl
     have hpx : X1.cell? ⟨pb, po, none⟩ = some (.int .i64 (j : Int)) := (World.cell?_of_block (a := ⟨pb, po, none⟩) (hk1.h.kept pb HP.out.2.2.1.1 HP.out.2.2.1.2.1 (fun h => h))).trans HP.out.2.1
     have hc3 := hk1.c3
     have hcallD := HIH.out X1.drew (p ++ [j]) l' v g (j * 4) pq q (pc - 1) HP.out.2.2.2.2.1 HP.out.2.2.2.1 HP.out.2.2.2.2.2.1 hk1.h.drew hN2.drew HP.out.2.2.2.2.2.2.1 HP.out.1 HP.out.2.2.2.2.2.2.2
     have HCALLD := Lib.hid (show Calls Tryz.prog 142 #[.pointer (some ⟨g, j * 4, none⟩), .slice pq q (pc - 1), .pointer (some ⟨CB, 0, none⟩), .pointer (some ⟨DB, 0, none⟩)] X1.drew _ from hcallD)
     have HK1 := Lib.hid (aN hk1 (aN hbg hgX))
     have hbE := HA.out.2.1.notE hS
     have HKP := Lib.hid (aN hbE (show b < X1.heap.size by have := hk1.size; omega))
     have HX1 := Lib.hid hX1
     obtain ⟨SW, hSW⟩ : ∃ SW : World → Prop, SW = fun X => X.cell? ⟨DB, 0, none⟩ = some (.func (.func 142) #[] #[.pointer (some ⟨CB, 0, none⟩), .pointer (some ⟨DB, 0, none⟩)]) ∧ X.cell? ⟨b, off + 3, none⟩ = some (.slice (some ⟨g, 0, none⟩) m gc) ∧ X.cell? ⟨pb, po, none⟩ = some (.int .i64 (j : Int)) := ⟨_, rfl⟩
     have HSW := Lib.hid (fun (X : World) (h : SW X) => (show X.cell? ⟨DB, 0, none⟩ = some (.func (.func 142) #[] #[.pointer (some ⟨CB, 0, none⟩), .pointer (some ⟨DB, 0, none⟩)]) ∧ X.cell? ⟨b, off + 3, none⟩ = some (.slice (some ⟨g, 0, none⟩) m gc) ∧ X.cell? ⟨pb, po, none⟩ = some (.int .i64 (j : Int)) by rw [hSW] at h; exact h))
     have HMK := Lib.hid (fun (X : World) (h : X.cell? ⟨DB, 0, none⟩ = some (.func (.func 142) #[] #[.pointer (some ⟨CB, 0, none⟩), .pointer (some ⟨DB, 0, none⟩)]) ∧ X.cell? ⟨b, off + 3, none⟩ = some (.slice (some ⟨g, 0, none⟩) m gc) ∧ X.cell? ⟨pb, po, none⟩ = some (.int .i64 (j : Int))) => (show SW X by rw [hSW]; exact h))
     have hS0 : SW X1.drew := HMK.out _ ⟨hdb, hc3, hpx⟩
     have hjm : (j : Int) < (m : Int) := by have := HV.out.2; omega
     have hj0 : (0 : Int) ≤ (j : Int) := by omega
     have hq1 : (0 : Int) < (q : Int) + 1 := by omega
     clear hb1 ho hk1 hN2 hbg hgX d3 hfz hX1 HCL hcallD hdb hpx hc3 hSW hbE
     go_wp2_with fail
     rw [← HX1.out]
     refine wp_region_held_drew (S := SW) (by kernel_rfl) hS0 (fun hHeld => ?_)
     clear hS0
     refine tkH (i := 0) (.func (.func 142) #[] #[.pointer (some ⟨CB, 0, none⟩), .pointer (some ⟨DB, 0, none⟩)]) rfl (Or.inl ⟨by rfl, ?_⟩) (by assumption) ?_
     · clear hHeld; intro X hSw; obtain ⟨s0, s1, s2⟩ := HSW.out X hSw; clear hSw; go_simp
     simp only [Act.put, pg]
     refine tkH (i := 1) (.pointer (some ⟨b, off, none⟩)) rfl (Or.inl ⟨by rfl, fun X _ => by clear hHeld; go_simp⟩) (by assumption) ?_
     simp only [Act.put, pg]
     refine tkH (i := 2) (.pointer (some ⟨b, off, none⟩)) rfl (Or.inl ⟨by rfl, fun X _ => by clear hHeld; go_simp⟩) (by assumption) ?_
     simp only [Act.put, pg]
     refine tkH (i := 3) (.pointer (some ⟨b, off + 3, none⟩)) rfl (Or.inl ⟨by rfl, fun X _ => by clear hHeld; go_simp⟩) (by assumption) ?_
     simp only [Act.put, pg]
     refine tkH (i := 4) (.slice (some ⟨g, 0, none⟩) m gc) rfl (Or.inl ⟨by rfl, ?_⟩) (by assumption) ?_
     · clear hHeld; intro X hSw; obtain ⟨s0, s1, s2⟩ := HSW.out X hSw; clear hSw; go_simp
     simp only [Act.put, pg]
     refine tkH (i := 5) (.slice (some ⟨pb, po, none⟩) (q + 1) pc) rfl (Or.inl ⟨by rfl, fun X _ => by clear hHeld; go_simp⟩) (by assumption) ?_
     simp only [Act.put, pg]
     refine tkH (i := 6) (.pointer (some ⟨pb, po, none⟩)) rfl (Or.inl ⟨by rfl, fun X _ => by clear hHeld; go_simp⟩) (by assumption) ?_
     simp only [Act.put, pg]
     refine tkH (i := 7) (.int .i64 (j : Int)) rfl (Or.inl ⟨by rfl, ?_⟩) (by assumption) ?_
     · clear hHeld; intro X hSw; obtain ⟨s0, s1, s2⟩ := HSW.out X hSw; clear hSw; go_simp
     simp only [Act.put, pg]
     refine tkH (i := 8) (.pointer (some ⟨g, j * 4, none⟩)) rfl (Or.inl ⟨by rfl, fun X _ => by clear hHeld; go_simp⟩) (by assumption) ?_
     simp only [Act.put, pg]
     refine tkH (i := 9) (.slice (some ⟨pb, po, none⟩) (q + 1) pc) rfl (Or.inl ⟨by rfl, fun X _ => by clear hHeld; go_simp⟩) (by assumption) ?_
     simp only [Act.put, pg]
     refine tkH (i := 10) (.slice pq q (pc - 1)) rfl (Or.inl ⟨by rfl, ?_⟩) (by assumption) ?_
     · clear hHeld; intro X hSw; clear hSw; have h1 : (1 : Int) ≤ (q : Int) + 1 := by omega
       go_simp; rw [HPQ.out]
     simp only [Act.put, pg]
     refine wpAnyH_ready (rs := [11]) (by kernel_rfl) (by simp) ?_
     refine AllReadyH.cons (o := _) rfl (fun K hK => ?_) AllReadyH.nil
     rw [if_pos (by rfl)]
     simp only [pg3]
     have HK := Lib.hid hK
     clear hK hHeld
     go_wp2_with (go_at_call 142; refine HCALLD.out.mono ?_; rintro e X' ⟨rfl, hd⟩; have HD := Lib.hid hd; clear hd)
     refine HK.out _ _ (HMK.out _ ?_) (fun hHeld => ?_)
     · obtain ⟨k1, _, k3, _, _⟩ := HD.out
       have hgb := HK1.out.2
       refine ⟨?_, ?_, ?_⟩
       · rw [cell_of_row _ _ 0 _ _ _ ((k1.kept DB hB.hd.1 hB.hd.2.1 hB.hd.2.2).trans hB.down)]; rfl
       · exact (World.cell?_of_block (a := ⟨b, off + 3, none⟩) (k3 b HKP.out.2 hgb.1 HKP.out.1)).trans HK1.out.1.c3
       · exact (World.cell?_of_block (a := ⟨pb, po, none⟩) (k1.kept pb HP.out.2.2.1.1 HP.out.2.2.1.2.1 HP.out.2.2.1.2.2)).trans HP.out.2.1
     clear HK hHeld
     refine wpAnyH_done (by kernel_rfl) ?_ _
     go_wp2_with fail
     go_end0
     obtain ⟨k1, k2, k3, k4, k5⟩ := HD.out
     have hs1 := HK1.out.1.size
     have k2' : X1.heap.size ≤ X'.heap.size := k2
     refine ⟨rfl, k1, by omega, fun y hy hn he => ?_, by rw [List.append_assoc] at k4; exact k4, k5⟩
     rw [k3 y (show y < X1.heap.size by omega) (by have := HK1.out.2.2; omega) he]
     exact HK1.out.1.old y hy hn
theorem zf5 (w : World) {E S SS : Nat → Prop} {lf : FuncId} {c0 c1 c2 : Value} {RR : World → Prop} (nv : Value) (t uL cT : Tr) (p : List Nat) (pa : Option Addr) (n pc : Nat) (hS : ∀ y, S y → y < w.heap.size ∧ ¬ E y) (hSS : ∀ y, SS y → y < w.heap.size ∧ ¬ E y) (hsub : ∀ y, S y → SS y) (hE : ∀ y, E y → y < w.heap.size) (hn : n = p.length) (hnb : n ≤ 1000000)
 (ht : zL w S nv t) (hsz : ze t.kids ≤ 400000) (hp : qX w (fun y => y < w.heap.size ∧ ¬ E y) pa pc (yE p)) (hat : atT t p = some uL) (hC : ∀ W, Below w.heap.size w W → W.heap.size = w.heap.size + 4 → zgo Tryz.prog W w.heap.size E S SS uL lf c0 c1 c2 cT RR) (hRR : ∀ X X' : World, (∀ y, E y → X'.heap[y]? = X.heap[y]?) → RR X → RR X') :
 Calls Tryz.prog 127 #[nv, .slice pa n pc, .func (.func lf) #[] #[c0, c1, c2]] w (JH w E SS (yj t p cT) RR) := by
 have hmf : ∀ (fn : Fn) (first cap : Array Value) (w : World), (Instr.makeFunc fn first cap).run Tryz.prog w = .ok (.func fn first cap) w := fun _ _ _ _ => rfl
 obtain ⟨ka, tc, rfl, hcap, hk⟩ := ht
 obtain ⟨nk, hnk⟩ : ∃ nk, nk = zb t.kids := ⟨_, rfl⟩
 rw [← hnk]
 obtain ⟨DV, hDV⟩ : ∃ DV, DV = Value.func (.func 142) #[] #[.pointer (some ⟨w.heap.size + 1, 0, none⟩), .pointer (some ⟨w.heap.size + 1 + 1 + 1, 0, none⟩)] := ⟨_, rfl⟩
 obtain ⟨W, hW⟩ : ∃ W, W = zo w [.cells #[.int .i64 t.id, .int .i64 t.kind, .string t.text, .slice ka nk tc] 37, .cells #[.func (.func lf) #[] #[c0, c1, c2]] 125, .cells #[.int .i64 0, .int .i64 0, .string ⟨#[]⟩, .slice none 0 0] 37, .cells #[DV] 190] := ⟨_, rfl⟩
 have hb : Below w.heap.size w W := by rw [hW]; exact zk _ _
 have hs : W.heap.size = w.heap.size + 4 := by rw [hW]; exact zx _ _
 have h0 : W.heap[w.heap.size]? = some (.cells #[.int .i64 t.id, .int .i64 t.kind, .string t.text, .slice ka nk tc] 37 (0, 0)) := by rw [hW]; exact zg _ _ 0 _ rfl
 have h1 : W.heap[w.heap.size + 1]? = some (.cells #[.func (.func lf) #[] #[c0, c1, c2]] 125 (0, 0)) := by rw [hW]; exact zg _ _ 1 _ rfl
 have h2 : W.heap[w.heap.size + 2]? = some (.cells #[.int .i64 0, .int .i64 0, .string ⟨#[]⟩, .slice none 0 0] 37 (0, 0)) := by rw [hW]; exact zg _ _ 2 _ rfl
 have h3 : W.heap[w.heap.size + 3]? = some (.cells #[DV] 190 (0, 0)) := by rw [hW]; exact zg _ _ 3 _ rfl
 have hAS : AlS W w.heap.size E S := ⟨fun y hy => ⟨by have := (hS y hy).1; omega, by have := (hS y hy).1; omega, (hS y hy).2⟩, fun y hy => ⟨by have := hE y hy; omega, by have := hE y hy; omega⟩, by omega⟩
 have hAB : zgU W w.heap.size E lf c0 c1 c2 (w.heap.size + 1) (w.heap.size + 3) := ⟨by rw [h3, hDV], h1, ⟨by omega, by omega, fun h => by have := hE _ h; omega⟩, ⟨by omega, by omega, fun h => by have := hE _ h; omega⟩⟩
 have hAH : AlH W w.heap.size (fun _ => False) W := ⟨rfl, rfl, rfl, Nat.le_refl _, fun _ _ _ _ => rfl⟩
 have hkW : zF W S t.kids ka := hk.kept (w' := W) (S' := S) fun y hy => ⟨hy, hb.block y (hS y hy).1⟩
 obtain ⟨b0, b1, b2, b3⟩ := zJ h0
 have hAN : AlN W w.heap.size E S t W [] t w.heap.size 0 := ⟨rfl, b0, b1, b2, ⟨ka, tc, by rw [← hnk]; exact b3, hcap, hkW, fun e => by
  rw [e] at hkW
  cases hkk : t.kids with
  | nil => rfl
  | node _ _ _ _ _ => rw [hkk] at hkW; obtain ⟨_, _, _, _, e2, _⟩ := hkW; cases e2⟩, fun j => frozen_of_row _ _ j _ _ h0, Or.inl rfl, by omega, fun X' S' u' _ _ _ hn => hn⟩
 have hc := zan hAS hsub (hC W hb hs) (w.heap.size + 1) (w.heap.size + 3) hAB hsz (n + 1) W [] p t w.heap.size 0 pa n pc (Nat.lt_succ_self _) hn hnb hAH hAN hsz (hp.kept fun y hy => ⟨⟨by omega, by omega, hy.2⟩, hb.block y hy.1⟩) hat
 rw [List.nil_append] at hc
 have HC := Lib.hid (aN hc (aN hb (aN hs (aN hW h2))))
 have HDV := Lib.hid hDV
 have HQ := Lib.hid (aN hRR (aN hE hSS))
 clear hc hb hs hW h0 h1 h2 h3 hAS hAB hAH hAN hkW b0 b1 b2 b3 hp hn hDV hS hSS hsub hE hk hcap hC hRR hat hsz hnb hnk
 go_enter Tryz.func127, Tryz.ntmps127
 go_wp2_with fail
 have hWW := HC.out.2.2.2.1
 rw [HDV.out] at hWW
 change Calls _ _ _ (zo w [.cells #[.int .i64 t.id, .int .i64 t.kind, .string t.text, .slice ka nk tc] 37, .cells #[.func (.func lf) #[] #[c0, c1, c2]] 125, .cells #[.int .i64 0, .int .i64 0, .string ⟨#[]⟩, .slice none 0 0] 37, .cells #[Value.func (.func 142) #[] #[.pointer (some ⟨w.heap.size + 1, 0, none⟩), .pointer (some ⟨w.heap.size + 1 + 1 + 1, 0, none⟩)]] 190]) _
 rw [← hWW]
 clear hWW
 refine HC.out.1.mono ?_
 rintro e X ⟨rfl, k1, k2, k3, k4, k5⟩
 obtain ⟨y, hy⟩ : ∃ y, y = yj t p cT := ⟨_, rfl⟩
 rw [← hy] at k4 ⊢
 have HY := Lib.hid hy
 obtain ⟨_, d0, d1, d2, kb, kc, d3, hkc, hkk⟩ := k4
 simp only [Nat.zero_add] at d1 d2 d3
 have hr : X.heap[w.heap.size + 2]? = some (.cells #[.int .i64 0, .int .i64 0, .string ⟨#[]⟩, .slice none 0 0] 37 (0, 0)) := (k1.kept _ (by have := HC.out.2.2.1; omega) (by omega) (fun h => by have := HQ.out.2.1 _ h; omega)).trans HC.out.2.2.2.2
 have hkk2 := vG hkk
 obtain ⟨yn, hyn⟩ : ∃ yn, yn = zb y.kids := ⟨_, rfl⟩
 rw [← hyn] at d3
 obtain ⟨z0, z1, z2, z3⟩ := zJ hr
 have zf : ∀ j, X.frozen? ⟨w.heap.size + 2, j, none⟩ = false := fun j => frozen_of_row _ _ j _ _ hr
 obtain ⟨V, hV, r1, r2, r3, r4, r5, r6⟩ := zu (u0 := .int .i64 y.id) (u1 := .int .i64 y.kind) (u2 := .string y.text) (u3 := .slice kb yn kc) hr
 have HV := Lib.hid hV
 have hfin : JH w E SS y RR (.returned (.agg #[.int .i64 y.id, .int .i64 y.kind, .string y.text, .slice kb yn kc])) V := by
  have hs := HC.out.2.2.1
  have hXs := k1.size
  refine ⟨_, rfl, ⟨kb, kc, by rw [hyn], hkc, hkk2.kept fun z hz => ⟨?_, r2 z ?_⟩⟩, r3.trans (k1.os.trans HC.out.2.1.os), r4.trans (k1.tape.trans HC.out.2.1.tape), r5.trans (k1.output.trans HC.out.2.1.output), by omega, fun z hz he => ?_, HQ.out.1 X V (fun z hz => r2 z (by have := HQ.out.2.1 z hz; omega)) k5⟩
  · have hzl := hz.1.lt
    rcases hz.2 with h | h | h
    · exact Or.inl h
    · exact Or.inr ⟨by omega, by omega⟩
    · exact Or.inr ⟨by omega, by omega⟩
  · rcases hz.2 with h | h | h
    · have := (HQ.out.2.2 z h).1; omega
    · omega
    · omega
  · rw [r2 z (by omega), k1.kept z (by omega) (by omega) he]
    exact HC.out.2.1.block z hz
 have HF := Lib.hid (aN hfin r1)
 clear hfin r1 r2 r3 r4 r5 r6 hV k1 k2 k3 k5 hkc hkk hkk2 hyn hy
 go_wp2_with fail
 rw [← HV.out]
 refine bodyPost_ret (yO rfl _ _ (w.heap.size + 2) 37 _ _ _ rfl HF.out.2 Tryz.underlying37 rfl (by kernel_rfl)) rfl ?_
 rw [← HY.out]
 exact HF.out.1
end Go.Proofs.YtonapijgfalpaaaGreat
namespace Go.Proofs.YtonapijgfalpaaaGreat
open Go.RowKit Go.Shelf
def YN (w : World) (T : Nat → Prop) (r : Tr × Int) (e : Ending) (w' : World) : Prop := ∃ v, e = .returned (.tuple #[v, .int .i64 r.2]) ∧ zL w' (fun y => T y ∨ w.heap.size ≤ y ∧ y < w'.heap.size) v r.1 ∧ Below w.heap.size w w'
theorem step_end {P : Program} {fn : Func} {p u : Tmp} (h : fn.results = #[.cell p 37, .tmp u]) (hP : P = Tryz.prog) {w W : World} {T : Nat → Prop} {tmps : Array Value} {r : Tr × Int} {g m kc : Nat} {kb : Option Addr} {y : Tr} (hb : Below w.heap.size w W) (hg : w.heap.size ≤ g) (hz : ∃ cs fr, W.heap[g]? = some (.cells #[.int .i64 y.id, .int .i64 y.kind, .string y.text, .slice kb m kc] 37 fr) ∧ cs = m) (hm : m = zb y.kids) (hc : zb y.kids ≤ kc) (hf : zF W (fun z => T z ∨ w.heap.size ≤ z ∧ z < W.heap.size) y.kids kb) (hy : r.1 = y)
 (h1 : tmps.getD p undef = .pointer (some ⟨g, 0, none⟩)) (h2 : tmps.getD u undef = .int .i64 r.2) : bodyPost P fn (YN w T r) .ret { tmps, defers := [] } W := by
 subst hP
 obtain ⟨cs, fr, hz, _⟩ := hz
 refine bodyPost_ret (yN h tmps W g 37 _ _ _ (.int .i64 r.2) h1 hz Tryz.underlying37 rfl (by kernel_rfl) h2) rfl ?_
 exact ⟨_, rfl, by rw [hy]; exact ⟨kb, kc, by rw [hm], hc, hf⟩, hb⟩
theorem QW {par at_ : Int} {t x : Tr} (h : zM par t = none) : Yt par at_ t x = (zA, 4) := by unfold Yt; rw [h]
theorem Q4 {par at_ : Int} {t x u : Tr} {p : List Nat} (h : zM par t = some p) (hu : atT t p = some u) : Yt par at_ t x = if 0 ≤ at_ ∧ at_ ≤ (zb u.kids : Int) then (yj t p ⟨u.id, u.kind, u.text, vK u.kids at_.toNat x⟩, 0) else (yj t p u, 2) := by unfold Yt; rw [h]; simp only; rw [hu]
theorem kg {w : World} {B B' : Nat} {e : TypeId} {size : Nat} {v : Value} {n : Nat} {xs : List Value} (h : w.ownsRow B e size v n xs) (hB : B' ≤ B) : w.ownsRow B' e size v n xs :=
 ⟨h.1, h.2.imp (fun h => h) (fun ⟨g, c, cur, h1, h2, h3⟩ => ⟨g, c, cur, h1, Nat.le_trans hB h2, h3⟩)⟩
def Ju (w : World) (l : List Int) (e : Ending) (w' : World) : Prop := ∃ a c, e = .returned (.slice a l.length c) ∧ w'.ownsRow w.heap.size 3 1 (.slice a l.length c) l.length (l.map qF) ∧ Below w.heap.size w w'
theorem zcg (w : World) (S : Nat → Prop) (nv : Value) (t : Tr) (up : Int) (hS : ∀ y, S y → y < w.heap.size) (ht : zL w S nv t) (hsz : ((ze t.kids + 1 : Nat) : Int) ≤ up) (hup : up ≤ 1000000) :
 Calls Tryz.prog 57 #[nv, .int .i64 up] w (Ju w (idT t)) := by
 have hmf : ∀ (fn : Fn) (first cap : Array Value) (w : World), (Instr.makeFunc fn first cap).run Tryz.prog w = .ok (.func fn first cap) w := fun _ _ _ _ => rfl
 obtain ⟨ka, tc, rfl, hcap, hk⟩ := ht
 obtain ⟨nk, hnk⟩ : ∃ nk, nk = zb t.kids := ⟨_, rfl⟩
 rw [← hnk]
 obtain ⟨DV, hDV⟩ : ∃ DV, DV = Value.func (.func 77) #[] #[.pointer (some ⟨w.heap.size + 1 + 1, 0, none⟩), .pointer (some ⟨w.heap.size + 1, 0, none⟩), .pointer (some ⟨w.heap.size + 1 + 1 + 1, 0, none⟩)] := ⟨_, rfl⟩
 obtain ⟨W, hW⟩ : ∃ W, W = zo w [.cells #[.int .i64 t.id, .int .i64 t.kind, .string t.text, .slice ka nk tc] 37, .cells #[.int .i64 up] 3, .cells #[.slice none 0 0] 30, .cells #[DV] 125] := ⟨_, rfl⟩
 have hb : Below w.heap.size w W := by rw [hW]; exact zk _ _
 have hs : W.heap.size = w.heap.size + 4 := by rw [hW]; exact zx _ _
 have h0 : W.heap[w.heap.size]? = some (.cells #[.int .i64 t.id, .int .i64 t.kind, .string t.text, .slice ka nk tc] 37 (0, 0)) := by rw [hW]; exact zg _ _ 0 _ rfl
 have h1 : W.heap[w.heap.size + 1]? = some (.cells #[.int .i64 up] 3 (0, 0)) := by rw [hW]; exact zg _ _ 1 _ rfl
 have h2 : W.heap[w.heap.size + 1 + 1]? = some (.cells #[.slice none 0 0] 30 (0, 0)) := by rw [hW]; exact zg _ _ 2 _ rfl
 have h3 : W.heap[w.heap.size + 1 + 1 + 1]? = some (.cells #[DV] 125 (0, 0)) := by rw [hW]; exact zg _ _ 3 _ rfl
 have hIW : IdW W (w.heap.size + 1 + 1) (w.heap.size + 1) (w.heap.size + 1 + 1 + 1) up := ⟨by rw [h3, hDV], h1, ⟨by omega, by omega⟩, ⟨by omega, by omega⟩, by omega⟩
 obtain ⟨b0, b1, b2, b3⟩ := zJ h0
 have hkW : zF W (fun y => S y ∨ y = w.heap.size) t.kids ka := hk.kept (w' := W) fun y hy => ⟨Or.inl hy, hb.block y (hS y hy)⟩
 have hnode : jd W (fun y => S y ∨ y = w.heap.size) t w.heap.size 0 := ⟨Or.inr rfl, b0, b1, b2, ka, tc, by rw [← hnk]; exact b3, hcap, hkW⟩
 have hIA : Yr W (w.heap.size + 1 + 1) (w.heap.size + 1) (w.heap.size + 1 + 1 + 1) up [] W := ⟨⟨none, 0, h2, World.ownsRow_nil _ _ _ _⟩, fun _ _ _ => rfl, Nat.le_refl _, rfl, rfl, rfl⟩
 have hc := zeo hIW (S := fun y => S y ∨ y = w.heap.size) (fun y hy => by rcases hy with hy | hy; have := hS y hy; exact ⟨by omega, by omega⟩; exact ⟨by omega, by omega⟩) hup (ze t.kids + 1) W [] t w.heap.size 0 (Nat.lt_succ_self _) hnode hIA (by simpa using hsz)
 rw [List.nil_append] at hc
 have HC := hH (aN hc (aN hb (aN hs hW)))
 have HDV := hH hDV
 clear hc hb hs hW h0 h1 h2 h3 hIW b0 b1 b2 b3 hkW hnode hIA hDV hS hk hcap hsz hup hnk
 go_enter Tryz.func57, Tryz.ntmps57
 go_wp2_with fail
 have hWW := HC.out.2.2.2
 rw [HDV.out] at hWW
 change Calls _ _ _ (zo w [.cells #[.int .i64 t.id, .int .i64 t.kind, .string t.text, .slice ka nk tc] 37, .cells #[.int .i64 up] 3, .cells #[.slice none 0 0] 30, .cells #[Value.func (.func 77) #[] #[.pointer (some ⟨w.heap.size + 1 + 1, 0, none⟩), .pointer (some ⟨w.heap.size + 1, 0, none⟩), .pointer (some ⟨w.heap.size + 1 + 1 + 1, 0, none⟩)]] 125]) _
 rw [← hWW]
 clear hWW
 refine HC.out.1.mono ?_
 rintro e X ⟨rfl, hX⟩
 obtain ⟨a, c, hl, hro⟩ := hX.row
 have hl0 : X.cell? ⟨w.heap.size + 1 + 1, 0, none⟩ = some (.slice a (idT t).length c) := by rw [cell_of_row _ _ 0 _ _ _ hl]; rfl
 have hbX : Below w.heap.size w X := ⟨hX.os.trans HC.out.2.1.os, hX.tape.trans HC.out.2.1.tape, hX.output.trans HC.out.2.1.output, Nat.le_trans HC.out.2.1.size hX.size, fun y hy => (hX.below y (by have := HC.out.2.2.1; omega) (by omega)).trans (HC.out.2.1.block y hy)⟩
 have HE := hH (aN (kg hro HC.out.2.1.size) hbX)
 obtain ⟨L, hL⟩ : ∃ L, L = idT t := ⟨_, rfl⟩
 rw [← hL] at hl0 HE
 have HL := hH hL
 obtain ⟨n, hn⟩ : ∃ n, n = L.length := ⟨_, rfl⟩
 rw [← hn] at hl0
 have HN := hH hn
 clear hl hro hX hbX hL hn
 go_wp2_with fail
 go_ret
 exact ⟨a, c, by rw [← HL.out, ← HN.out]; rfl, by have h := HE.out.1; rw [HL.out] at h; exact h, HE.out.2⟩
theorem kC (w : World) (S : Nat → Prop) (nv : Value) (t : Tr) (hS : ∀ y, S y → y < w.heap.size) (ht : zL w S nv t) (hsz : ze t.kids + 1 ≤ 2000) :
 Calls Tryz.prog 84 #[nv] w fun e w' => e = .returned (.bool false) ∧ Below w.heap.size w w' := by
 obtain ⟨ka, tc, rfl, hcap, hk⟩ := ht
 have hb : Below w.heap.size w (w.alloc (.cells #[.int .i64 t.id, .int .i64 t.kind, .string t.text, .slice ka (zb t.kids) tc] 37)) := (Below.refl _ _).alloc (Nat.le_refl _) _
 have hc := zcg (w.alloc (.cells #[.int .i64 t.id, .int .i64 t.kind, .string t.text, .slice ka (zb t.kids) tc] 37)) S (.agg #[.int .i64 t.id, .int .i64 t.kind, .string t.text, .slice ka (zb t.kids) tc]) t 2001 (fun y hy => nL (hS y hy) hb.size) ⟨ka, tc, rfl, hcap, hk.below hb hS⟩ (by omega) (by omega)
 obtain ⟨nk, hnk⟩ : ∃ nk, nk = zb t.kids := ⟨_, rfl⟩
 rw [← hnk] at hc hb ⊢
 obtain ⟨n, hn⟩ : ∃ n, n = (idT t).length := ⟨_, rfl⟩
 have hn2 : ¬ (2000 : Int) < (n : Int) := by rw [hn, yL]; omega
 have HC := hH (aN hc (aN hb hn))
 clear hc hb hn hk hcap hS hsz hnk
 go_enter Tryz.func84, Tryz.ntmps84
 go_wp2_with fail
 refine HC.out.1.mono ?_
 rintro e w2 ⟨a, c, rfl, _, hb2⟩
 rw [← HC.out.2.2]
 have HN2 := hH hn2
 have HB := hH (HC.out.2.1.trans (hb2.mono HC.out.2.1.size))
 clear hb2
 go_wp2_with fail
 go_ret
 refine ⟨?_, HB.out⟩
 have e : decide ((2000 : Int) < (n : Int)) = false := decide_eq_false (by omega)
 show Ending.returned (.bool (decide ((2000 : Int) < (n : Int)))) = _
 rw [e]
def opsV : Value := .agg #[.nilFunc, .func (.func 104) #[] #[], .func (.func 105) #[] #[], .func (.func 106) #[] #[], .func (.func 107) #[] #[]]
def zgH : Obj := .cells #[.nilFunc, .func (.func 104) #[] #[], .func (.func 105) #[] #[], .func (.func 106) #[] #[], .func (.func 107) #[] #[]] 134 (0, 0)
theorem jY (w : World) : Calls Tryz.prog 85 #[] w fun e w' => e = .returned opsV ∧ Below w.heap.size w w' := by
 go_enter Tryz.func85, Tryz.ntmps85
 go_wp2_with fail
 exact bodyPost_ret (yO rfl _ _ w.heap.size 134 _ _ _ rfl (heap_alloc_new w _) Tryz.underlying134 rfl (by kernel_rfl)) rfl ⟨rfl, (Below.refl _ _).alloc (Nat.le_refl _) _⟩
theorem zF.cells {w : World} {S : Nat → Prop} : ∀ {f : Fo} {a : Option Addr}, zF w S f a → zF w (fun x => zZ w x ∧ S x) f a
 | .nil, _, _ => True.intro
 | .node _ _ k l r, a, h => by
   obtain ⟨b, off, ka, cap, e, hb, h0, h1, h2, h3, h4, h5, h6⟩ := h
   exact ⟨b, off, ka, cap, e, ⟨zgf h0, hb⟩, h0, h1, h2, h3, h4, h5.cells, h6.cells⟩
theorem yX (w : World) (o : Obj) : (w.alloc o).heap.size = w.heap.size + 1 := by simp
def zY (r : Tr × Int) : Tr := if r.2 = 0 then r.1 else zA
def qz (w : World) (T : Nat → Prop) (r : Tr × Int) (e : Ending) (w' : World) : Prop := ∃ v, e = .returned (.tuple #[v, .int .i64 r.2]) ∧ zL w' (fun y => zZ w' y ∧ (T y ∨ w.heap.size ≤ y)) v (zY r) ∧ Below w.heap.size w w'
theorem ym {P : Program} {fn : Func} {p u : Tmp} (h : fn.results = #[.cell p 37, .tmp u]) (hP : P = Tryz.prog) {w W : World} {T : Nat → Prop} {tmps : Array Value} {r : Tr × Int} {g m kc : Nat} {kb : Option Addr} {y : Tr} (hb : Below w.heap.size w W) (hz : W.heap[g]? = some (.cells #[.int .i64 y.id, .int .i64 y.kind, .string y.text, .slice kb m kc] 37 (0, 0))) (hm : m = zb y.kids) (hc : zb y.kids ≤ kc) (hf : zF W (fun z => zZ W z ∧ (T z ∨ w.heap.size ≤ z)) y.kids kb) (hy : zY r = y)
 (h1 : tmps.getD p undef = .pointer (some ⟨g, 0, none⟩)) (h2 : tmps.getD u undef = .int .i64 r.2) : bodyPost P fn (qz w T r) .ret { tmps, defers := [] } W := by
 subst hP
 refine bodyPost_ret (yN h tmps W g 37 _ _ _ (.int .i64 r.2) h1 hz Tryz.underlying37 rfl (by kernel_rfl) h2) rfl ?_
 exact ⟨_, rfl, by rw [hy]; exact ⟨kb, kc, by rw [hm], hc, hf⟩, hb⟩
end Go.Proofs.YtonapijgfalpaaaGreat
