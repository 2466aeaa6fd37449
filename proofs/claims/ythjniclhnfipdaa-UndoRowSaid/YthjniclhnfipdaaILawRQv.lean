/-
  What UndoRow answers: true. No condition but that its arguments lie in memory as they came in.
-/
import Derived.Deep.Cut
import Derived.Deep.CutRange
import Derived.Deep.LoopGhost
import Derived.Deep.AppendLies
import Derived.Test.YthjniclhnfipdaaIRowIQv
namespace Go.Proofs.Ythjniclhnfipdaa
open Go.RowKit Go.Shelf
set_option linter.unusedVariables false
set_option linter.unusedSimpArgs false

theorem Try.infoStI : (Try.prog.info? 47).map (fun i => (i.size, i.bytes, i.zero.map (fun z => z.cells.size))) = some (9, 104, some 9) := by kernel_rfl
def YesR (w : World) (e : Ending) (w' : World) : Prop := e = .returned (.bool true) ∧ Below w.heap.size w w'
set_option maxRecDepth 100000 in
set_option maxHeartbeats 40000000 in
theorem undoRow_any (w : World) (ka la : Option Addr) (tc lc : Nat) (t : Tr) (ls : List Sf) (hlen : foLen t.kids ≤ 9223372036854775807) (hfit : foFit t.kids) (hlt : LiesI w t.kids ka tc) (hin : InI w la ls) (hll : ls.length ≤ lc) :
    Calls Try.prog 14 #[.agg #[.int .i64 t.id, .int .i64 t.kind, .string t.text, .slice ka (foLen t.kids) tc], .slice la ls.length lc] w (YesR w) := by
  obtain ⟨nk, hnk⟩ : ∃ nk, nk = foLen t.kids := ⟨_, rfl⟩
  obtain ⟨n, hn⟩ : ∃ n, n = ls.length := ⟨_, rfl⟩
  rw [← hnk, ← hn]
  rw [← hn] at hll
  obtain ⟨B, hB⟩ : ∃ B, B = w.alloc (.cells #[.int .i64 t.id, .int .i64 t.kind, .string t.text, .slice ka nk tc] 24) := ⟨_, rfl⟩
  have Bw := Lib.hid (show Below w.heap.size w B by rw [hB]; exact box_below _ _)
  have Et := Lib.hid (show B.heap[w.heap.size]? = some (.cells #[.int .i64 t.id, .int .i64 t.kind, .string t.text, .slice ka nk tc] 24 (0, 0)) by rw [hB]; exact heap_alloc_new _ _)
  have HP := Lib.hid (And.intro hlen hfit)
  have Lw := Lib.hid hlt
  have HIN := Lib.hid hin
  have Nt := Lib.hid hnk
  have Nn := Lib.hid hn
  have HBE := Lib.hid hB
  have hap := apartL hlen hfit hlt Bw.out
  rw [← hnk] at hap
  have HAP := Lib.hid hap
  have HLL := Lib.hid hll
  clear hlen hfit hlt hin hnk hn hB hap hll
  go_enter Try.func14, Try.ntmps14
  go_upto_region 1 with fail
  rw [← HBE.out]
  clear HBE
  obtain ⟨t0, t1, t2, t3⟩ := box4 Et.out
  go_wp2_with fail
  refine HAP.out.mono ?_
  rintro e W1 ⟨ba, rfl, hba, hb⟩
  replace Et := Lib.hid ((hb.block _ (lt_of_heap Et.out)).trans Et.out)
  replace Bw := Lib.hid (Bw.out.trans (hb.mono Bw.out.size))
  have HBA := Lib.hid hba
  clear hba hb HAP t0 t1 t2 t3
  cases ba
  · go_wp2_with fail
    refine (wakes10_any W1).mono ?_
    rintro e WZ ⟨rfl, hbz⟩
    have HZ := Lib.hid ((Bw.out).trans (hbz.mono (Bw.out).size))
    clear hbz
    go_wp2_with fail
    go_ret
    exact ⟨rfl, HZ.out⟩
  · have HA := Lib.hid (HBA.out rfl)
    clear HBA
    by_cases h30 : 30 < n
    · go_wp2_with fail
      refine (wakes10_any W1).mono ?_
      rintro e WZ ⟨rfl, hbz⟩
      have HZ := Lib.hid ((Bw.out).trans (hbz.mono (Bw.out).size))
      clear hbz
      go_wp2_with fail
      go_ret
      exact ⟨rfl, HZ.out⟩
    · obtain ⟨t0, t1, t2, t3⟩ := box4 Et.out
      obtain ⟨U1, hU1⟩ : ∃ U1, U1 = W1.alloc (.cells #[.int .i64 t.id, .int .i64 t.kind, .string t.text, .slice ka nk tc] 24) := ⟨_, rfl⟩
      have hb1 : Below W1.heap.size W1 U1 := by rw [hU1]; exact box_below _ _
      have hbw1 := Bw.out.trans (hb1.mono Bw.out.size)
      have hrow : RowI w U1 (some ⟨W1.heap.size, 0, none⟩) 1 none 0 [t] [] := by
        refine ⟨hbw1, ⟨[.int .i64 t.id, .int .i64 t.kind, .string t.text, .slice ka nk tc], ?_, ka, tc, [], ?_, ?_, rfl⟩, ⟨[], World.ownsRow_nil _ _ _ _, rfl⟩, ChainI.one HA.out⟩
        · rw [hU1]; exact World.ownsRow_lit W1 #[.int .i64 t.id, .int .i64 t.kind, .string t.text, .slice ka nk tc] 1 Bw.out.size (by unfold maxLen; omega) rfl
        · rw [Nt.out]; rfl
        · refine Lw.out.n hbw1 ?_
          rintro q (⟨a, e, h⟩ | ⟨a, e, h⟩)
          · cases e; have := Bw.out.size; simp only at h; omega
          · cases e
      have HROW := Lib.hid hrow
      have HU := Lib.hid hU1
      clear hrow hU1 hb1 hbw1
      go_upto_region 4 with fail
      rw [← HU.out]
      clear HU t0 t1 t2 t3
      go_wp2_with fail
      go_loopg [5, 6, 7] n (fun gk tv bv iv wr => ∃ (k : Nat) (ta : Option Addr) (tz : Nat) (bb : Option Addr) (bz : Nat) (ts : List Tr) (bs : List Sf), k + gk = n ∧ iv = .int .i64 (k : Int) ∧ tv = .slice ta (bs.length + 1) tz ∧ bv = .slice bb bs.length bz ∧ Hid (RowI w wr ta tz bb bz ts bs ∧ bs.length ≤ k))
      case atStart => exact ⟨0, some ⟨W1.heap.size, 0, none⟩, 1, none, 0, [t], [], by omega, rfl, rfl, rfl, Lib.hid ⟨HROW.out, Nat.zero_le _⟩⟩
      case round =>
        obtain ⟨k, ta, tz, bb, bz, ts, bs, hk, rfl, rfl, rfl, hh⟩ := hrel
        obtain ⟨wo, hwo⟩ : ∃ wo, wo = wr := ⟨_, rfl⟩
        subst hwo
        obtain ⟨m, hm⟩ : ∃ m, m = bs.length := ⟨_, rfl⟩
        rw [← hm]
        have hh1 := hh.out.1
        have HMK := Lib.hid (show m ≤ k by rw [hm]; exact hh.out.2)
        have HM := Lib.hid hm
        by_cases hlt : k < n
        · have hki : (k : Int) < (n : Int) := by omega
          obtain ⟨s, hs⟩ : ∃ s, ls[k]? = some s := ⟨_, List.getElem?_eq_getElem (by rw [← Nn.out]; exact hlt)⟩
          obtain ⟨lb, lo, va, vc, hla, hlb, hcs, hls, hl1, hl2, hl3, hl4⟩ := HIN.out k s hs
          subst hla
          obtain ⟨sn, hsn⟩ : ∃ sn, sn = foLen s.sub.kids := ⟨_, rfl⟩
          have HC : Hid (∀ X, Below w.heap.size w X → X.cell? ⟨lb, lo + k * 9, none⟩ = some (.int .i8 s.op) ∧ X.cell? ⟨lb, lo + k * 9 + 1, none⟩ = some (.int .i64 s.id) ∧ X.cell? ⟨lb, lo + k * 9 + 2, none⟩ = some (.int .i64 s.par) ∧ X.cell? ⟨lb, lo + k * 9 + 3, none⟩ = some (.int .i64 s.at_) ∧ X.cell? ⟨lb, lo + k * 9 + 4, none⟩ = some (.string s.tx) ∧ X.cell? ⟨lb, lo + k * 9 + 5, none⟩ = some (.int .i64 s.sub.id) ∧ X.cell? ⟨lb, lo + k * 9 + 6, none⟩ = some (.int .i64 s.sub.kind) ∧ X.cell? ⟨lb, lo + k * 9 + 7, none⟩ = some (.string s.sub.text) ∧ X.cell? ⟨lb, lo + k * 9 + 8, none⟩ = some (.slice va sn vc)) := Lib.hid fun X hX => by
            have h := fun j u hj => (World.cell?_of_block (a := ⟨lb, lo + k * 9 + j, none⟩) (hX.block lb hlb)).trans (hcs j u hj)
            rw [hsn]
            exact ⟨h 0 _ rfl, h 1 _ rfl, h 2 _ rfl, h 3 _ rfl, h 4 _ rfl, h 5 _ rfl, h 6 _ rfl, h 7 _ rfl, h 8 _ rfl⟩
          obtain ⟨c0, c1, c2, c3, c4, c5, c6, c7, c8⟩ := HC.out wo hh1.below
          have hwk := lenL 51 (by omega) hl1 hl2 hls hh1.below
          rw [← hsn] at hwk
          have HWK := Lib.hid hwk
          have HLS := Lib.hid (And.intro hls (And.intro hl3 hl4))
          have Ns := Lib.hid hsn
          have HR0 := Lib.hid hh1
          have HKN := Lib.hid (And.intro hk hlt)
          have hk31 : k ≤ 30 := by omega
          clear hwk hls hl1 hl2 hl3 hl4 hsn hs hlb hcs hh1 hh hk hm
          go_wp2_with fail
          refine HWK.out.mono ?_
          rintro e W2 ⟨wa, ln, wc, rfl, hln, hln2, hb2⟩
          have HR2 := Lib.hid (HR0.out.on hb2)
          have HLN := Lib.hid hln
          clear hln hb2 HWK HR0 c0 c1 c2 c3 c4 c5 c6 c7 c8 hlt
          by_cases h50 : 50 < ln
          · go_wp2_with fail
            refine (wakes10_any W2).mono ?_
            rintro e WZ ⟨rfl, hbz⟩
            have HZ := Lib.hid ((HR2.out.below).trans (hbz.mono (HR2.out.below).size))
            clear hbz
            go_wp2_with fail
            go_ret
            exact ⟨rfl, HZ.out⟩
          · have HSZ := Lib.hid (show foSize s.sub.kids + 1 ≤ 50 by have := HLN.out (by omega); omega)
            have HOK : Hid (SfOk s) := Lib.hid ⟨HLS.out.2.1, HLS.out.2.2, by have := HSZ.out; omega⟩
            have HCH := Lib.hid HR2.out.chain
            obtain ⟨x, hx⟩ : ∃ x, ts[bs.length]? = some x := ⟨_, List.getElem?_eq_getElem (by have := HCH.out.len; omega)⟩
            obtain ⟨xs, hT, hTr⟩ := HR2.out.trow
            obtain ⟨g, cap2, e, _⟩ := hT.form (by omega)
            cases e
            obtain ⟨xa, xc, hxc, hxl⟩ := TRow.nth _ x hTr hx
            obtain ⟨xn, hxn⟩ : ∃ xn, xn = foLen x.kids := ⟨_, rfl⟩
            have p0 : W2.cell? ⟨g, m * 4, none⟩ = some (.int .i64 x.id) := by rw [HM.out]; exact owns_cell hT rfl _ _ (hxc 0 _ rfl)
            have p1 : W2.cell? ⟨g, m * 4 + 1, none⟩ = some (.int .i64 x.kind) := by rw [HM.out]; exact owns_cell hT rfl _ _ (hxc 1 _ rfl)
            have p2 : W2.cell? ⟨g, m * 4 + 2, none⟩ = some (.string x.text) := by rw [HM.out]; exact owns_cell hT rfl _ _ (hxc 2 _ rfl)
            have p3 : W2.cell? ⟨g, m * 4 + 3, none⟩ = some (.slice xa xn xc) := by rw [HM.out, hxn]; exact owns_cell hT rfl _ _ (hxc 3 _ rfl)
            obtain ⟨ta, hta⟩ : ∃ ta : Option Addr, ta = some ⟨g, 0, none⟩ := ⟨_, rfl⟩
            obtain ⟨U3, hU3⟩ : ∃ U3, U3 = W2.alloc (.cells #[.int .i64 x.id, .int .i64 x.kind, .string x.text, .slice xa xn xc] 24) := ⟨_, rfl⟩
            have hb3 : Below W2.heap.size W2 U3 := by rw [hU3]; exact box_below _ _
            have Ex := Lib.hid (show U3.heap[W2.heap.size]? = some (.cells #[.int .i64 x.id, .int .i64 x.kind, .string x.text, .slice xa xn xc] 24 (0, 0)) by rw [hU3]; exact heap_alloc_new _ _)
            have HR3 := Lib.hid (HR2.out.on hb3)
            rw [← hta] at HR3
            have Lx := Lib.hid (hxl.on hb3)
            rw [← hta] at Lx
            have HX := Lib.hid hx
            have Nx := Lib.hid hxn
            have HU := Lib.hid hU3
            have HTA := Lib.hid hta
            have hm31 : m ≤ 30 := by have := HMK.out; omega
            obtain ⟨xb, hxb⟩ : ∃ xb, xb = W2.heap.size := ⟨_, rfl⟩
            have hg := HCH.out.good _ x hx
            rw [← HM.out] at hg
            have HG := Lib.hid hg
            have HTW := Lib.hid (rng_wf hg.2.1)
            clear hg hx hT hTr hxc hxl hxn hU3 hb3 HR2 HLN hta
            go_upto_region 11 with fail
            rw [← HU.out]
            rw [← hxb] at Ex ⊢
            clear HU hxb p0 p1 p2 p3 h50
            obtain ⟨y, hy⟩ : ∃ y, y = applyR (s.on x) := ⟨_, rfl⟩
            obtain ⟨ye, hye⟩ : ∃ ye, ye = (s.on x).2 := ⟨_, rfl⟩
            obtain ⟨yn, hyn⟩ : ∃ yn, yn = foLen y.kids := ⟨_, rfl⟩
            have Ny := Lib.hid hyn
            have HY := Lib.hid (And.intro hy hye)
            have HE : Hid (∀ q, EB ta bb q → q < U3.heap.size) := Lib.hid fun q hq => (HR3.out.low hq).2
            have Ls : Hid (LiesN U3 (EB ta bb) s.sub.kids va vc) := Lib.hid (HLS.out.1.n HR3.out.below fun q hq => (HR3.out.low hq).1)
            have CON : Hid (∀ (F : Nat → Prop) (X : World), (∀ q, F q → U3.heap.size ≤ q ∧ q < X.heap.size) → Below U3.heap.size U3 X → Calls Try.prog 75 #[.agg #[.int .i64 x.id, .int .i64 x.kind, .string x.text, .slice xa xn xc], .agg #[.int .i8 s.op, .int .i64 s.id, .int .i64 s.par, .int .i64 s.at_, .string s.tx, .int .i64 s.sub.id, .int .i64 s.sub.kind, .string s.sub.text, .slice va sn vc]] X (TreeN (fun q => EB ta bb q ∨ F q) y ye X)) := Lib.hid fun F X hF hX => by
              have h := applyN (E := fun q => EB ta bb q ∨ F q) (X0 := U3) (X1 := U3) (X := X) (t := x) (s := s) (fun q hq => hq.elim (fun h => Nat.lt_of_lt_of_le (HE.out q h) hX.size) (fun h => (hF q h).2)) (Lx.out.more fun q hq h => by have := (hF q h).1; omega) (Ls.out.more fun q hq h => by have := (hF q h).1; omega) hX hX (by have := HG.out.2.2; omega) HTW.out HOK.out
              rw [← Nx.out, ← Ns.out, ← HY.out.1, ← HY.out.2] at h
              exact h
            clear hyn hy hye
            go_cut [9, 10] from 27 to 77 (fun s9 s10 wx => ∃ (yb : Nat) (ya : Option Addr) (yc : Nat), s9 = .pointer (some ⟨yb, 0, none⟩) ∧ s10 = .int .i64 ye ∧ Hid (wx.heap[yb]? = some (.cells #[.int .i64 y.id, .int .i64 y.kind, .string y.text, .slice ya yn yc] 24 (0, 0)) ∧ LiesN wx (EB ta bb) y.kids ya yc ∧ Below U3.heap.size U3 wx))
            case first =>
              refine wp_region_held_drew (S := fun X => Below U3.heap.size U3 X) (by kernel_rfl) (below_drewN (Below.refl _ U3) 1) (fun hHeld => ?_)
              refine wpAnyH_take (i := 0) (oi := _) (v := .agg #[.int .i64 x.id, .int .i64 x.kind, .string x.text, .slice xa xn xc]) rfl (by kernel_rfl) (by kernel_rfl) (by kernel_rfl) (fun _ _ _ h => h) (Or.inl ⟨by rfl, ?_⟩) (by assumption) ?_
              · clear hHeld; intro X hSw; obtain ⟨q0, q1, q2, q3⟩ := box4 ((hSw.block _ (lt_of_heap Ex.out)).trans Ex.out); clear hSw; go_simp
              simp only [Act.put, List.getElem_toArray, List.getElem_cons_zero, List.getElem_cons_succ, List.setIfInBounds_toArray, List.set_cons_zero, List.set_cons_succ]
              refine wpAnyH_take (i := 1) (oi := _) (v := .slice (some ⟨lb, lo, none⟩) n lc) rfl (by kernel_rfl) (by kernel_rfl) (by kernel_rfl) (fun _ _ _ h => h) (Or.inl ⟨by rfl, ?_⟩) (by assumption) ?_
              · clear hHeld; intro X hSw; clear hSw; go_simp
              simp only [Act.put, List.getElem_toArray, List.getElem_cons_zero, List.getElem_cons_succ, List.setIfInBounds_toArray, List.set_cons_zero, List.set_cons_succ]
              refine wpAnyH_take (i := 2) (oi := _) (v := .int .i64 (k : Int)) rfl (by kernel_rfl) (by kernel_rfl) (by kernel_rfl) (fun _ _ _ h => h) (Or.inl ⟨by rfl, ?_⟩) (by assumption) ?_
              · clear hHeld; intro X hSw; clear hSw; go_simp
              simp only [Act.put, List.getElem_toArray, List.getElem_cons_zero, List.getElem_cons_succ, List.setIfInBounds_toArray, List.set_cons_zero, List.set_cons_succ]
              refine wpAnyH_take (i := 3) (oi := _) (v := .pointer (some ⟨lb, lo + k * 9, none⟩)) rfl (by kernel_rfl) (by kernel_rfl) (by kernel_rfl) (fun _ _ _ h => h) (Or.inl ⟨by rfl, ?_⟩) (by assumption) ?_
              · clear hHeld; intro X hSw; clear hSw; go_simp
              simp only [Act.put, List.getElem_toArray, List.getElem_cons_zero, List.getElem_cons_succ, List.setIfInBounds_toArray, List.set_cons_zero, List.set_cons_succ]
              refine wpAnyH_take (i := 4) (oi := _) (v := .agg #[.int .i8 s.op, .int .i64 s.id, .int .i64 s.par, .int .i64 s.at_, .string s.tx, .int .i64 s.sub.id, .int .i64 s.sub.kind, .string s.sub.text, .slice va sn vc]) rfl (by kernel_rfl) (by kernel_rfl) (by kernel_rfl) (fun _ _ _ h => h) (Or.inl ⟨by rfl, ?_⟩) (by assumption) ?_
              · clear hHeld; intro X hSw; obtain ⟨c0, c1, c2, c3, c4, c5, c6, c7, c8⟩ := HC.out X (HR3.out.below.trans (hSw.mono HR3.out.below.size)); clear hSw; go_simp
              simp only [Act.put, List.getElem_toArray, List.getElem_cons_zero, List.getElem_cons_succ, List.setIfInBounds_toArray, List.set_cons_zero, List.set_cons_succ]
              refine wpAnyH_ready (rs := [5, 9]) (by kernel_rfl) (by simp) ?_
              refine AllReadyH.cons (o := _) rfl (fun K hK => ?_) (AllReadyH.cons (o := _) rfl (fun K hK => ?_) AllReadyH.nil)
              · rw [if_pos (by rfl)]
                simp only [List.getElem_toArray, List.getElem_cons_zero, List.getElem_cons_succ]
                have HK := Lib.hid hK
                have HS := Lib.hid hHeld
                clear hK hHeld
                go_wp2_with (go_at_call 75; refine (CON.out (fun _ => False) _ (fun _ h => h.elim) HS.out).mono ?_; rintro e w5 ⟨ra, rc, rfl, hl5, hb5⟩; have HS5 := Lib.hid (HS.out.trans (hb5.mono HS.out.size)); have H5 := Lib.hid (hl5.weak (E := EB ta bb) (fun q h => Or.inl h)); have HX5 := Lib.hid (show U3.heap.size ≤ w5.heap.size from Nat.le_trans HS.out.size hb5.size); clear hl5 hb5; rw [← Ny.out])
                refine HK.out _ _ HS5.out (fun hHeld => ?_)
                clear HK HS
                refine wpAnyH_take (i := 6) (oi := _) (v := .tuple #[.agg #[.int .i64 y.id, .int .i64 y.kind, .string y.text, .slice ra yn rc], .int .i64 ye]) rfl (by kernel_rfl) (by kernel_rfl) (by kernel_rfl) (fun _ _ _ h => h) (Or.inl ⟨by rfl, ?_⟩) (by assumption) ?_
                · clear hHeld; intro X hSw; clear hSw; go_simp
                simp only [Act.put, List.getElem_toArray, List.getElem_cons_zero, List.getElem_cons_succ, List.setIfInBounds_toArray, List.set_cons_zero, List.set_cons_succ]
                refine wpAnyH_take (i := 7) (oi := _) (v := .agg #[.int .i64 y.id, .int .i64 y.kind, .string y.text, .slice ra yn rc]) rfl (by kernel_rfl) (by kernel_rfl) (by kernel_rfl) (fun _ _ _ h => h) (Or.inl ⟨by rfl, ?_⟩) (by assumption) ?_
                · clear hHeld; intro X hSw; clear hSw; go_simp
                simp only [Act.put, List.getElem_toArray, List.getElem_cons_zero, List.getElem_cons_succ, List.setIfInBounds_toArray, List.set_cons_zero, List.set_cons_succ]
                refine wpAnyH_take (i := 8) (oi := _) (v := .int .i64 ye) rfl (by kernel_rfl) (by kernel_rfl) (by kernel_rfl) (fun _ _ _ h => h) (Or.inl ⟨by rfl, ?_⟩) (by assumption) ?_
                · clear hHeld; intro X hSw; clear hSw; go_simp
                simp only [Act.put, List.getElem_toArray, List.getElem_cons_zero, List.getElem_cons_succ, List.setIfInBounds_toArray, List.set_cons_zero, List.set_cons_succ]
                refine wpAnyH_ready (rs := [9]) (by kernel_rfl) (by simp) ?_
                refine AllReadyH.cons (o := _) rfl (fun K hK => ?_) AllReadyH.nil
                rw [if_pos (by rfl)]
                simp only [List.getElem_toArray, List.getElem_cons_zero, List.getElem_cons_succ]
                have HK := Lib.hid hK
                have HS := Lib.hid hHeld
                clear hK hHeld
                go_wp2_with fail
                obtain ⟨WA, hWA⟩ : ∃ WA, WA = (World.alloc w5 (.cells #[.int .i64 0, .int .i64 0, .string ⟨#[]⟩, .slice none 0 0] 24)) := ⟨_, rfl⟩
                rw [← hWA]
                have hza : WA.heap[w5.heap.size]? = some (.cells #[.int .i64 0, .int .i64 0, .string ⟨#[]⟩, .slice none 0 0] 24 (0, 0)) := by rw [hWA]; exact heap_alloc_new w5 _
                have hba : Below w5.heap.size w5 WA := by rw [hWA]; exact box_below _ _
                have hsa : WA.heap.size = w5.heap.size + 1 := by rw [hWA]; exact heap_alloc_size1 _ _
                have HA := Lib.hid (And.intro hza (And.intro hba hsa))
                refine HK.out _ _ (HS.out.trans (hba.mono HS.out.size)) (fun hHeld => ?_)
                clear HK HS hza hba hsa hWA
                refine wpAnyH_ready (rs := [10]) (by kernel_rfl) (by simp) ?_
                refine AllReadyH.cons (o := _) rfl (fun K hK => ?_) AllReadyH.nil
                rw [if_pos (by rfl)]
                simp only [List.getElem_toArray, List.getElem_cons_zero, List.getElem_cons_succ]
                have HK := Lib.hid hK
                have HS := Lib.hid hHeld
                clear hK hHeld
                have hz : WA.heap[w5.heap.size]? = some (.cells #[.int .i64 0, .int .i64 0, .string ⟨#[]⟩, .slice none 0 0] 24 (0, 0)) := HA.out.1
                obtain ⟨z0, z1, z2, z3⟩ := box4 hz
                have zf : ∀ j, WA.frozen? ⟨w5.heap.size, j, none⟩ = false := fun j => frozen_of_row _ _ j _ _ hz
                obtain ⟨V5, e5, r1, r2, r3, r4, r5, r6⟩ := four_set (u0 := .int .i64 y.id) (u1 := .int .i64 y.kind) (u2 := .string y.text) (u3 := .slice ra yn rc) hz
                have hb5 : Below U3.heap.size U3 V5 := ⟨r3.trans HS.out.os, r4.trans HS.out.tape, r5.trans HS.out.output, by rw [r6]; exact HS.out.size, fun y hy => (r2 y (by have := HX5.out; omega)).trans (HS.out.block y hy)⟩
                have hk5 : LiesN V5 (EB ta bb) y.kids ra rc := H5.out.set HA.out.2.1 r2 r6 (Nat.le_refl _)
                have H6 := Lib.hid (And.intro hb5 (And.intro e5 (And.intro r1 hk5)))
                clear hz r1 r2 r3 r4 r5 r6 hb5 e5 hk5
                go_wp2_with fail
                rw [← H6.out.2.1]
                refine HK.out _ _ H6.out.1 (fun hHeld => ?_)
                clear HK HS z0 z1 z2 z3 zf HA H5 HS5 HX5
                refine wpAnyH_take (i := 11) (oi := _) (v := .int .i64 ye) rfl (by kernel_rfl) (by kernel_rfl) (by kernel_rfl) (fun _ _ _ h => h) (Or.inl ⟨by rfl, ?_⟩) (by assumption) ?_
                · clear hHeld; intro X hSw; clear hSw; go_simp
                simp only [Act.put, List.getElem_toArray, List.getElem_cons_zero, List.getElem_cons_succ, List.setIfInBounds_toArray, List.set_cons_zero, List.set_cons_succ]
                refine wpAnyH_done (by kernel_rfl) ?_ _
                clear hHeld
                go_wp2_with fail
                go_meet
                case rel => exact ⟨w5.heap.size, ra, rc, rfl, rfl, Lib.hid ⟨H6.out.2.2.1, H6.out.2.2.2, H6.out.1⟩⟩
              · rw [if_pos (by rfl)]
                simp only [List.getElem_toArray, List.getElem_cons_zero, List.getElem_cons_succ]
                have HK := Lib.hid hK
                have HS := Lib.hid hHeld
                clear hK hHeld
                go_wp2_with fail
                obtain ⟨WA, hWA⟩ : ∃ WA, WA = (World.alloc U3 (.cells #[.int .i64 0, .int .i64 0, .string ⟨#[]⟩, .slice none 0 0] 24)).drew := ⟨_, rfl⟩
                rw [← hWA]
                have hza : WA.heap[U3.heap.size]? = some (.cells #[.int .i64 0, .int .i64 0, .string ⟨#[]⟩, .slice none 0 0] 24 (0, 0)) := by rw [hWA]; exact heap_alloc_new U3 _
                have hba : Below U3.heap.size U3 WA := by rw [hWA]; exact below_drewN (box_below _ _) 1
                have hsa : WA.heap.size = U3.heap.size + 1 := by rw [hWA]; exact heap_alloc_size1 _ _
                have HA := Lib.hid (And.intro hza (And.intro hba hsa))
                refine HK.out _ _ (hba) (fun hHeld => ?_)
                clear HK HS hza hba hsa hWA
                refine wpAnyH_ready (rs := [5]) (by kernel_rfl) (by simp) ?_
                refine AllReadyH.cons (o := _) rfl (fun K hK => ?_) AllReadyH.nil
                rw [if_pos (by rfl)]
                simp only [List.getElem_toArray, List.getElem_cons_zero, List.getElem_cons_succ]
                have HK := Lib.hid hK
                have HS := Lib.hid hHeld
                clear hK hHeld
                go_wp2_with (go_at_call 75; refine (CON.out (fun q => q = U3.heap.size) _ (fun q h => ⟨Nat.le_of_eq h.symm, by rw [h, HA.out.2.2]; exact Nat.lt_succ_self _⟩) HS.out).mono ?_; rintro e w5 ⟨ra, rc, rfl, hl5, hb5⟩; have HS5 := Lib.hid (HS.out.trans (hb5.mono HS.out.size)); have H5 := Lib.hid hl5; have HX5 := Lib.hid (show U3.heap.size ≤ U3.heap.size from Nat.le_refl _); have HZB := Lib.hid ((hb5.block _ (lt_of_heap HA.out.1)).trans HA.out.1); clear hl5 hb5; rw [← Ny.out])
                refine HK.out _ _ HS5.out (fun hHeld => ?_)
                clear HK HS
                refine wpAnyH_take (i := 6) (oi := _) (v := .tuple #[.agg #[.int .i64 y.id, .int .i64 y.kind, .string y.text, .slice ra yn rc], .int .i64 ye]) rfl (by kernel_rfl) (by kernel_rfl) (by kernel_rfl) (fun _ _ _ h => h) (Or.inl ⟨by rfl, ?_⟩) (by assumption) ?_
                · clear hHeld; intro X hSw; clear hSw; go_simp
                simp only [Act.put, List.getElem_toArray, List.getElem_cons_zero, List.getElem_cons_succ, List.setIfInBounds_toArray, List.set_cons_zero, List.set_cons_succ]
                refine wpAnyH_take (i := 7) (oi := _) (v := .agg #[.int .i64 y.id, .int .i64 y.kind, .string y.text, .slice ra yn rc]) rfl (by kernel_rfl) (by kernel_rfl) (by kernel_rfl) (fun _ _ _ h => h) (Or.inl ⟨by rfl, ?_⟩) (by assumption) ?_
                · clear hHeld; intro X hSw; clear hSw; go_simp
                simp only [Act.put, List.getElem_toArray, List.getElem_cons_zero, List.getElem_cons_succ, List.setIfInBounds_toArray, List.set_cons_zero, List.set_cons_succ]
                refine wpAnyH_take (i := 8) (oi := _) (v := .int .i64 ye) rfl (by kernel_rfl) (by kernel_rfl) (by kernel_rfl) (fun _ _ _ h => h) (Or.inl ⟨by rfl, ?_⟩) (by assumption) ?_
                · clear hHeld; intro X hSw; clear hSw; go_simp
                simp only [Act.put, List.getElem_toArray, List.getElem_cons_zero, List.getElem_cons_succ, List.setIfInBounds_toArray, List.set_cons_zero, List.set_cons_succ]
                refine wpAnyH_ready (rs := [10]) (by kernel_rfl) (by simp) ?_
                refine AllReadyH.cons (o := _) rfl (fun K hK => ?_) AllReadyH.nil
                rw [if_pos (by rfl)]
                simp only [List.getElem_toArray, List.getElem_cons_zero, List.getElem_cons_succ]
                have HK := Lib.hid hK
                have HS := Lib.hid hHeld
                clear hK hHeld
                have hz : w5.heap[U3.heap.size]? = some (.cells #[.int .i64 0, .int .i64 0, .string ⟨#[]⟩, .slice none 0 0] 24 (0, 0)) := HZB.out
                obtain ⟨z0, z1, z2, z3⟩ := box4 hz
                have zf : ∀ j, w5.frozen? ⟨U3.heap.size, j, none⟩ = false := fun j => frozen_of_row _ _ j _ _ hz
                obtain ⟨V5, e5, r1, r2, r3, r4, r5, r6⟩ := four_set (u0 := .int .i64 y.id) (u1 := .int .i64 y.kind) (u2 := .string y.text) (u3 := .slice ra yn rc) hz
                have hb5 : Below U3.heap.size U3 V5 := ⟨r3.trans HS.out.os, r4.trans HS.out.tape, r5.trans HS.out.output, by rw [r6]; exact HS.out.size, fun y hy => (r2 y (by have := HX5.out; omega)).trans (HS.out.block y hy)⟩
                have hk5 : LiesN V5 (EB ta bb) y.kids ra rc := H5.out.setB r2 r6
                have H6 := Lib.hid (And.intro hb5 (And.intro e5 (And.intro r1 hk5)))
                clear hz r1 r2 r3 r4 r5 r6 hb5 e5 hk5
                go_wp2_with fail
                rw [← H6.out.2.1]
                refine HK.out _ _ H6.out.1 (fun hHeld => ?_)
                clear HK HS z0 z1 z2 z3 zf HA H5 HS5 HX5
                refine wpAnyH_take (i := 11) (oi := _) (v := .int .i64 ye) rfl (by kernel_rfl) (by kernel_rfl) (by kernel_rfl) (fun _ _ _ h => h) (Or.inl ⟨by rfl, ?_⟩) (by assumption) ?_
                · clear hHeld; intro X hSw; clear hSw; go_simp
                simp only [Act.put, List.getElem_toArray, List.getElem_cons_zero, List.getElem_cons_succ, List.setIfInBounds_toArray, List.set_cons_zero, List.set_cons_succ]
                refine wpAnyH_done (by kernel_rfl) ?_ _
                clear hHeld
                go_wp2_with fail
                go_meet
                case rel => exact ⟨U3.heap.size, ra, rc, rfl, rfl, Lib.hid ⟨H6.out.2.2.1, H6.out.2.2.2, H6.out.1⟩⟩
            case rest =>
              obtain ⟨yb, ya, yc, rfl, rfl, hcc⟩ := hcut
              obtain ⟨W5, hW5⟩ : ∃ W5, W5 = wc := ⟨_, rfl⟩
              subst hW5
              have Ey := Lib.hid hcc.out.1
              have Ly := Lib.hid hcc.out.2.1
              have HR5 := Lib.hid (HR3.out.on hcc.out.2.2)
              have Lx5 := Lib.hid (Lx.out.on hcc.out.2.2)
              replace Ex := Lib.hid ((hcc.out.2.2.block _ (lt_of_heap Ex.out)).trans Ex.out)
              clear hcc CON Lx HR3 HE Ls
              by_cases hy0 : ye = 0
              · have hon : s.on x = (y, 0) := by
                  have h1 := HY.out.2
                  have h2 := HY.out.1
                  rw [hy0] at h1
                  rw [applyR, if_pos h1.symm] at h2
                  rw [h2]; exact Prod.ext rfl h1.symm
                subst hy0
                obtain ⟨b, hbb⟩ : ∃ b, b = s.inv x := ⟨_, rfl⟩
                have hpush := HCH.out.snoc HX.out hon HSZ.out (by have := HMK.out; have := HM.out; have := HKN.out.2; omega)
                rw [← hbb] at hpush
                have HPU := Lib.hid hpush.1
                obtain ⟨bn, hbn⟩ : ∃ bn, bn = foLen b.sub.kids := ⟨_, rfl⟩
                have Nb := Lib.hid hbn
                have HBS := Lib.hid (And.intro hbb hon)
                have HE : Hid (∀ q, EB ta bb q → q < W5.heap.size) := Lib.hid fun q hq => (HR5.out.low hq).2
                have Ls : Hid (LiesN W5 (EB ta bb) s.sub.kids va vc) := Lib.hid (HLS.out.1.n HR5.out.below fun q hq => (HR5.out.low hq).1)
                have CON : Hid (∀ (F : Nat → Prop) (X : World), (∀ q, F q → W5.heap.size ≤ q ∧ q < X.heap.size) → Below W5.heap.size W5 X → Calls Try.prog 78 #[.agg #[.int .i64 x.id, .int .i64 x.kind, .string x.text, .slice xa xn xc], .agg #[.int .i8 s.op, .int .i64 s.id, .int .i64 s.par, .int .i64 s.at_, .string s.tx, .int .i64 s.sub.id, .int .i64 s.sub.kind, .string s.sub.text, .slice va sn vc]] X (StepN (fun q => EB ta bb q ∨ F q) b 0 X)) := Lib.hid fun F X hF hX => by
                  have h := invertN (E := fun q => EB ta bb q ∨ F q) (X0 := W5) (X1 := W5) (X := X) (t := x) (s := s) (fun q hq => hq.elim (fun h => Nat.lt_of_lt_of_le (HE.out q h) hX.size) (fun h => (hF q h).2)) (Lx5.out.more fun q hq h => by have := (hF q h).1; omega) (Ls.out.more fun q hq h => by have := (hF q h).1; omega) hX hX (by have := HG.out.2.2; omega) HTW.out HOK.out
                  rw [← Nx.out, ← Ns.out, ← HBS.out.1, HBS.out.2] at h
                  exact h
                clear hbn hbb hon hpush
                go_upto_region 13 with fail
                go_cut [11, 12] from 27 to 77 (fun s11 s12 wx => ∃ (sb : Nat) (ia : Option Addr) (ic : Nat), s11 = .pointer (some ⟨sb, 0, none⟩) ∧ s12 = .int .i64 0 ∧ Hid (wx.heap[sb]? = some (.cells #[.int .i8 b.op, .int .i64 b.id, .int .i64 b.par, .int .i64 b.at_, .string b.tx, .int .i64 b.sub.id, .int .i64 b.sub.kind, .string b.sub.text, .slice ia bn ic] 47 (0, 0)) ∧ LiesN wx (EB ta bb) b.sub.kids ia ic ∧ Below W5.heap.size W5 wx))
                case first =>
                  refine wp_region_held_drew (S := fun X => Below W5.heap.size W5 X) (by kernel_rfl) (below_drewN (Below.refl _ W5) 1) (fun hHeld => ?_)
                  refine wpAnyH_take (i := 0) (oi := _) (v := .agg #[.int .i64 x.id, .int .i64 x.kind, .string x.text, .slice xa xn xc]) rfl (by kernel_rfl) (by kernel_rfl) (by kernel_rfl) (fun _ _ _ h => h) (Or.inl ⟨by rfl, ?_⟩) (by assumption) ?_
                  · clear hHeld; intro X hSw; obtain ⟨q0, q1, q2, q3⟩ := box4 ((hSw.block _ (lt_of_heap Ex.out)).trans Ex.out); clear hSw; go_simp
                  simp only [Act.put, List.getElem_toArray, List.getElem_cons_zero, List.getElem_cons_succ, List.setIfInBounds_toArray, List.set_cons_zero, List.set_cons_succ]
                  refine wpAnyH_take (i := 1) (oi := _) (v := .slice (some ⟨lb, lo, none⟩) n lc) rfl (by kernel_rfl) (by kernel_rfl) (by kernel_rfl) (fun _ _ _ h => h) (Or.inl ⟨by rfl, ?_⟩) (by assumption) ?_
                  · clear hHeld; intro X hSw; clear hSw; go_simp
                  simp only [Act.put, List.getElem_toArray, List.getElem_cons_zero, List.getElem_cons_succ, List.setIfInBounds_toArray, List.set_cons_zero, List.set_cons_succ]
                  refine wpAnyH_take (i := 2) (oi := _) (v := .int .i64 (k : Int)) rfl (by kernel_rfl) (by kernel_rfl) (by kernel_rfl) (fun _ _ _ h => h) (Or.inl ⟨by rfl, ?_⟩) (by assumption) ?_
                  · clear hHeld; intro X hSw; clear hSw; go_simp
                  simp only [Act.put, List.getElem_toArray, List.getElem_cons_zero, List.getElem_cons_succ, List.setIfInBounds_toArray, List.set_cons_zero, List.set_cons_succ]
                  refine wpAnyH_take (i := 3) (oi := _) (v := .pointer (some ⟨lb, lo + k * 9, none⟩)) rfl (by kernel_rfl) (by kernel_rfl) (by kernel_rfl) (fun _ _ _ h => h) (Or.inl ⟨by rfl, ?_⟩) (by assumption) ?_
                  · clear hHeld; intro X hSw; clear hSw; go_simp
                  simp only [Act.put, List.getElem_toArray, List.getElem_cons_zero, List.getElem_cons_succ, List.setIfInBounds_toArray, List.set_cons_zero, List.set_cons_succ]
                  refine wpAnyH_take (i := 4) (oi := _) (v := .agg #[.int .i8 s.op, .int .i64 s.id, .int .i64 s.par, .int .i64 s.at_, .string s.tx, .int .i64 s.sub.id, .int .i64 s.sub.kind, .string s.sub.text, .slice va sn vc]) rfl (by kernel_rfl) (by kernel_rfl) (by kernel_rfl) (fun _ _ _ h => h) (Or.inl ⟨by rfl, ?_⟩) (by assumption) ?_
                  · clear hHeld; intro X hSw; obtain ⟨c0, c1, c2, c3, c4, c5, c6, c7, c8⟩ := HC.out X (HR5.out.below.trans (hSw.mono HR5.out.below.size)); clear hSw; go_simp
                  simp only [Act.put, List.getElem_toArray, List.getElem_cons_zero, List.getElem_cons_succ, List.setIfInBounds_toArray, List.set_cons_zero, List.set_cons_succ]
                  refine wpAnyH_ready (rs := [5, 9]) (by kernel_rfl) (by simp) ?_
                  refine AllReadyH.cons (o := _) rfl (fun K hK => ?_) (AllReadyH.cons (o := _) rfl (fun K hK => ?_) AllReadyH.nil)
                  · rw [if_pos (by rfl)]
                    simp only [List.getElem_toArray, List.getElem_cons_zero, List.getElem_cons_succ]
                    have HK := Lib.hid hK
                    have HS := Lib.hid hHeld
                    clear hK hHeld
                    go_wp2_with (go_at_call 78; refine (CON.out (fun _ => False) _ (fun _ h => h.elim) HS.out).mono ?_; rintro e w5 ⟨ra, rc, rfl, hl5, hb5⟩; have HS5 := Lib.hid (HS.out.trans (hb5.mono HS.out.size)); have H5 := Lib.hid (hl5.weak (E := EB ta bb) (fun q h => Or.inl h)); have HX5 := Lib.hid (show W5.heap.size ≤ w5.heap.size from Nat.le_trans HS.out.size hb5.size); clear hl5 hb5; rw [← Nb.out])
                    refine HK.out _ _ HS5.out (fun hHeld => ?_)
                    clear HK HS
                    refine wpAnyH_take (i := 6) (oi := _) (v := .tuple #[.agg #[.int .i8 b.op, .int .i64 b.id, .int .i64 b.par, .int .i64 b.at_, .string b.tx, .int .i64 b.sub.id, .int .i64 b.sub.kind, .string b.sub.text, .slice ra bn rc], .int .i64 0]) rfl (by kernel_rfl) (by kernel_rfl) (by kernel_rfl) (fun _ _ _ h => h) (Or.inl ⟨by rfl, ?_⟩) (by assumption) ?_
                    · clear hHeld; intro X hSw; clear hSw; go_simp
                    simp only [Act.put, List.getElem_toArray, List.getElem_cons_zero, List.getElem_cons_succ, List.setIfInBounds_toArray, List.set_cons_zero, List.set_cons_succ]
                    refine wpAnyH_take (i := 7) (oi := _) (v := .agg #[.int .i8 b.op, .int .i64 b.id, .int .i64 b.par, .int .i64 b.at_, .string b.tx, .int .i64 b.sub.id, .int .i64 b.sub.kind, .string b.sub.text, .slice ra bn rc]) rfl (by kernel_rfl) (by kernel_rfl) (by kernel_rfl) (fun _ _ _ h => h) (Or.inl ⟨by rfl, ?_⟩) (by assumption) ?_
                    · clear hHeld; intro X hSw; clear hSw; go_simp
                    simp only [Act.put, List.getElem_toArray, List.getElem_cons_zero, List.getElem_cons_succ, List.setIfInBounds_toArray, List.set_cons_zero, List.set_cons_succ]
                    refine wpAnyH_take (i := 8) (oi := _) (v := .int .i64 0) rfl (by kernel_rfl) (by kernel_rfl) (by kernel_rfl) (fun _ _ _ h => h) (Or.inl ⟨by rfl, ?_⟩) (by assumption) ?_
                    · clear hHeld; intro X hSw; clear hSw; go_simp
                    simp only [Act.put, List.getElem_toArray, List.getElem_cons_zero, List.getElem_cons_succ, List.setIfInBounds_toArray, List.set_cons_zero, List.set_cons_succ]
                    refine wpAnyH_ready (rs := [9]) (by kernel_rfl) (by simp) ?_
                    refine AllReadyH.cons (o := _) rfl (fun K hK => ?_) AllReadyH.nil
                    rw [if_pos (by rfl)]
                    simp only [List.getElem_toArray, List.getElem_cons_zero, List.getElem_cons_succ]
                    have HK := Lib.hid hK
                    have HS := Lib.hid hHeld
                    clear hK hHeld
                    go_wp2_with fail
                    obtain ⟨WA, hWA⟩ : ∃ WA, WA = (World.alloc w5 (.cells #[.int .i8 0, .int .i64 0, .int .i64 0, .int .i64 0, .string ⟨#[]⟩, .int .i64 0, .int .i64 0, .string ⟨#[]⟩, .slice none 0 0] 47)) := ⟨_, rfl⟩
                    rw [← hWA]
                    have hza : WA.heap[w5.heap.size]? = some (.cells #[.int .i8 0, .int .i64 0, .int .i64 0, .int .i64 0, .string ⟨#[]⟩, .int .i64 0, .int .i64 0, .string ⟨#[]⟩, .slice none 0 0] 47 (0, 0)) := by rw [hWA]; exact heap_alloc_new w5 _
                    have hba : Below w5.heap.size w5 WA := by rw [hWA]; exact box_below _ _
                    have hsa : WA.heap.size = w5.heap.size + 1 := by rw [hWA]; exact heap_alloc_size1 _ _
                    have HA := Lib.hid (And.intro hza (And.intro hba hsa))
                    refine HK.out _ _ (HS.out.trans (hba.mono HS.out.size)) (fun hHeld => ?_)
                    clear HK HS hza hba hsa hWA
                    refine wpAnyH_ready (rs := [10]) (by kernel_rfl) (by simp) ?_
                    refine AllReadyH.cons (o := _) rfl (fun K hK => ?_) AllReadyH.nil
                    rw [if_pos (by rfl)]
                    simp only [List.getElem_toArray, List.getElem_cons_zero, List.getElem_cons_succ]
                    have HK := Lib.hid hK
                    have HS := Lib.hid hHeld
                    clear hK hHeld
                    have hz : WA.heap[w5.heap.size]? = some (.cells #[.int .i8 0, .int .i64 0, .int .i64 0, .int .i64 0, .string ⟨#[]⟩, .int .i64 0, .int .i64 0, .string ⟨#[]⟩, .slice none 0 0] 47 (0, 0)) := HA.out.1
                    obtain ⟨z0, z1, z2, z3, z4, z5, z6, z7, z8⟩ := box9 hz
                    have zf : ∀ j, WA.frozen? ⟨w5.heap.size, j, none⟩ = false := fun j => frozen_of_row _ _ j _ _ hz
                    obtain ⟨V5, e5, r1, r2, r3, r4, r5, r6⟩ := nine_set (u0 := .int .i8 b.op) (u1 := .int .i64 b.id) (u2 := .int .i64 b.par) (u3 := .int .i64 b.at_) (u4 := .string b.tx) (u5 := .int .i64 b.sub.id) (u6 := .int .i64 b.sub.kind) (u7 := .string b.sub.text) (u8 := .slice ra bn rc) hz
                    have hb5 : Below W5.heap.size W5 V5 := ⟨r3.trans HS.out.os, r4.trans HS.out.tape, r5.trans HS.out.output, by rw [r6]; exact HS.out.size, fun y hy => (r2 y (by have := HX5.out; omega)).trans (HS.out.block y hy)⟩
                    have hk5 : LiesN V5 (EB ta bb) b.sub.kids ra rc := H5.out.set HA.out.2.1 r2 r6 (Nat.le_refl _)
                    have H6 := Lib.hid (And.intro hb5 (And.intro e5 (And.intro r1 hk5)))
                    clear hz r1 r2 r3 r4 r5 r6 hb5 e5 hk5
                    go_wp2_with fail
                    rw [← H6.out.2.1]
                    refine HK.out _ _ H6.out.1 (fun hHeld => ?_)
                    clear HK HS z0 z1 z2 z3 z4 z5 z6 z7 z8 zf HA H5 HS5 HX5
                    refine wpAnyH_take (i := 11) (oi := _) (v := .int .i64 0) rfl (by kernel_rfl) (by kernel_rfl) (by kernel_rfl) (fun _ _ _ h => h) (Or.inl ⟨by rfl, ?_⟩) (by assumption) ?_
                    · clear hHeld; intro X hSw; clear hSw; go_simp
                    simp only [Act.put, List.getElem_toArray, List.getElem_cons_zero, List.getElem_cons_succ, List.setIfInBounds_toArray, List.set_cons_zero, List.set_cons_succ]
                    refine wpAnyH_done (by kernel_rfl) ?_ _
                    clear hHeld
                    go_wp2_with fail
                    go_meet
                    case rel => exact ⟨w5.heap.size, ra, rc, rfl, rfl, Lib.hid ⟨H6.out.2.2.1, H6.out.2.2.2, H6.out.1⟩⟩
                  · rw [if_pos (by rfl)]
                    simp only [List.getElem_toArray, List.getElem_cons_zero, List.getElem_cons_succ]
                    have HK := Lib.hid hK
                    have HS := Lib.hid hHeld
                    clear hK hHeld
                    go_wp2_with fail
                    obtain ⟨WA, hWA⟩ : ∃ WA, WA = (World.alloc W5 (.cells #[.int .i8 0, .int .i64 0, .int .i64 0, .int .i64 0, .string ⟨#[]⟩, .int .i64 0, .int .i64 0, .string ⟨#[]⟩, .slice none 0 0] 47)).drew := ⟨_, rfl⟩
                    rw [← hWA]
                    have hza : WA.heap[W5.heap.size]? = some (.cells #[.int .i8 0, .int .i64 0, .int .i64 0, .int .i64 0, .string ⟨#[]⟩, .int .i64 0, .int .i64 0, .string ⟨#[]⟩, .slice none 0 0] 47 (0, 0)) := by rw [hWA]; exact heap_alloc_new W5 _
                    have hba : Below W5.heap.size W5 WA := by rw [hWA]; exact below_drewN (box_below _ _) 1
                    have hsa : WA.heap.size = W5.heap.size + 1 := by rw [hWA]; exact heap_alloc_size1 _ _
                    have HA := Lib.hid (And.intro hza (And.intro hba hsa))
                    refine HK.out _ _ (hba) (fun hHeld => ?_)
                    clear HK HS hza hba hsa hWA
                    refine wpAnyH_ready (rs := [5]) (by kernel_rfl) (by simp) ?_
                    refine AllReadyH.cons (o := _) rfl (fun K hK => ?_) AllReadyH.nil
                    rw [if_pos (by rfl)]
                    simp only [List.getElem_toArray, List.getElem_cons_zero, List.getElem_cons_succ]
                    have HK := Lib.hid hK
                    have HS := Lib.hid hHeld
                    clear hK hHeld
                    go_wp2_with (go_at_call 78; refine (CON.out (fun q => q = W5.heap.size) _ (fun q h => ⟨Nat.le_of_eq h.symm, by rw [h, HA.out.2.2]; exact Nat.lt_succ_self _⟩) HS.out).mono ?_; rintro e w5 ⟨ra, rc, rfl, hl5, hb5⟩; have HS5 := Lib.hid (HS.out.trans (hb5.mono HS.out.size)); have H5 := Lib.hid hl5; have HX5 := Lib.hid (show W5.heap.size ≤ W5.heap.size from Nat.le_refl _); have HZB := Lib.hid ((hb5.block _ (lt_of_heap HA.out.1)).trans HA.out.1); clear hl5 hb5; rw [← Nb.out])
                    refine HK.out _ _ HS5.out (fun hHeld => ?_)
                    clear HK HS
                    refine wpAnyH_take (i := 6) (oi := _) (v := .tuple #[.agg #[.int .i8 b.op, .int .i64 b.id, .int .i64 b.par, .int .i64 b.at_, .string b.tx, .int .i64 b.sub.id, .int .i64 b.sub.kind, .string b.sub.text, .slice ra bn rc], .int .i64 0]) rfl (by kernel_rfl) (by kernel_rfl) (by kernel_rfl) (fun _ _ _ h => h) (Or.inl ⟨by rfl, ?_⟩) (by assumption) ?_
                    · clear hHeld; intro X hSw; clear hSw; go_simp
                    simp only [Act.put, List.getElem_toArray, List.getElem_cons_zero, List.getElem_cons_succ, List.setIfInBounds_toArray, List.set_cons_zero, List.set_cons_succ]
                    refine wpAnyH_take (i := 7) (oi := _) (v := .agg #[.int .i8 b.op, .int .i64 b.id, .int .i64 b.par, .int .i64 b.at_, .string b.tx, .int .i64 b.sub.id, .int .i64 b.sub.kind, .string b.sub.text, .slice ra bn rc]) rfl (by kernel_rfl) (by kernel_rfl) (by kernel_rfl) (fun _ _ _ h => h) (Or.inl ⟨by rfl, ?_⟩) (by assumption) ?_
                    · clear hHeld; intro X hSw; clear hSw; go_simp
                    simp only [Act.put, List.getElem_toArray, List.getElem_cons_zero, List.getElem_cons_succ, List.setIfInBounds_toArray, List.set_cons_zero, List.set_cons_succ]
                    refine wpAnyH_take (i := 8) (oi := _) (v := .int .i64 0) rfl (by kernel_rfl) (by kernel_rfl) (by kernel_rfl) (fun _ _ _ h => h) (Or.inl ⟨by rfl, ?_⟩) (by assumption) ?_
                    · clear hHeld; intro X hSw; clear hSw; go_simp
                    simp only [Act.put, List.getElem_toArray, List.getElem_cons_zero, List.getElem_cons_succ, List.setIfInBounds_toArray, List.set_cons_zero, List.set_cons_succ]
                    refine wpAnyH_ready (rs := [10]) (by kernel_rfl) (by simp) ?_
                    refine AllReadyH.cons (o := _) rfl (fun K hK => ?_) AllReadyH.nil
                    rw [if_pos (by rfl)]
                    simp only [List.getElem_toArray, List.getElem_cons_zero, List.getElem_cons_succ]
                    have HK := Lib.hid hK
                    have HS := Lib.hid hHeld
                    clear hK hHeld
                    have hz : w5.heap[W5.heap.size]? = some (.cells #[.int .i8 0, .int .i64 0, .int .i64 0, .int .i64 0, .string ⟨#[]⟩, .int .i64 0, .int .i64 0, .string ⟨#[]⟩, .slice none 0 0] 47 (0, 0)) := HZB.out
                    obtain ⟨z0, z1, z2, z3, z4, z5, z6, z7, z8⟩ := box9 hz
                    have zf : ∀ j, w5.frozen? ⟨W5.heap.size, j, none⟩ = false := fun j => frozen_of_row _ _ j _ _ hz
                    obtain ⟨V5, e5, r1, r2, r3, r4, r5, r6⟩ := nine_set (u0 := .int .i8 b.op) (u1 := .int .i64 b.id) (u2 := .int .i64 b.par) (u3 := .int .i64 b.at_) (u4 := .string b.tx) (u5 := .int .i64 b.sub.id) (u6 := .int .i64 b.sub.kind) (u7 := .string b.sub.text) (u8 := .slice ra bn rc) hz
                    have hb5 : Below W5.heap.size W5 V5 := ⟨r3.trans HS.out.os, r4.trans HS.out.tape, r5.trans HS.out.output, by rw [r6]; exact HS.out.size, fun y hy => (r2 y (by have := HX5.out; omega)).trans (HS.out.block y hy)⟩
                    have hk5 : LiesN V5 (EB ta bb) b.sub.kids ra rc := H5.out.setB r2 r6
                    have H6 := Lib.hid (And.intro hb5 (And.intro e5 (And.intro r1 hk5)))
                    clear hz r1 r2 r3 r4 r5 r6 hb5 e5 hk5
                    go_wp2_with fail
                    rw [← H6.out.2.1]
                    refine HK.out _ _ H6.out.1 (fun hHeld => ?_)
                    clear HK HS z0 z1 z2 z3 z4 z5 z6 z7 z8 zf HA H5 HS5 HX5
                    refine wpAnyH_take (i := 11) (oi := _) (v := .int .i64 0) rfl (by kernel_rfl) (by kernel_rfl) (by kernel_rfl) (fun _ _ _ h => h) (Or.inl ⟨by rfl, ?_⟩) (by assumption) ?_
                    · clear hHeld; intro X hSw; clear hSw; go_simp
                    simp only [Act.put, List.getElem_toArray, List.getElem_cons_zero, List.getElem_cons_succ, List.setIfInBounds_toArray, List.set_cons_zero, List.set_cons_succ]
                    refine wpAnyH_done (by kernel_rfl) ?_ _
                    clear hHeld
                    go_wp2_with fail
                    go_meet
                    case rel => exact ⟨W5.heap.size, ra, rc, rfl, rfl, Lib.hid ⟨H6.out.2.2.1, H6.out.2.2.2, H6.out.1⟩⟩
                case rest =>
                  obtain ⟨sb, ia, ic, rfl, rfl, hcc⟩ := hcut
                  obtain ⟨W6, hW6⟩ : ∃ W6, W6 = wc := ⟨_, rfl⟩
                  subst hW6
                  have HR6 := Lib.hid (HR5.out.on hcc.out.2.2)
                  have Ly6 := Lib.hid (Ly.out.on hcc.out.2.2)
                  have Lb6 := Lib.hid hcc.out.2.1
                  have Eb6 := Lib.hid hcc.out.1
                  have Ey6 := Lib.hid ((hcc.out.2.2.block _ (lt_of_heap Ey.out)).trans Ey.out)
                  obtain ⟨xs, hT, hTr⟩ := HR6.out.trow
                  obtain ⟨ys, hB, hBr⟩ := HR6.out.brow
                  have HT := Lib.hid (And.intro hT hTr)
                  have HB := Lib.hid (And.intro hB hBr)
                  have HT' := Lib.hid (show W6.ownsRow w.heap.size 24 4 (.slice (some ⟨g, 0, none⟩) (m + 1) tz) (m + 1) xs by rw [← HTA.out, HM.out]; exact hT)
                  have HB' := Lib.hid (show W6.ownsRow w.heap.size 47 9 (.slice bb m bz) m ys by rw [HM.out]; exact hB)
                  obtain ⟨i0, z0, hi0, hz0, hz1, hz2, hz3⟩ := info_wide Try.infoN
                  have HI := Lib.hid (And.intro hi0 (And.intro hz0 (And.intro hz1 (And.intro hz2 hz3))))
                  obtain ⟨i1, z1, hi1, hy0, hy1, hy2, hy3⟩ := info_wide Try.infoStI
                  have HI1 := Lib.hid (And.intro hi1 (And.intro hy0 (And.intro hy1 (And.intro hy2 hy3))))
                  have HLW := Lib.hid HR6.out.below.size
                  obtain ⟨y0, y1, y2, y3⟩ := box4 Ey6.out
                  clear hcc hT hTr hB hBr hi0 hz0 hz1 hz2 hz3 hi1 hy0 hy1 hy2 hy3 CON HE Ls Ey Ly
                  go_upto_region 16 with fail
                  go_upto_region 17 with (at_builtin; refine wpList_append_lies _ rfl (.tmp 70) (.tmp 72) _ rfl w.heap.size 24 i0 z0 4 56 Try.underlying22 HI.out.1 HI.out.2.1 HI.out.2.2.1 HI.out.2.2.2.1 HI.out.2.2.2.2 (by omega) (.slice (some ⟨g, 0, none⟩) (m + 1) tz) (m + 1) xs rfl (HT'.out.alloc _) ⟨W6.heap.size, 0, none⟩ 1 1 [.int .i64 y.id, .int .i64 y.kind, .string y.text, .slice ya yn yc] rfl rfl (World.news_of_block (cs := #[.int .i64 y.id, .int .i64 y.kind, .string y.text, .slice ya yn yc]) (t := 24) (fr := (0, 0)) (heap_alloc_new W6 _)) (by simp [Value.oneCell']) (by omega) (by unfold maxLen; omega) (by omega) (by have := HLW.out; simp; omega) (W6.heap.size + 1) (by simp) ?_; intro g1 c1 W7 hown7 hgrow7 hat7 hlt7; have H7 := Lib.hid (And.intro hown7 (And.intro hgrow7 hat7)); clear hown7 hgrow7 hat7 hlt7)
                  have hs7 := H7.out.2.1.size
                  rw [World.size_alloc] at hs7
                  have hold7 : ∀ q, q < W6.heap.size → some q ≠ (Value.slice (some ⟨g, 0, none⟩) (m + 1) tz).ownBlock → W7.heap[q]? = W6.heap[q]? := fun q h1 h2 => (H7.out.2.1.block q (by rw [World.size_alloc]; omega) h2).trans (Below.heap_alloc _ _ _ h1)
                  have hB7 : W7.ownsRow w.heap.size 47 9 (.slice bb m bz) m ys := owns_kept HB'.out fun q cur hc hq => hold7 q (lt_of_some hc) fun e => by
                    obtain ⟨d, hd⟩ := owns_type HT'.out e.symm
                    exact absurd (ty_ne hc hd) (by decide)
                  have Eb7 := Lib.hid ((hold7 sb (lt_of_heap Eb6.out) fun e => by
                    obtain ⟨d, hd⟩ := owns_type HT'.out e.symm
                    exact absurd (ty_ne Eb6.out hd) (by decide)).trans Eb6.out)
                  obtain ⟨b0, b1, b2, b3, b4, b5, b6, b7, b8⟩ := box9 Eb7.out
                  have HB7 := Lib.hid (And.intro hB7 (show w.heap.size ≤ W7.heap.size by have := HLW.out; omega))
                  clear hs7 hold7 hB7 y0 y1 y2 y3
                  go_wp2_with (at_builtin; refine wpList_append_lies _ rfl (.tmp 74) (.tmp 76) _ rfl w.heap.size 47 i1 z1 9 104 Try.underlying25 HI1.out.1 HI1.out.2.1 HI1.out.2.2.1 HI1.out.2.2.2.1 HI1.out.2.2.2.2 (by omega) (.slice bb m bz) m ys rfl (HB7.out.1.alloc _) ⟨W7.heap.size, 0, none⟩ 1 1 [.int .i8 b.op, .int .i64 b.id, .int .i64 b.par, .int .i64 b.at_, .string b.tx, .int .i64 b.sub.id, .int .i64 b.sub.kind, .string b.sub.text, .slice ia bn ic] rfl rfl (World.news_of_block (cs := #[.int .i8 b.op, .int .i64 b.id, .int .i64 b.par, .int .i64 b.at_, .string b.tx, .int .i64 b.sub.id, .int .i64 b.sub.kind, .string b.sub.text, .slice ia bn ic]) (t := 47) (fr := (0, 0)) (heap_alloc_new W7 _)) (by simp [Value.oneCell']) (by omega) (by unfold maxLen; omega) (by omega) (by have := HB7.out.2; simp; omega) (W7.heap.size + 1) (by simp) ?_; intro g2 c2 W8 hown8 hgrow8 hat8 hlt8; have H8 := Lib.hid (And.intro hown8 (And.intro hgrow8 hat8)); clear hown8 hgrow8 hat8 hlt8)
                  have hpush : RowI w W8 (some ⟨g1, 0, none⟩) c1 (some ⟨g2, 0, none⟩) c2 (ts ++ [y]) (bs ++ [b]) := by
                    obtain ⟨h1, h2, h3⟩ := H7.out
                    obtain ⟨h4, h5, h6⟩ := H8.out
                    rw [Ny.out] at h1
                    rw [Nb.out] at h4
                    rw [HM.out] at h1 h2 h3 h4 h5 h6
                    refine HR6.out.push (o1 := .cells #[.int .i64 y.id, .int .i64 y.kind, .string y.text, .slice ya yn yc] 24) HT.out.1 HT.out.2 HB.out.1 HB.out.2 Ly6.out Lb6.out HPU.out h1 ?_ ?_ h4 h5 h6
                    · rw [HTA.out]; exact h2
                    · rw [HTA.out]; exact h3
                  have HPUSH := Lib.hid hpush
                  clear hpush b0 b1 b2 b3 b4 b5 b6 b7 b8
                  go_roundg (gk - 1)
                  case measure => have := HKN.out; omega
                  case rel => exact ⟨k + 1, some ⟨g1, 0, none⟩, c1, some ⟨g2, 0, none⟩, c2, ts ++ [y], bs ++ [b], by have := HKN.out; omega, by go_num, by rw [List.length_append, List.length_singleton, ← HM.out], by rw [List.length_append, List.length_singleton, ← HM.out], Lib.hid ⟨HPUSH.out, by rw [List.length_append, List.length_singleton, ← HM.out]; have := HMK.out; omega⟩⟩
              · go_wp2_with fail
                go_roundg (gk - 1)
                case measure => have := HKN.out; omega
                case rel => exact ⟨k + 1, ta, tz, bb, bz, ts, bs, by have := HKN.out; omega, by go_num, by rw [← HM.out, HTA.out], by rw [← HM.out], Lib.hid ⟨HR5.out, by rw [← HM.out]; have := HMK.out; omega⟩⟩
        · have hki : ¬ (k : Int) < (n : Int) := by omega
          have hm31 : m ≤ 30 := by have := HMK.out; omega
          obtain ⟨xs, hT, hTr⟩ := hh1.trow
          obtain ⟨ys, hB, hBr⟩ := hh1.brow
          obtain ⟨g, cap2, e, _⟩ := hT.form (by omega)
          cases e
          have HT := Lib.hid (And.intro hT hTr)
          have HB := Lib.hid (And.intro hB hBr)
          have HBW := Lib.hid hh1.below
          have HCH := Lib.hid hh1.chain
          obtain ⟨ta, hta⟩ : ∃ ta : Option Addr, ta = some ⟨g, 0, none⟩ := ⟨_, rfl⟩
          have HTA := Lib.hid hta
          clear hlt hT hTr hB hBr hh1 hh hm hta hk
          go_wp2_with fail
          go_loopg [13] m (fun gk iv wr => gk ≤ m ∧ iv = .int .i64 ((gk : Int) - 1) ∧ Hid (Below wo.heap.size wo wr))
          case atStart => exact ⟨Nat.le_refl _, by first | rfl | go_num, Lib.hid (Below.refl _ _)⟩
          case round =>
            obtain ⟨hgm, rfl, hi⟩ := hrel
            obtain ⟨wi, hwi⟩ : ∃ wi, wi = wr := ⟨_, rfl⟩
            subst hwi
            rcases Nat.eq_zero_or_pos gk with hg0 | hg0
            · subst hg0
              have HBZ := Lib.hid (HBW.out.trans (hi.out.mono HBW.out.size))
              clear hgm
              go_wp2_with fail
              refine (wakes10_any wi).mono ?_
              rintro e WZ ⟨rfl, hbz⟩
              have HZ := Lib.hid ((HBZ.out).trans (hbz.mono (HBZ.out).size))
              clear hbz
              go_wp2_with fail
              go_ret
              exact ⟨rfl, HZ.out⟩
            · obtain ⟨j, hj⟩ : ∃ j, gk = j + 1 := ⟨gk - 1, by omega⟩
              subst hj
              have hji : (((j + 1 : Nat) : Int) - 1) = (j : Int) := by omega
              rw [hji]
              have hj0 : (0 : Int) ≤ (j : Int) := by omega
              have hjm : j < m := by omega
              obtain ⟨y, hy⟩ : ∃ y, ts[j + 1]? = some y := ⟨_, List.getElem?_eq_getElem (by have := HCH.out.len; have := HM.out; omega)⟩
              obtain ⟨p, hp⟩ : ∃ p, ts[j]? = some p := ⟨_, List.getElem?_eq_getElem (by have := HCH.out.len; have := HM.out; omega)⟩
              obtain ⟨b, hb⟩ : ∃ b, bs[j]? = some b := ⟨_, List.getElem?_eq_getElem (by have := HM.out; omega)⟩
              obtain ⟨hbo, z, hz, hsame⟩ := HCH.out.back j b p y hb hp hy
              have hyg := HCH.out.good _ y hy
              have hpg := HCH.out.good _ p hp
              obtain ⟨ya, yc, hyc, hyl⟩ := TRow.nth _ y HT.out.2 hy
              obtain ⟨pa, pc, hpc, hpl⟩ := TRow.nth _ p HT.out.2 hp
              obtain ⟨ba, bc, hbc, hbl⟩ := BRow.nth _ b HB.out.2 hb
              obtain ⟨gb, cb, eb, _⟩ := HB.out.1.form (by have := HM.out; omega)
              obtain ⟨yn, hyn⟩ : ∃ yn, yn = foLen y.kids := ⟨_, rfl⟩
              obtain ⟨pn, hpn⟩ : ∃ pn, pn = foLen p.kids := ⟨_, rfl⟩
              obtain ⟨bn, hbn⟩ : ∃ bn, bn = foLen b.sub.kids := ⟨_, rfl⟩
              obtain ⟨zn, hzn⟩ : ∃ zn, zn = foLen z.kids := ⟨_, rfl⟩
              have hTg := HT.out.1
              have hBg := HB.out.1
              cases eb
              have CE : Hid (∀ X, Below wo.heap.size wo X → (X.cell? ⟨g, (j + 1) * 4, none⟩ = some (.int .i64 y.id) ∧ X.cell? ⟨g, (j + 1) * 4 + 1, none⟩ = some (.int .i64 y.kind) ∧ X.cell? ⟨g, (j + 1) * 4 + 2, none⟩ = some (.string y.text) ∧ X.cell? ⟨g, (j + 1) * 4 + 3, none⟩ = some (.slice ya yn yc)) ∧ (X.cell? ⟨g, j * 4, none⟩ = some (.int .i64 p.id) ∧ X.cell? ⟨g, j * 4 + 1, none⟩ = some (.int .i64 p.kind) ∧ X.cell? ⟨g, j * 4 + 2, none⟩ = some (.string p.text) ∧ X.cell? ⟨g, j * 4 + 3, none⟩ = some (.slice pa pn pc)) ∧ (X.cell? ⟨gb, j * 9, none⟩ = some (.int .i8 b.op) ∧ X.cell? ⟨gb, j * 9 + 1, none⟩ = some (.int .i64 b.id) ∧ X.cell? ⟨gb, j * 9 + 2, none⟩ = some (.int .i64 b.par) ∧ X.cell? ⟨gb, j * 9 + 3, none⟩ = some (.int .i64 b.at_) ∧ X.cell? ⟨gb, j * 9 + 4, none⟩ = some (.string b.tx) ∧ X.cell? ⟨gb, j * 9 + 5, none⟩ = some (.int .i64 b.sub.id) ∧ X.cell? ⟨gb, j * 9 + 6, none⟩ = some (.int .i64 b.sub.kind) ∧ X.cell? ⟨gb, j * 9 + 7, none⟩ = some (.string b.sub.text) ∧ X.cell? ⟨gb, j * 9 + 8, none⟩ = some (.slice ba bn bc))) := Lib.hid fun X hX => by
                have h1 := fun i u (hu : xs[i]? = some u) => (World.cell?_of_block (a := ⟨g, i, none⟩) (hX.block g (owns_bounds hTg rfl).2)).trans (owns_cell hTg rfl i u hu)
                have h2 := fun i u (hu : ys[i]? = some u) => (World.cell?_of_block (a := ⟨gb, i, none⟩) (hX.block gb (owns_bounds hBg rfl).2)).trans (owns_cell hBg rfl i u hu)
                rw [hyn, hpn, hbn]
                exact ⟨⟨h1 _ _ (hyc 0 _ rfl), h1 _ _ (hyc 1 _ rfl), h1 _ _ (hyc 2 _ rfl), h1 _ _ (hyc 3 _ rfl)⟩, ⟨h1 _ _ (hpc 0 _ rfl), h1 _ _ (hpc 1 _ rfl), h1 _ _ (hpc 2 _ rfl), h1 _ _ (hpc 3 _ rfl)⟩, h2 _ _ (hbc 0 _ rfl), h2 _ _ (hbc 1 _ rfl), h2 _ _ (hbc 2 _ rfl), h2 _ _ (hbc 3 _ rfl), h2 _ _ (hbc 4 _ rfl), h2 _ _ (hbc 5 _ rfl), h2 _ _ (hbc 6 _ rfl), h2 _ _ (hbc 7 _ rfl), h2 _ _ (hbc 8 _ rfl)⟩
              obtain ⟨bb, hbb⟩ : ∃ bb : Option Addr, bb = some ⟨gb, 0, none⟩ := ⟨_, rfl⟩
              have hlow : ∀ q, EB ta bb q → q < wo.heap.size := by
                rintro q (⟨a, e, h⟩ | ⟨a, e, h⟩)
                · rw [HTA.out] at e; cases e; subst h; exact (owns_bounds hTg rfl).2
                · rw [hbb] at e; cases e; subst h; exact (owns_bounds hBg rfl).2
              rw [← HTA.out, ← hbb] at hyl hpl hbl
              have Lp := Lib.hid (hpl.on hi.out)
              have Ly := Lib.hid (hyl.on hi.out)
              have Lb := Lib.hid (hbl.on hi.out)
              have Nz := Lib.hid hzn
              have Ns := Lib.hid (And.intro hyn (And.intro hpn hbn))
              have HZ := Lib.hid (And.intro hz hsame)
              have HOB := Lib.hid hbo
              have HLO := Lib.hid hlow
              have HYG := Lib.hid (And.intro (rng_wf hyg.2.1) (show foSize y.kids + 1 ≤ 2000 by have := hyg.2.2; omega))
              have HPG := Lib.hid (show foSize p.kids + 1 ≤ 2000 by have := hpg.2.2; omega)
              have HZS := Lib.hid (show foSize z.kids + 1 ≤ 100000 by have h2 := (step_keeps hyg.1 hyg.2.1 hz).2.2; have h3 := hyg.2.2; have h4 := hbo.size; omega)
              have CON : Hid (∀ (F : Nat → Prop) (X : World), (∀ q, F q → wi.heap.size ≤ q ∧ q < X.heap.size) → Below wi.heap.size wi X → Calls Try.prog 75 #[.agg #[.int .i64 y.id, .int .i64 y.kind, .string y.text, .slice ya yn yc], .agg #[.int .i8 b.op, .int .i64 b.id, .int .i64 b.par, .int .i64 b.at_, .string b.tx, .int .i64 b.sub.id, .int .i64 b.sub.kind, .string b.sub.text, .slice ba bn bc]] X (TreeN (fun q => EB ta bb q ∨ F q) z 0 X)) := Lib.hid fun F X hF hX => by
                have h := applyN (E := fun q => EB ta bb q ∨ F q) (X0 := wi) (X1 := wi) (X := X) (t := y) (s := b) (fun q hq => hq.elim (fun h => Nat.lt_of_lt_of_le (HLO.out q h) (Nat.le_trans hi.out.size hX.size)) (fun h => (hF q h).2)) (Ly.out.more fun q hq h => by have := (hF q h).1; omega) (Lb.out.more fun q hq h => by have := (hF q h).1; omega) hX hX HYG.out.2 HYG.out.1 HOB.out
                rw [← Ns.out.1, ← Ns.out.2.2, HZ.out.1, show applyR (z, (0 : Int)) = z from by rw [applyR, if_pos rfl]] at h
                exact h
              clear hy hp hb hbo hz hsame hyg hpg hyc hpc hbc hyl hpl hbl hyn hpn hbn hzn hTg hBg hlow hbb
              go_upto_region 21 with fail
              go_cut [14, 15] from 81 to 108 (fun s14 s15 wx => ∃ (zb : Nat) (za : Option Addr) (zc : Nat), s14 = .pointer (some ⟨zb, 0, none⟩) ∧ s15 = .int .i64 0 ∧ Hid (wx.heap[zb]? = some (.cells #[.int .i64 z.id, .int .i64 z.kind, .string z.text, .slice za zn zc] 24 (0, 0)) ∧ LiesN wx (EB ta bb) z.kids za zc ∧ Below wi.heap.size wi wx))
              case first =>
                refine wp_region_held_drew (S := fun X => Below wi.heap.size wi X) (by kernel_rfl) (below_drewN (Below.refl _ wi) 1) (fun hHeld => ?_)
                refine wpAnyH_take (i := 0) (oi := _) (v := .slice (some ⟨g, 0, none⟩) (m + 1) tz) rfl (by kernel_rfl) (by kernel_rfl) (by kernel_rfl) (fun _ _ _ h => h) (Or.inl ⟨by rfl, ?_⟩) (by assumption) ?_
                · clear hHeld; intro X hSw; clear hSw; go_simp
                simp only [Act.put, List.getElem_toArray, List.getElem_cons_zero, List.getElem_cons_succ, List.setIfInBounds_toArray, List.set_cons_zero, List.set_cons_succ]
                refine wpAnyH_take (i := 1) (oi := _) (v := .int .i64 (j : Int)) rfl (by kernel_rfl) (by kernel_rfl) (by kernel_rfl) (fun _ _ _ h => h) (Or.inl ⟨by rfl, ?_⟩) (by assumption) ?_
                · clear hHeld; intro X hSw; clear hSw; go_simp
                simp only [Act.put, List.getElem_toArray, List.getElem_cons_zero, List.getElem_cons_succ, List.setIfInBounds_toArray, List.set_cons_zero, List.set_cons_succ]
                refine wpAnyH_take (i := 2) (oi := _) (v := .int .i64 ((j : Int) + 1)) rfl (by kernel_rfl) (by kernel_rfl) (by kernel_rfl) (fun _ _ _ h => h) (Or.inl ⟨by rfl, ?_⟩) (by assumption) ?_
                · clear hHeld; intro X hSw; have hw := IntWalk.i64_in ((j : Int) + 1) (by omega); clear hSw; go_simp
                simp only [Act.put, List.getElem_toArray, List.getElem_cons_zero, List.getElem_cons_succ, List.setIfInBounds_toArray, List.set_cons_zero, List.set_cons_succ]
                refine wpAnyH_take (i := 3) (oi := _) (v := .pointer (some ⟨g, (j + 1) * 4, none⟩)) rfl (by kernel_rfl) (by kernel_rfl) (by kernel_rfl) (fun _ _ _ h => h) (Or.inl ⟨by rfl, ?_⟩) (by assumption) ?_
                · clear hHeld; intro X hSw; have h1 : ¬ ((j : Int) + 1 < 0) := (by omega); have h2 : (0 : Int) ≤ (j : Int) + 1 := (by omega); have h3 : (j : Int) < (m : Int) := (by omega); have h4 : ((j : Int) + 1).toNat = j + 1 := (by omega); clear hSw; go_simp
                simp only [Act.put, List.getElem_toArray, List.getElem_cons_zero, List.getElem_cons_succ, List.setIfInBounds_toArray, List.set_cons_zero, List.set_cons_succ]
                refine wpAnyH_take (i := 4) (oi := _) (v := .agg #[.int .i64 y.id, .int .i64 y.kind, .string y.text, .slice ya yn yc]) rfl (by kernel_rfl) (by kernel_rfl) (by kernel_rfl) (fun _ _ _ h => h) (Or.inl ⟨by rfl, ?_⟩) (by assumption) ?_
                · clear hHeld; intro X hSw; obtain ⟨⟨a0, a1, a2, a3⟩, ⟨d0, d1, d2, d3⟩, b0, b1, b2, b3, b4, b5, b6, b7, b8⟩ := CE.out X (hi.out.trans (hSw.mono hi.out.size)); clear hSw; go_simp
                simp only [Act.put, List.getElem_toArray, List.getElem_cons_zero, List.getElem_cons_succ, List.setIfInBounds_toArray, List.set_cons_zero, List.set_cons_succ]
                refine wpAnyH_take (i := 5) (oi := _) (v := .slice (some ⟨gb, 0, none⟩) m bz) rfl (by kernel_rfl) (by kernel_rfl) (by kernel_rfl) (fun _ _ _ h => h) (Or.inl ⟨by rfl, ?_⟩) (by assumption) ?_
                · clear hHeld; intro X hSw; clear hSw; go_simp
                simp only [Act.put, List.getElem_toArray, List.getElem_cons_zero, List.getElem_cons_succ, List.setIfInBounds_toArray, List.set_cons_zero, List.set_cons_succ]
                refine wpAnyH_take (i := 6) (oi := _) (v := .int .i64 (j : Int)) rfl (by kernel_rfl) (by kernel_rfl) (by kernel_rfl) (fun _ _ _ h => h) (Or.inl ⟨by rfl, ?_⟩) (by assumption) ?_
                · clear hHeld; intro X hSw; clear hSw; go_simp
                simp only [Act.put, List.getElem_toArray, List.getElem_cons_zero, List.getElem_cons_succ, List.setIfInBounds_toArray, List.set_cons_zero, List.set_cons_succ]
                refine wpAnyH_take (i := 7) (oi := _) (v := .pointer (some ⟨gb, j * 9, none⟩)) rfl (by kernel_rfl) (by kernel_rfl) (by kernel_rfl) (fun _ _ _ h => h) (Or.inl ⟨by rfl, ?_⟩) (by assumption) ?_
                · clear hHeld; intro X hSw; clear hSw; go_simp
                simp only [Act.put, List.getElem_toArray, List.getElem_cons_zero, List.getElem_cons_succ, List.setIfInBounds_toArray, List.set_cons_zero, List.set_cons_succ]
                refine wpAnyH_take (i := 8) (oi := _) (v := .agg #[.int .i8 b.op, .int .i64 b.id, .int .i64 b.par, .int .i64 b.at_, .string b.tx, .int .i64 b.sub.id, .int .i64 b.sub.kind, .string b.sub.text, .slice ba bn bc]) rfl (by kernel_rfl) (by kernel_rfl) (by kernel_rfl) (fun _ _ _ h => h) (Or.inl ⟨by rfl, ?_⟩) (by assumption) ?_
                · clear hHeld; intro X hSw; obtain ⟨⟨a0, a1, a2, a3⟩, ⟨d0, d1, d2, d3⟩, b0, b1, b2, b3, b4, b5, b6, b7, b8⟩ := CE.out X (hi.out.trans (hSw.mono hi.out.size)); clear hSw; go_simp
                simp only [Act.put, List.getElem_toArray, List.getElem_cons_zero, List.getElem_cons_succ, List.setIfInBounds_toArray, List.set_cons_zero, List.set_cons_succ]
                refine wpAnyH_ready (rs := [9, 13]) (by kernel_rfl) (by simp) ?_
                refine AllReadyH.cons (o := _) rfl (fun K hK => ?_) (AllReadyH.cons (o := _) rfl (fun K hK => ?_) AllReadyH.nil)
                · rw [if_pos (by rfl)]
                  simp only [List.getElem_toArray, List.getElem_cons_zero, List.getElem_cons_succ]
                  have HK := Lib.hid hK
                  have HS := Lib.hid hHeld
                  clear hK hHeld
                  go_wp2_with (go_at_call 75; refine (CON.out (fun _ => False) _ (fun _ h => h.elim) HS.out).mono ?_; rintro e w5 ⟨ra, rc, rfl, hl5, hb5⟩; have HS5 := Lib.hid (HS.out.trans (hb5.mono HS.out.size)); have H5 := Lib.hid (hl5.weak (E := EB ta bb) (fun q h => Or.inl h)); have HX5 := Lib.hid (show wi.heap.size ≤ w5.heap.size from Nat.le_trans HS.out.size hb5.size); clear hl5 hb5; rw [← Nz.out])
                  refine HK.out _ _ HS5.out (fun hHeld => ?_)
                  clear HK HS
                  refine wpAnyH_take (i := 10) (oi := _) (v := .tuple #[.agg #[.int .i64 z.id, .int .i64 z.kind, .string z.text, .slice ra zn rc], .int .i64 0]) rfl (by kernel_rfl) (by kernel_rfl) (by kernel_rfl) (fun _ _ _ h => h) (Or.inl ⟨by rfl, ?_⟩) (by assumption) ?_
                  · clear hHeld; intro X hSw; clear hSw; go_simp
                  simp only [Act.put, List.getElem_toArray, List.getElem_cons_zero, List.getElem_cons_succ, List.setIfInBounds_toArray, List.set_cons_zero, List.set_cons_succ]
                  refine wpAnyH_take (i := 11) (oi := _) (v := .agg #[.int .i64 z.id, .int .i64 z.kind, .string z.text, .slice ra zn rc]) rfl (by kernel_rfl) (by kernel_rfl) (by kernel_rfl) (fun _ _ _ h => h) (Or.inl ⟨by rfl, ?_⟩) (by assumption) ?_
                  · clear hHeld; intro X hSw; clear hSw; go_simp
                  simp only [Act.put, List.getElem_toArray, List.getElem_cons_zero, List.getElem_cons_succ, List.setIfInBounds_toArray, List.set_cons_zero, List.set_cons_succ]
                  refine wpAnyH_take (i := 12) (oi := _) (v := .int .i64 0) rfl (by kernel_rfl) (by kernel_rfl) (by kernel_rfl) (fun _ _ _ h => h) (Or.inl ⟨by rfl, ?_⟩) (by assumption) ?_
                  · clear hHeld; intro X hSw; clear hSw; go_simp
                  simp only [Act.put, List.getElem_toArray, List.getElem_cons_zero, List.getElem_cons_succ, List.setIfInBounds_toArray, List.set_cons_zero, List.set_cons_succ]
                  refine wpAnyH_ready (rs := [13]) (by kernel_rfl) (by simp) ?_
                  refine AllReadyH.cons (o := _) rfl (fun K hK => ?_) AllReadyH.nil
                  rw [if_pos (by rfl)]
                  simp only [List.getElem_toArray, List.getElem_cons_zero, List.getElem_cons_succ]
                  have HK := Lib.hid hK
                  have HS := Lib.hid hHeld
                  clear hK hHeld
                  go_wp2_with fail
                  obtain ⟨WA, hWA⟩ : ∃ WA, WA = (World.alloc w5 (.cells #[.int .i64 0, .int .i64 0, .string ⟨#[]⟩, .slice none 0 0] 24)) := ⟨_, rfl⟩
                  rw [← hWA]
                  have hza : WA.heap[w5.heap.size]? = some (.cells #[.int .i64 0, .int .i64 0, .string ⟨#[]⟩, .slice none 0 0] 24 (0, 0)) := by rw [hWA]; exact heap_alloc_new w5 _
                  have hba : Below w5.heap.size w5 WA := by rw [hWA]; exact box_below _ _
                  have hsa : WA.heap.size = w5.heap.size + 1 := by rw [hWA]; exact heap_alloc_size1 _ _
                  have HA := Lib.hid (And.intro hza (And.intro hba hsa))
                  refine HK.out _ _ (HS.out.trans (hba.mono HS.out.size)) (fun hHeld => ?_)
                  clear HK HS hza hba hsa hWA
                  refine wpAnyH_ready (rs := [14]) (by kernel_rfl) (by simp) ?_
                  refine AllReadyH.cons (o := _) rfl (fun K hK => ?_) AllReadyH.nil
                  rw [if_pos (by rfl)]
                  simp only [List.getElem_toArray, List.getElem_cons_zero, List.getElem_cons_succ]
                  have HK := Lib.hid hK
                  have HS := Lib.hid hHeld
                  clear hK hHeld
                  have hz : WA.heap[w5.heap.size]? = some (.cells #[.int .i64 0, .int .i64 0, .string ⟨#[]⟩, .slice none 0 0] 24 (0, 0)) := HA.out.1
                  obtain ⟨z0, z1, z2, z3⟩ := box4 hz
                  have zf : ∀ j, WA.frozen? ⟨w5.heap.size, j, none⟩ = false := fun j => frozen_of_row _ _ j _ _ hz
                  obtain ⟨V5, e5, r1, r2, r3, r4, r5, r6⟩ := four_set (u0 := .int .i64 z.id) (u1 := .int .i64 z.kind) (u2 := .string z.text) (u3 := .slice ra zn rc) hz
                  have hb5 : Below wi.heap.size wi V5 := ⟨r3.trans HS.out.os, r4.trans HS.out.tape, r5.trans HS.out.output, by rw [r6]; exact HS.out.size, fun y hy => (r2 y (by have := HX5.out; omega)).trans (HS.out.block y hy)⟩
                  have hk5 : LiesN V5 (EB ta bb) z.kids ra rc := H5.out.set HA.out.2.1 r2 r6 (Nat.le_refl _)
                  have H6 := Lib.hid (And.intro hb5 (And.intro e5 (And.intro r1 hk5)))
                  clear hz r1 r2 r3 r4 r5 r6 hb5 e5 hk5
                  go_wp2_with fail
                  rw [← H6.out.2.1]
                  refine HK.out _ _ H6.out.1 (fun hHeld => ?_)
                  clear HK HS z0 z1 z2 z3 zf HA H5 HS5 HX5
                  refine wpAnyH_take (i := 15) (oi := _) (v := .int .i64 0) rfl (by kernel_rfl) (by kernel_rfl) (by kernel_rfl) (fun _ _ _ h => h) (Or.inl ⟨by rfl, ?_⟩) (by assumption) ?_
                  · clear hHeld; intro X hSw; clear hSw; go_simp
                  simp only [Act.put, List.getElem_toArray, List.getElem_cons_zero, List.getElem_cons_succ, List.setIfInBounds_toArray, List.set_cons_zero, List.set_cons_succ]
                  refine wpAnyH_done (by kernel_rfl) ?_ _
                  clear hHeld
                  go_wp2_with fail
                  go_meet
                  case rel => exact ⟨w5.heap.size, ra, rc, rfl, rfl, Lib.hid ⟨H6.out.2.2.1, H6.out.2.2.2, H6.out.1⟩⟩
                · rw [if_pos (by rfl)]
                  simp only [List.getElem_toArray, List.getElem_cons_zero, List.getElem_cons_succ]
                  have HK := Lib.hid hK
                  have HS := Lib.hid hHeld
                  clear hK hHeld
                  go_wp2_with fail
                  obtain ⟨WA, hWA⟩ : ∃ WA, WA = (World.alloc wi (.cells #[.int .i64 0, .int .i64 0, .string ⟨#[]⟩, .slice none 0 0] 24)).drew := ⟨_, rfl⟩
                  rw [← hWA]
                  have hza : WA.heap[wi.heap.size]? = some (.cells #[.int .i64 0, .int .i64 0, .string ⟨#[]⟩, .slice none 0 0] 24 (0, 0)) := by rw [hWA]; exact heap_alloc_new wi _
                  have hba : Below wi.heap.size wi WA := by rw [hWA]; exact below_drewN (box_below _ _) 1
                  have hsa : WA.heap.size = wi.heap.size + 1 := by rw [hWA]; exact heap_alloc_size1 _ _
                  have HA := Lib.hid (And.intro hza (And.intro hba hsa))
                  refine HK.out _ _ (hba) (fun hHeld => ?_)
                  clear HK HS hza hba hsa hWA
                  refine wpAnyH_ready (rs := [9]) (by kernel_rfl) (by simp) ?_
                  refine AllReadyH.cons (o := _) rfl (fun K hK => ?_) AllReadyH.nil
                  rw [if_pos (by rfl)]
                  simp only [List.getElem_toArray, List.getElem_cons_zero, List.getElem_cons_succ]
                  have HK := Lib.hid hK
                  have HS := Lib.hid hHeld
                  clear hK hHeld
                  go_wp2_with (go_at_call 75; refine (CON.out (fun q => q = wi.heap.size) _ (fun q h => ⟨Nat.le_of_eq h.symm, by rw [h, HA.out.2.2]; exact Nat.lt_succ_self _⟩) HS.out).mono ?_; rintro e w5 ⟨ra, rc, rfl, hl5, hb5⟩; have HS5 := Lib.hid (HS.out.trans (hb5.mono HS.out.size)); have H5 := Lib.hid hl5; have HX5 := Lib.hid (show wi.heap.size ≤ wi.heap.size from Nat.le_refl _); have HZB := Lib.hid ((hb5.block _ (lt_of_heap HA.out.1)).trans HA.out.1); clear hl5 hb5; rw [← Nz.out])
                  refine HK.out _ _ HS5.out (fun hHeld => ?_)
                  clear HK HS
                  refine wpAnyH_take (i := 10) (oi := _) (v := .tuple #[.agg #[.int .i64 z.id, .int .i64 z.kind, .string z.text, .slice ra zn rc], .int .i64 0]) rfl (by kernel_rfl) (by kernel_rfl) (by kernel_rfl) (fun _ _ _ h => h) (Or.inl ⟨by rfl, ?_⟩) (by assumption) ?_
                  · clear hHeld; intro X hSw; clear hSw; go_simp
                  simp only [Act.put, List.getElem_toArray, List.getElem_cons_zero, List.getElem_cons_succ, List.setIfInBounds_toArray, List.set_cons_zero, List.set_cons_succ]
                  refine wpAnyH_take (i := 11) (oi := _) (v := .agg #[.int .i64 z.id, .int .i64 z.kind, .string z.text, .slice ra zn rc]) rfl (by kernel_rfl) (by kernel_rfl) (by kernel_rfl) (fun _ _ _ h => h) (Or.inl ⟨by rfl, ?_⟩) (by assumption) ?_
                  · clear hHeld; intro X hSw; clear hSw; go_simp
                  simp only [Act.put, List.getElem_toArray, List.getElem_cons_zero, List.getElem_cons_succ, List.setIfInBounds_toArray, List.set_cons_zero, List.set_cons_succ]
                  refine wpAnyH_take (i := 12) (oi := _) (v := .int .i64 0) rfl (by kernel_rfl) (by kernel_rfl) (by kernel_rfl) (fun _ _ _ h => h) (Or.inl ⟨by rfl, ?_⟩) (by assumption) ?_
                  · clear hHeld; intro X hSw; clear hSw; go_simp
                  simp only [Act.put, List.getElem_toArray, List.getElem_cons_zero, List.getElem_cons_succ, List.setIfInBounds_toArray, List.set_cons_zero, List.set_cons_succ]
                  refine wpAnyH_ready (rs := [14]) (by kernel_rfl) (by simp) ?_
                  refine AllReadyH.cons (o := _) rfl (fun K hK => ?_) AllReadyH.nil
                  rw [if_pos (by rfl)]
                  simp only [List.getElem_toArray, List.getElem_cons_zero, List.getElem_cons_succ]
                  have HK := Lib.hid hK
                  have HS := Lib.hid hHeld
                  clear hK hHeld
                  have hz : w5.heap[wi.heap.size]? = some (.cells #[.int .i64 0, .int .i64 0, .string ⟨#[]⟩, .slice none 0 0] 24 (0, 0)) := HZB.out
                  obtain ⟨z0, z1, z2, z3⟩ := box4 hz
                  have zf : ∀ j, w5.frozen? ⟨wi.heap.size, j, none⟩ = false := fun j => frozen_of_row _ _ j _ _ hz
                  obtain ⟨V5, e5, r1, r2, r3, r4, r5, r6⟩ := four_set (u0 := .int .i64 z.id) (u1 := .int .i64 z.kind) (u2 := .string z.text) (u3 := .slice ra zn rc) hz
                  have hb5 : Below wi.heap.size wi V5 := ⟨r3.trans HS.out.os, r4.trans HS.out.tape, r5.trans HS.out.output, by rw [r6]; exact HS.out.size, fun y hy => (r2 y (by have := HX5.out; omega)).trans (HS.out.block y hy)⟩
                  have hk5 : LiesN V5 (EB ta bb) z.kids ra rc := H5.out.setB r2 r6
                  have H6 := Lib.hid (And.intro hb5 (And.intro e5 (And.intro r1 hk5)))
                  clear hz r1 r2 r3 r4 r5 r6 hb5 e5 hk5
                  go_wp2_with fail
                  rw [← H6.out.2.1]
                  refine HK.out _ _ H6.out.1 (fun hHeld => ?_)
                  clear HK HS z0 z1 z2 z3 zf HA H5 HS5 HX5
                  refine wpAnyH_take (i := 15) (oi := _) (v := .int .i64 0) rfl (by kernel_rfl) (by kernel_rfl) (by kernel_rfl) (fun _ _ _ h => h) (Or.inl ⟨by rfl, ?_⟩) (by assumption) ?_
                  · clear hHeld; intro X hSw; clear hSw; go_simp
                  simp only [Act.put, List.getElem_toArray, List.getElem_cons_zero, List.getElem_cons_succ, List.setIfInBounds_toArray, List.set_cons_zero, List.set_cons_succ]
                  refine wpAnyH_done (by kernel_rfl) ?_ _
                  clear hHeld
                  go_wp2_with fail
                  go_meet
                  case rel => exact ⟨wi.heap.size, ra, rc, rfl, rfl, Lib.hid ⟨H6.out.2.2.1, H6.out.2.2.2, H6.out.1⟩⟩
              case rest =>
                obtain ⟨zb, za, zc, rfl, rfl, hcc⟩ := hcut
                obtain ⟨W5, hW5⟩ : ∃ W5, W5 = wc := ⟨_, rfl⟩
                subst hW5
                have Ez := Lib.hid hcc.out.1
                have HB5 := Lib.hid (hi.out.trans (hcc.out.2.2.mono hi.out.size))
                have HSM : Hid (∀ X, Below W5.heap.size W5 X → Calls Try.prog 28 #[.agg #[.int .i64 z.id, .int .i64 z.kind, .string z.text, .slice za zn zc], .agg #[.int .i64 p.id, .int .i64 p.kind, .string p.text, .slice pa pn pc]] X fun e w' => e = .returned (.bool true) ∧ Below X.heap.size X w') := Lib.hid fun X hX => by
                  have h := sameL (X0 := W5) (X1 := wi) (X := X) (t := z) (u := p) hcc.out.2.1.i Lp.out.i hX (hcc.out.2.2.trans (hX.mono hcc.out.2.2.size)) HZS.out
                  unfold SameC at h
                  rw [← Nz.out, ← Ns.out.2.1, HZ.out.2] at h
                  exact h
                clear hcc CON
                go_upto_region 22 with fail
                refine wp_region_held_drew (S := fun X => Below W5.heap.size W5 X) (by kernel_rfl) (below_drewN (Below.refl _ W5) 1) (fun hHeld => ?_)
                refine wpAnyH_take (i := 0) (oi := _) (v := .int .i64 0) rfl (by kernel_rfl) (by kernel_rfl) (by kernel_rfl) (fun _ _ _ h => h) (Or.inl ⟨by rfl, ?_⟩) (by assumption) ?_
                · clear hHeld; intro X hSw; clear hSw; go_simp
                simp only [Act.put, List.getElem_toArray, List.getElem_cons_zero, List.getElem_cons_succ, List.setIfInBounds_toArray, List.set_cons_zero, List.set_cons_succ]
                refine wpAnyH_take (i := 1) (oi := _) (v := .bool false) rfl (by kernel_rfl) (by kernel_rfl) (by kernel_rfl) (fun _ _ _ h => h) (Or.inl ⟨by rfl, ?_⟩) (by assumption) ?_
                · clear hHeld; intro X hSw; clear hSw; go_simp
                simp only [Act.put, List.getElem_toArray, List.getElem_cons_zero, List.getElem_cons_succ, List.setIfInBounds_toArray, List.set_cons_zero, List.set_cons_succ]
                refine wpAnyH_take (i := 2) (oi := _) (v := .bool false) rfl (by kernel_rfl) (by kernel_rfl) (by kernel_rfl) (fun _ _ _ h => h) (Or.inl ⟨by rfl, ?_⟩) (by assumption) ?_
                · clear hHeld; intro X hSw; clear hSw; go_simp
                simp only [Act.put, List.getElem_toArray, List.getElem_cons_zero, List.getElem_cons_succ, List.setIfInBounds_toArray, List.set_cons_zero, List.set_cons_succ]
                refine wpAnyH_take (i := 3) (oi := _) (v := .agg #[.int .i64 z.id, .int .i64 z.kind, .string z.text, .slice za zn zc]) rfl (by kernel_rfl) (by kernel_rfl) (by kernel_rfl) (fun _ _ _ h => h) (Or.inl ⟨by rfl, ?_⟩) (by assumption) ?_
                · clear hHeld; intro X hSw; obtain ⟨q0, q1, q2, q3⟩ := box4 ((hSw.block _ (lt_of_heap Ez.out)).trans Ez.out); clear hSw; go_simp
                simp only [Act.put, List.getElem_toArray, List.getElem_cons_zero, List.getElem_cons_succ, List.setIfInBounds_toArray, List.set_cons_zero, List.set_cons_succ]
                refine wpAnyH_take (i := 4) (oi := _) (v := .slice (some ⟨g, 0, none⟩) (m + 1) tz) rfl (by kernel_rfl) (by kernel_rfl) (by kernel_rfl) (fun _ _ _ h => h) (Or.inl ⟨by rfl, ?_⟩) (by assumption) ?_
                · clear hHeld; intro X hSw; clear hSw; go_simp
                simp only [Act.put, List.getElem_toArray, List.getElem_cons_zero, List.getElem_cons_succ, List.setIfInBounds_toArray, List.set_cons_zero, List.set_cons_succ]
                refine wpAnyH_take (i := 5) (oi := _) (v := .int .i64 (j : Int)) rfl (by kernel_rfl) (by kernel_rfl) (by kernel_rfl) (fun _ _ _ h => h) (Or.inl ⟨by rfl, ?_⟩) (by assumption) ?_
                · clear hHeld; intro X hSw; clear hSw; go_simp
                simp only [Act.put, List.getElem_toArray, List.getElem_cons_zero, List.getElem_cons_succ, List.setIfInBounds_toArray, List.set_cons_zero, List.set_cons_succ]
                refine wpAnyH_take (i := 6) (oi := _) (v := .pointer (some ⟨g, j * 4, none⟩)) rfl (by kernel_rfl) (by kernel_rfl) (by kernel_rfl) (fun _ _ _ h => h) (Or.inl ⟨by rfl, ?_⟩) (by assumption) ?_
                · clear hHeld; intro X hSw; have h5 : (j : Int) < (m : Int) + 1 := (by omega); have h6 : ¬ ((m : Int) + 1 ≤ (j : Int)) := (by omega); clear hSw; go_simp
                simp only [Act.put, List.getElem_toArray, List.getElem_cons_zero, List.getElem_cons_succ, List.setIfInBounds_toArray, List.set_cons_zero, List.set_cons_succ]
                refine wpAnyH_take (i := 7) (oi := _) (v := .agg #[.int .i64 p.id, .int .i64 p.kind, .string p.text, .slice pa pn pc]) rfl (by kernel_rfl) (by kernel_rfl) (by kernel_rfl) (fun _ _ _ h => h) (Or.inl ⟨by rfl, ?_⟩) (by assumption) ?_
                · clear hHeld; intro X hSw; obtain ⟨⟨a0, a1, a2, a3⟩, ⟨d0, d1, d2, d3⟩, b0, b1, b2, b3, b4, b5, b6, b7, b8⟩ := CE.out X (HB5.out.trans (hSw.mono HB5.out.size)); clear hSw; go_simp
                simp only [Act.put, List.getElem_toArray, List.getElem_cons_zero, List.getElem_cons_succ, List.setIfInBounds_toArray, List.set_cons_zero, List.set_cons_succ]
                refine wpAnyH_ready (rs := [8]) (by kernel_rfl) (by simp) ?_
                refine AllReadyH.cons (o := _) rfl (fun K hK => ?_) AllReadyH.nil
                rw [if_pos (by rfl)]
                simp only [List.getElem_toArray, List.getElem_cons_zero, List.getElem_cons_succ]
                have HK := Lib.hid hK
                have HS := Lib.hid hHeld
                clear hK hHeld
                go_wp2_with (go_at_call 28; refine (HSM.out _ HS.out).mono ?_; rintro e w6 ⟨rfl, hb6⟩; have HS6 := Lib.hid (HS.out.trans (hb6.mono HS.out.size)); clear hb6)
                refine HK.out _ _ HS6.out (fun hHeld => ?_)
                clear HK HS
                refine wpAnyH_take (i := 9) (oi := _) (v := .bool false) rfl (by kernel_rfl) (by kernel_rfl) (by kernel_rfl) (fun _ _ _ h => h) (Or.inl ⟨by rfl, ?_⟩) (by assumption) ?_
                · clear hHeld; intro X hSw; clear hSw; go_simp
                simp only [Act.put, List.getElem_toArray, List.getElem_cons_zero, List.getElem_cons_succ, List.setIfInBounds_toArray, List.set_cons_zero, List.set_cons_succ]
                refine wpAnyH_take (i := 10) (oi := _) (v := .bool false) rfl (by kernel_rfl) (by kernel_rfl) (by kernel_rfl) (fun _ _ _ h => h) (Or.inl ⟨by rfl, ?_⟩) (by assumption) ?_
                · clear hHeld; intro X hSw; clear hSw; go_simp
                simp only [Act.put, List.getElem_toArray, List.getElem_cons_zero, List.getElem_cons_succ, List.setIfInBounds_toArray, List.set_cons_zero, List.set_cons_succ]
                refine wpAnyH_done (by kernel_rfl) ?_ _
                clear hHeld
                go_wp2_with fail
                go_roundg j
                case measure => omega
                case rel => exact ⟨by omega, by go_num, Lib.hid (HB5.out.trans (HS6.out.mono HB5.out.size))⟩
end Go.Proofs.Ythjniclhnfipdaa
