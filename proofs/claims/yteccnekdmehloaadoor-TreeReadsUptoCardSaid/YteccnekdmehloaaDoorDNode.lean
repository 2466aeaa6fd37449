/-
  The document's node: a node with all below it. No condition.
-/
import Derived.Test.YteccnekdmehloaaDoorDNodeP
import Derived.Deep.LoopGhost
namespace Go.Proofs.YteccnekdmehloaaDoor
open Go.RowKit
open Extern.Stop (cell)

set_option maxRecDepth 100000 in
set_option maxHeartbeats 4000000 in
theorem dNode_step (f depth : Nat) (ih : DnC f (depth + 1)) (hd : depth ≤ 40) (w : World) (rb : Nat) (a : Option Addr) (cap : Nat) (s : Rd) (m : Nat) (h : RfAt w rb a cap s (m : Int)) (hb : s.bad = false) (hm : m + 1 ≤ 200) :
    Calls Tryd.prog 46 #[.pointer (some ⟨rb, 0, none⟩), .int .i64 (depth : Int)] w (NodeR w rb a cap s (pNode s.data (f + 1) depth m s.pos)) := by
  obtain ⟨at_, hh, _⟩ := h.here
  have hlt := lt_of_heap hh
  obtain ⟨j, hj⟩ : ∃ j : Nat, j = m + 1 := ⟨_, rfl⟩
  have hj1 : (m : Int) + 1 = (j : Int) := by omega
  have hj2 : (j : Int) ≤ 200 := by omega
  obtain ⟨c0, c1, c2, c3, cf⟩ := (h.alloc (.cells #[.int .i64 0, .int .i64 0, .string ⟨#[]⟩, .slice none 0 0] 25)).good hb
  have h1 := (h.alloc (.cells #[.int .i64 0, .int .i64 0, .string ⟨#[]⟩, .slice none 0 0] 25)).nodes (j : Int)
  have ht := ((Touched.refl w (fun k => k = rb)).alloc (.cells #[.int .i64 0, .int .i64 0, .string ⟨#[]⟩, .slice none 0 0] 25)).trans (Touched.setCell (S := fun k => k = rb) (a := ⟨rb, 3, none⟩) rfl (.int .i64 (j : Int))) (fun k hk => Or.inl hk)
  have hr : ((w.alloc (.cells #[.int .i64 0, .int .i64 0, .string ⟨#[]⟩, .slice none 0 0] 25)).setCell ⟨rb, 3, none⟩ (.int .i64 (j : Int))).heap[w.heap.size]? = some (.cells zeroN 25 (0, 0)) := (Below.heap_setCell _ _ _ _ (by show w.heap.size ≠ rb; omega)).trans (heap_alloc_new w _)
  have hsz : w.heap.size < ((w.alloc (.cells #[.int .i64 0, .int .i64 0, .string ⟨#[]⟩, .slice none 0 0] 25)).setCell ⟨rb, 3, none⟩ (.int .i64 (j : Int))).heap.size := by simp [World.setCell]
  obtain ⟨k0, k1, k2, k3, kf⟩ := h1.good hb
  have d0 : decide ((40 : Int) < (depth : Int)) = false := by simp only [decide_eq_false_iff_not]; omega
  have d1 : decide ((200 : Int) < (j : Int)) = false := by simp only [decide_eq_false_iff_not]; omega
  have hd3 : (depth : Int) ≤ 40 := by omega
  have hp := h.fits
  have hp2 := h.few
  have hlow := h.low
  have H0 := Lib.hid (And.intro h1 (And.intro ht (And.intro hr (And.intro hsz (And.intro hlt (And.intro hb hlow))))))
  have HJ := Lib.hid hj
  obtain ⟨out, hout⟩ : ∃ out, out = pNode s.data (f + 1) depth m s.pos := ⟨_, rfl⟩
  rw [← hout]
  have HO := Lib.hid hout
  have HIH := Lib.hid (And.intro ih (And.intro hd hm))
  obtain ⟨i0, z0, hi0, hz0, hz1, hz2, hz3⟩ := info_wideC Tryd.infoNC
  have HI := Lib.hid (And.intro hi0 (And.intro hz0 (And.intro hz1 (And.intro hz2 hz3))))
  clear h h1 ht hr hh hb hlt hj hlow hsz hout ih hd hm hi0 hz0 hz1 hz2 hz3
  go_enter Tryd.func46, Tryd.ntmps46
  go_wp2_with (first
    | (go_at_call 66; refine (bNum H0.out.1).mono ?_; rintro e w1 ⟨x1, rfl, h1, t1, z1, v1⟩; have H1 := Lib.hid (And.intro h1 (And.intro t1 v1)); clear h1 t1 z1 v1)
    | (go_at_call 66; refine (bNum H1.out.1).mono ?_; rintro e w2 ⟨x2, rfl, h1, t1, z1, v1⟩; have H2 := Lib.hid (And.intro h1 (And.intro t1 v1)); clear h1 t1 z1 v1)
    | (go_at_call 67; refine (bText H2.out.1).mono ?_; rintro e w3 ⟨x3, rfl, h1, t1, z1, v1⟩; obtain ⟨s3, hs3⟩ : ∃ s3, s3 = aft (aft (aft s (pNum s.data s.pos)) (pNum (aft s (pNum s.data s.pos)).data (aft s (pNum s.data s.pos)).pos)) (pText (aft (aft s (pNum s.data s.pos)) (pNum (aft s (pNum s.data s.pos)).data (aft s (pNum s.data s.pos)).pos)).data (aft (aft s (pNum s.data s.pos)) (pNum (aft s (pNum s.data s.pos)).data (aft s (pNum s.data s.pos)).pos)).pos) := ⟨_, rfl⟩; rw [← hs3] at h1; have g0 := (h1.alloc (.cells #[.int .i64 x1, .int .i64 x2, .string x3, .slice none 0 0] 25)).cells.1; have hl3 := h1.few; have hc3 := bCount (h1.alloc (.cells #[.int .i64 x1, .int .i64 x2, .string x3, .slice none 0 0] 25)) 32 (s3.data.length : Int) (by decide) (by decide); have H3 := Lib.hid (And.intro h1 (And.intro t1 (And.intro v1 (And.intro hs3 hc3)))); clear h1 t1 z1 v1 hs3 hc3)
    | (go_at_call 68; refine H3.out.2.2.2.2.mono ?_; rintro e w4 ⟨n, rfl, h1, t1, z1, v1⟩; have H4 := Lib.hid (And.intro h1 (And.intro t1 (And.intro z1 v1))); clear h1 t1 z1 v1))
  obtain ⟨b1, b2, b3, b4, b5, b6, b7⟩ := H0.out
  obtain ⟨one, hone⟩ : ∃ one : Nat → Nat → Got (Tr × Nat), one = fun m' q => pNode s.data f (depth + 1) m' q := ⟨_, rfl⟩
  obtain ⟨s4, hs4⟩ : ∃ s4, s4 = aft s3 (pCount s3.data 32 (s3.data.length : Int) s3.pos) := ⟨_, rfl⟩
  have hch := chain_node (f := f) (depth := depth) (m := m) (n := n) b6 hp2 (by have := HIH.out.2; omega) H1.out.2.2 H2.out.2.2 H3.out.2.2.1 H3.out.2.2.2.1 hs4 H4.out.2.2.1 H4.out.2.2.2
  rw [← hone, ← HO.out] at hch
  obtain ⟨q0, hn1, hst, hO, hOk⟩ : ∃ q0, n ≤ 100000000 ∧ ((s4.bad = true ∧ ∃ e, out = .error e ∧ s4 = { s with pos := e, bad := true }) ∨ s4 = { s with pos := q0 }) ∧ (∀ e, pList one n (m + 1) q0 = .error e → out = .error e) ∧ (s4.bad = false → ∀ l m2 q5, pList one n (m + 1) q0 = .ok ((l, m2), q5) → out = .ok ((⟨x1, x2, x3, foOfC l⟩, m2), q5)) := by
    rcases hch with ⟨hn0, e, he, hse⟩ | ⟨q4, hs, hn, he⟩
    · subst hn0
      exact ⟨0, by omega, Or.inl ⟨by rw [hse], e, he, hse⟩, fun e h => by simp [pList] at h, fun hb => by rw [hse] at hb; cases hb⟩
    · exact ⟨q4, by omega, Or.inr hs, fun e h => by rw [he, h], fun _ l m2 q5 h => by rw [he, h]⟩
  have h4 := H4.out.1
  rw [← hs4] at h4
  have hz3 : w.heap.size < w3.heap.size := by have := H1.out.2.1.size; have := H2.out.2.1.size; have := H3.out.2.1.size; omega
  have ht4 : Touched w w4 (fun k => k = rb) := ((((b2.trans H1.out.2.1 (fun k hk => Or.inl hk)).trans H2.out.2.1 (fun k hk => Or.inl hk)).trans H3.out.2.1 (fun k hk => Or.inl hk)).alloc _).trans H4.out.2.1 (fun k hk => Or.inl hk)
  have hr4 : w4.heap[w.heap.size]? = some (.cells zeroN 25 (0, 0)) := by
    have i1 := H1.out.2.1.size
    have i2 := H2.out.2.1.size
    have i3 := H3.out.2.1.size
    rw [H4.out.2.1.block _ (by rw [World.size_alloc]; omega) (by omega), Below.heap_alloc _ _ _ hz3, H3.out.2.1.block _ (by omega) (by omega), H2.out.2.1.block _ (by omega) (by omega), H1.out.2.1.block _ (by omega) (by omega)]
    exact b3
  have hx4 : w4.heap[w3.heap.size]? = some (.cells #[.int .i64 x1, .int .i64 x2, .string x3, .slice none 0 0] 25 (0, 0)) := by
    rw [H4.out.2.1.block _ (by rw [World.size_alloc]; omega) (by omega)]
    exact heap_alloc_new w3 _
  have HD : Hid (DInv w rb a cap s out one (m + 1) q0 w3.heap.size x1 x2 x3 (.slice none 0 0) 0 [] s4 (j : Int) w4) := Lib.hid ⟨h4, ht4, hr4, hx4, World.ownsRow_nil _ _ _ _, ⟨b5, hz3, b7⟩, by
    rcases hst with h | h
    · exact Or.inl h
    · exact Or.inr ⟨[], m + 1, q0, h, by rw [HJ.out], rfl, rfl, rfl⟩⟩
  have HK := Lib.hid (And.intro hn1 (And.intro hO (And.intro hOk (And.intro b6 hone))))
  have hn2 : (n : Int) ≤ 100000000 := by omega
  clear b1 b2 b3 b4 b5 b6 b7 hs4 hch hn1 hst hO hOk h4 hz3 ht4 hr4 hx4 hone
  go_loopg [11] n (fun gk i wr => ∃ (k : Nat) (rv : Value) (xs : List Value) (sk : Rd) (mk : Int), k + gk = n ∧ i = .int .i64 (k : Int) ∧ Hid (DInv w rb a cap s out one (m + 1) q0 w3.heap.size x1 x2 x3 rv k xs sk mk wr ∧ (sk.bad = false → s4.bad = false)))
  case atStart => exact ⟨0, _, [], s4, _, by omega, rfl, Lib.hid ⟨HD.out, id⟩⟩
  case round =>
    obtain ⟨k, rv, xs, sk, mk, hkn, rfl, HL⟩ := hrel
    obtain ⟨ra, rc, hrv⟩ := owns_slice HL.out.1.row
    subst hrv
    have hbx := HL.out.1.box
    have e0 : wr.cell? ⟨w3.heap.size, 0, none⟩ = some (.int .i64 x1) := by rw [cell_of_row wr _ 0 _ _ _ hbx]; rfl
    have e1 : wr.cell? ⟨w3.heap.size, 1, none⟩ = some (.int .i64 x2) := by rw [cell_of_row wr _ 1 _ _ _ hbx]; rfl
    have e2 : wr.cell? ⟨w3.heap.size, 2, none⟩ = some (.string x3) := by rw [cell_of_row wr _ 2 _ _ _ hbx]; rfl
    have e3 : wr.cell? ⟨w3.heap.size, 3, none⟩ = some (.slice ra k rc) := by rw [cell_of_row wr _ 3 _ _ _ hbx]; rfl
    have ef : ∀ j, wr.frozen? ⟨w3.heap.size, j, none⟩ = false := fun j => frozen_of_row wr _ j _ _ hbx
    have hrx := HL.out.1.res
    have r0 : wr.cell? ⟨w.heap.size, 0, none⟩ = some (.int .i64 0) := by rw [cell_of_row wr _ 0 _ _ _ hrx]; rfl
    have r1 : wr.cell? ⟨w.heap.size, 1, none⟩ = some (.int .i64 0) := by rw [cell_of_row wr _ 1 _ _ _ hrx]; rfl
    have r2 : wr.cell? ⟨w.heap.size, 2, none⟩ = some (.string ⟨#[]⟩) := by rw [cell_of_row wr _ 2 _ _ _ hrx]; rfl
    have r3 : wr.cell? ⟨w.heap.size, 3, none⟩ = some (.slice none 0 0) := by rw [cell_of_row wr _ 3 _ _ _ hrx]; rfl
    have rf : ∀ j, wr.frozen? ⟨w.heap.size, j, none⟩ = false := fun j => frozen_of_row wr _ j _ _ hrx
    clear hbx hrx
    by_cases hlt : k < n
    · have hkl : (k : Int) < (n : Int) := by omega
      by_cases hbk : sk.bad = true
      · obtain ⟨p', hp0, hpc⟩ := HL.out.1.rd.failedP hbk
        have hneg : decide (p' < 0) = false := by simp only [decide_eq_false_iff_not]; omega
        have HBK := Lib.hid hbk
        clear hbk
        go_wp2_with fail
        obtain ⟨s1, s2, s3'⟩ := set4 HL.out.1.res (.int .i64 x1) (.int .i64 x2) (.string x3) (.slice ra k rc)
        refine bodyPost_ret (results_cell_row rfl _ _ w.heap.size 25 _ (0, 0) _ rfl s1 Tryd.underlying25 rfl (by kernel_rfl)) rfl ?_
        exact HL.out.1.done HK.out.2.2.2.1 (Or.inl HBK.out) (fun hbs => HK.out.2.2.1 (HL.out.2 hbs)) rfl rfl rfl rfl
      · have hbk : sk.bad = false := by simpa using hbk
        obtain ⟨l, mm, qk, u1, u2, u3, u4, u5⟩ : ∃ l mm qk, sk = { s with pos := qk } ∧ mk = ((mm : Nat) : Int) ∧ pList one k (m + 1) q0 = .ok ((l, mm), qk) ∧ l.length = k ∧ FoRow wr (MidD w3.heap.size wr (.slice ra k rc)) (foOfC l) xs := by
          rcases HL.out.1.state with ⟨u, _⟩ | u
          · rw [hbk] at u; cases u
          · exact u
        have hmm : mm ≤ 200 := pList_le s.data f (depth + 1) k (m + 1) q0 l mm qk HIH.out.2.2 (by rw [← HK.out.2.2.2.2]; exact u3)
        have hrd := HL.out.1.rd
        rw [u2] at hrd
        have hcall := HIH.out.1 wr rb a cap sk mm hrd hbk hmm
        obtain ⟨rd0, rd1, rd2, rd3, rdf⟩ := hrd.good hbk
        have hdw : IntKind.i64.wrap ((depth : Int) + 1) = ((depth + 1 : Nat) : Int) := by rw [IntKind.wrap_i64]; omega
        have hnd : pNode sk.data f (depth + 1) mm sk.pos = one mm qk := by rw [HK.out.2.2.2.2, u1]
        rw [hnd] at hcall
        obtain ⟨d2, hd2⟩ : ∃ d2 : Nat, d2 = depth + 1 := ⟨_, rfl⟩
        have hd4 : (depth : Int) + 1 = (d2 : Int) := by omega
        have hd5 : (d2 : Int) ≤ 41 := by omega
        rw [← hd2] at hcall
        have HS := Lib.hid (And.intro hcall (And.intro hbk (And.intro u1 (And.intro u3 (And.intro u4 u5)))))
        clear hcall u1 u2 u3 u4 u5 hnd hdw hd2 hrd hmm hbk
        have hsz := HL.out.1.low
        have hst := HL.out.1.tch.size
        have hxbl := lt_of_heap HL.out.1.box
        have HZ := Lib.hid (And.intro hsz (And.intro hst hxbl))
        clear hsz hst hxbl
        go_wp2_with (first
          | (go_at_call 46; refine HS.out.1.mono ?_; rintro e w5 ⟨yi, yk, yt, ya, yl, yc, m5, rfl, h1, t1, v1⟩
             have hx5 : w5.heap[w3.heap.size]? = some (.cells #[.int .i64 x1, .int .i64 x2, .string x3, .slice ra k rc] 25 (0, 0)) := (t1.block _ HZ.out.2.2 (by have := HZ.out.1; omega)).trans HL.out.1.box
             have b3 : (w5.alloc (.cells #[.int .i64 yi, .int .i64 yk, .string yt, .slice ya yl yc] 25)).cell? ⟨w3.heap.size, 3, none⟩ = some (.slice ra k rc) := (by rw [cell_of_row _ _ 3 _ _ _ ((Below.heap_alloc w5 _ _ (lt_of_heap hx5)).trans hx5)]; rfl)
             have hrow2 := owns_keep HL.out.1.row (fun g hg => t1.block g (owns_lt HL.out.1.row g hg) (fun e => by have h3 := (owns_bounds HL.out.1.row hg).1; have h4 := HZ.out.1; omega))
             have H2 := Lib.hid (And.intro h1 (And.intro t1 (And.intro v1 (And.intro hx5 hrow2)))); clear h1 t1 v1 hx5 hrow2)
          | (at_builtin; refine wpList_append_lies _ rfl (.tmp 77) (.tmp 79) _ rfl (w3.heap.size + 1) 25 i0 z0 4 56 Tryd.underlying23 HI.out.1 HI.out.2.1 HI.out.2.2.1 HI.out.2.2.2.1 HI.out.2.2.2.2 (by omega) (.slice ra k rc) k xs rfl (owns_keep H2.out.2.2.2.2 (fun g hg => (Below.heap_alloc _ _ g (by rw [World.size_alloc]; have := owns_lt H2.out.2.2.2.2 g hg; omega)).trans (Below.heap_alloc _ _ g (owns_lt H2.out.2.2.2.2 g hg)))) ⟨w5.heap.size + 1, 0, none⟩ 1 1 [.int .i64 yi, .int .i64 yk, .string yt, .slice ya yl yc] rfl rfl (World.news_of_block (cs := #[.int .i64 yi, .int .i64 yk, .string yt, .slice ya yl yc]) (t := 25) (fr := (0, 0)) (heap_alloc2_new w5 _ _)) (by simp [Value.oneCell']) (by omega) (by unfold maxLen; omega) (by omega) (by have := H2.out.2.1.size; have := HZ.out.2.2; simp; omega) (w5.heap.size + 1 + 1) (by simp) ?_; intro gg cap' w6 hown3 hgrow hat hlt3
             have hx6 : w6.heap[w3.heap.size]? = some (.cells #[.int .i64 x1, .int .i64 x2, .string x3, .slice ra k rc] 25 (0, 0)) := (hgrow.block _ (by have := lt_of_heap H2.out.2.2.2.1; rw [World.size_alloc, World.size_alloc]; omega) (fun e => by have := (owns_bounds HL.out.1.row e.symm).1; omega)).trans ((Below.heap_alloc _ _ _ (by have := lt_of_heap H2.out.2.2.2.1; rw [World.size_alloc]; omega)).trans ((Below.heap_alloc _ _ _ (lt_of_heap H2.out.2.2.2.1)).trans H2.out.2.2.2.1))
             have b6 : w6.cell? ⟨w3.heap.size, 3, none⟩ = some (.slice ra k rc) := (by rw [cell_of_row _ _ 3 _ _ _ hx6]; rfl)
             have bf : w6.frozen? ⟨w3.heap.size, 3, none⟩ = false := frozen_of_row w6 _ 3 _ _ hx6
             have H3 := Lib.hid (And.intro hown3 (And.intro hgrow hat)); clear hown3 hgrow hat hlt3 hx6))
        have h8 := DInv.next HL.out.1 HK.out.2.2.2.1 HK.out.2.1 hlt HS.out.2.2.1 HS.out.2.2.2.1 HS.out.2.2.2.2.1 HS.out.2.2.2.2.2 H2.out.1 H2.out.2.1 H2.out.2.2.1 H3.out.1 H3.out.2.1 H3.out.2.2
        go_roundg (gk - 1)
        case measure => omega
        case rel => exact ⟨k + 1, _, _, _, m5, by omega, by go_num, Lib.hid ⟨h8, fun _ => HL.out.2 HS.out.2.1⟩⟩
    · have hkk : k = n := by omega
      have hkl : ¬ (k : Int) < (n : Int) := by omega
      have HKK := Lib.hid hkk
      clear hkk
      go_wp2_with fail
      obtain ⟨s1, s2, s3'⟩ := set4 HL.out.1.res (.int .i64 x1) (.int .i64 x2) (.string x3) (.slice ra k rc)
      refine bodyPost_ret (results_cell_row rfl _ _ w.heap.size 25 _ (0, 0) _ rfl s1 Tryd.underlying25 rfl (by kernel_rfl)) rfl ?_
      exact HL.out.1.done HK.out.2.2.2.1 (Or.inr HKK.out) (fun hbs => HK.out.2.2.1 (HL.out.2 hbs)) rfl rfl rfl rfl
theorem dn_any : ∀ (f depth : Nat), 41 ≤ f + depth → f + depth ≤ 1000 → DnC f depth
  | 0, depth, h1, h2 => fun w rb a cap s m h hb hm => dNode_fails w rb a cap s m depth h hb hm (by omega) (Or.inl (by omega)) rfl
  | f + 1, depth, h1, h2 => fun w rb a cap s m h hb hm => by
    by_cases hd : 40 < depth ∨ 200 < m + 1
    · exact dNode_fails w rb a cap s m depth h hb hm (by omega) hd (by rw [pNode_succ, if_pos hd])
    · exact dNode_step f depth (dn_any f (depth + 1) (by omega) (by omega)) (by omega) w rb a cap s m h hb (by omega)
end Go.Proofs.YteccnekdmehloaaDoor
