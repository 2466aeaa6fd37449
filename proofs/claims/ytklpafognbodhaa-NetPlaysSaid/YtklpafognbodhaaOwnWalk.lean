/-
  What the closure of 'copied' does to a node: its row of kids is cloned, and those of its kids, as far as it goes. No condition but that there are at most a million nodes.
-/
import Derived.Test.YtklpafognbodhaaOwn
namespace Go.Proofs.Ytklpafognbodhaa
open Go.RowKit

theorem Try.infoP : (Try.prog.info? 88).map (fun i => (i.size, i.bytes, i.zero.map (fun z => z.cells.size))) = some (1, 8, some 1) := by kernel_rfl
theorem Fr.below {w w' : World} {wv : Value} {wb : Nat} {Z : Nat → Prop} (hb : Below w.heap.size w w') : Fr w wv w' wb Z :=
  ⟨hb.os, hb.tape, hb.output, hb.size, fun x hx _ _ => hb.block x hx.1, fun x hx ⟨cs, t, h⟩ => ⟨cs, t, (hb.block x hx.1).trans h⟩⟩
theorem own_drew {R : Nat → Prop} {w W w' : World} {wv : Value} {B wb : Nat} {p : Pn} {ps : List Pn} {e : Ending} (hb : Below w.heap.size w W) (hp : p.b < w.heap.size) (h : OwnC R B wb p ps W wv e w') : OwnC R B wb p ps w wv e w' := by
  obtain ⟨he, wv', qs, t1, t2, t3, t4, t5, t6⟩ := h
  have hf : Fr w wv W wb (fun x => x = p.b) := Fr.below hb
  exact ⟨he, wv', qs, (TK.below hb).trans t1, hf.trans (TK.below (R := R) hb) t2 (fun x hx => Or.inl hx), fun o ho => (t3 o ho).trans (World.cell?_of_block (hb.block _ hp)), t4, fun q hq => ⟨(t5 q hq).1, Nat.le_trans hb.size (t5 q hq).2⟩, t6⟩
theorem foSize_take : ∀ (j : Nat) (f : Fo), foSize (foTake j f) ≤ foSize f
  | 0, _ => by simp [foTake, foSize]
  | _ + 1, .nil => by simp [foTake]
  | j + 1, .node _ _ _ l r => by have := foSize_take j r; simp only [foTake, foSize]; omega
def OwnAt (R : Nat → Prop) (B wb fb d : Nat) : Prop := ∀ (w : World) (wv : Value) (p : Pn) (ps : List Pn), (∀ x, w.heap.size ≤ x → R x) → B ≤ w.heap.size → POk R w wv B p → WaitAt w wb B wv ps → FbAt w fb wb → psum ps + foSize p.f ≤ 1000000 →
  Calls Try.prog 50 #[pptr p, .int .i64 d, .pointer (some ⟨wb, 0, none⟩), .pointer (some ⟨fb, 0, none⟩)] w (OwnC R B wb p ps w wv)
theorem own_read {w : World} {X : Nat → Prop} {f : Fo} {ka : Option Addr} (h : FoAt w X f ka) : ∃ xs : List Value, xs.length = foLen f * 4 ∧ (∀ u ∈ xs, u.oneCell' = true) ∧ (∀ ad, ka = some ad → ∀ j u, xs[j]? = some u → w.cell? (ad.add j) = some u) ∧ (ka = none → foLen f = 0) := by
  cases f with
  | nil => exact ⟨[], rfl, fun _ h => by simp at h, fun _ _ _ _ h => by simp at h, fun _ => rfl⟩
  | node b0 o0 k l r =>
    obtain ⟨b, off, _, _, e, _⟩ := id h
    subst e
    obtain ⟨xs, h1, h2, h3⟩ := fo_cells h
    refine ⟨xs, h1, h2, fun ad he j u hj => ?_, fun e => by cases e⟩
    cases he
    rw [Addr.add_mid]
    exact h3 j u hj

set_option maxRecDepth 100000 in
set_option maxHeartbeats 4000000 in
theorem own_zero (R : Nat → Prop) (B wb fb : Nat) : OwnAt R B wb fb 0 := by
  intro w wv p ps hR hB hp hw hfb hsum
  obtain ⟨ka, cap, hcell, hfo⟩ := id hp.2.2.2
  obtain ⟨xs, x1, x2, x3, x4⟩ := own_read hfo
  have hfl := foLen_le p.f
  have hclone := clone_Nodes w ka (foLen p.f) cap xs x1 x2 (by omega) x3 x4
  obtain ⟨n, hn⟩ : ∃ n, n = foLen p.f := ⟨_, rfl⟩
  rw [← hn] at hcell x1 hclone
  have hstart := fun (w1 : World) (rv : Value) hb1 hown => own_start (w1 := w1) (rv := rv) hR hp hcell hn x1 x3 hw hfb hb1 hown
  have HS := Lib.hid (And.intro hclone hstart)
  have HP := Lib.hid (And.intro hp (And.intro hB (And.intro hsum (And.intro hn hR))))
  have hn6 : n ≤ 1000000 := by omega
  obtain ⟨pb, po, pf⟩ := p
  show Calls Try.prog 50 #[.pointer (some ⟨pb, po, none⟩), .int .i64 ((0 : Nat) : Int), .pointer (some ⟨wb, 0, none⟩), .pointer (some ⟨fb, 0, none⟩)] w (OwnC R B wb ⟨pb, po, pf⟩ ps w wv)
  obtain ⟨i0, z0, hi0, hz0, hz1, hz2, hz3⟩ := info_wide Try.infoP
  have HI := Lib.hid (And.intro hi0 (And.intro hz0 (And.intro hz1 (And.intro hz2 hz3))))
  clear hfo x1 x2 x3 x4 hfl hclone hstart hp hB hR hw hfb hsum hn hi0 hz0 hz1 hz2 hz3
  go_enter Try.func50, Try.ntmps50
  go_wp2_with (go_at_call 51; refine HS.out.1.mono ?_; rintro e w1 ⟨rv, rfl, hb1, hown⟩; obtain ⟨k1, f1, hcl⟩ := HS.out.2 w1 rv hb1 hown; obtain ⟨ra, rc, hrv, hrf⟩ := id hcl.form; rw [← HP.out.2.2.2.1] at hrv; subst hrv; have HC := Lib.hid hcl; have k2 := hcl.kids; have k3 := hcl.wait.1; clear hcl hb1 hown hcell)
  clear k1 f1 k3 k2 hrf
  have hC := HC.out
  try simp only at hC
  generalize hW2 : World.setCell _ _ _ = W2 at hC ⊢
  clear hW2 HC HS
  have HC := Lib.hid hC
  clear hC
  go_loopw [20] (fun vi wr => ∃ (j : Nat) (wvr : Value) (qs : List Pn), j ≤ n ∧ vi = .int .i64 j ∧ Hid (OwnInv R w W2 wv B wb ⟨pb, po, pf⟩ ps (.slice ra n rc) j wr wvr qs)) (fun vi _ => n - (intOf vi).toNat)
  case atStart => exact ⟨0, wv, [], by omega, rfl, Lib.hid (OwnInv.start HC.out)⟩
  case round =>
    obtain ⟨j, wvr, qs, hj, rfl, hh⟩ := hrel
    obtain ⟨q1, qf, q0, f0, hk⟩ := own_facts HP.out.1 HP.out.2.1 HC.out hh.out
    try simp only at q1 hk
    by_cases hlt : j < n
    · obtain ⟨g, c, l, b0, o0, key, r, e1, hd, hq, hg⟩ := hk (by have := HP.out.2.2.2.1; (try simp only at this); omega)
      rw [← HP.out.2.2.2.1] at e1
      cases e1
      have hji : (j : Int) < (n : Int) := by omega
      have HK := Lib.hid (And.intro hd (And.intro hq hg))
      have HFB := Lib.hid qf
      clear hk hd hq hg qf
      have hlen : (ps ++ qs).length ≤ 1000000 := by
        have h1 := psum_length (ps ++ qs)
        rw [psum_append] at h1
        have h2 : psum qs ≤ foSize pf := by
          have h3 := hh.out.2.2.2.2
          have h4 := foSize_take j pf
          try simp only at h3
          omega
        have h3 := HP.out.2.2.1
        try simp only at h3
        omega
      obtain ⟨wa, wc, hwv⟩ := owns_slice hh.out.2.2.1.2
      have hwvl : Hid (wvr.ownBlock ≠ some wb) := Lib.hid (owned_ne hh.out.2.2.1.2 hh.out.2.2.1.1 (by decide))
      have hwl : Hid (wb < wr.heap.size) := Lib.hid (lt_of_some hh.out.2.2.1.1)
      have hown : Hid (wr.ownsRow B 88 1 wvr (ps ++ qs).length ((ps ++ qs).map pptr)) := Lib.hid hh.out.2.2.1.2
      have hBr : Hid (B ≤ wr.heap.size) := Lib.hid (by have h1 := hh.out.2.1.size; have h2 := HC.out.fr.size; have h3 := HP.out.2.1; omega)
      obtain ⟨m, hm⟩ : ∃ m, m = (ps ++ qs).length := ⟨_, rfl⟩
      rw [← hm] at hlen hown hwv
      have HM := Lib.hid hm
      subst hwv
      clear hm
      have hwl2 : wb < wr.heap.size := hwl.out
      have hpl2 : pb < wr.heap.size := World.block_lt_of_cell? wr _ q1
      go_wp2_with fail
      go_region_law (first
        | (refine step_append_lies _ (by rfl) _ _ _ (by rfl) B 88 i0 z0 1 8 Try.underlying86 HI.out.1 HI.out.2.1 HI.out.2.2.1 HI.out.2.2.2.1 HI.out.2.2.2.2 (by omega) (.slice wa m wc) m ((ps ++ qs).map pptr) (by rfl) (hown.out.alloc _) ⟨wr.heap.size, 0, none⟩ 1 1 [.pointer (some ⟨g, j * 4, none⟩)] (by rfl) (by rfl) (cell_one_new _ _ _) (by simp [Value.oneCell']) (by omega) (by unfold maxLen; omega) (by omega) (by have := hBr.out; simp; omega) (wr.heap.size + 1) (by simp) ?_; intro gg cap' w4 hown4 hgrow hat hlt4; have c1w := (hgrow.cell_far (a := ⟨wb, 0, none⟩) (by have := hwl.out; simp; omega) (Ne.symm hwvl.out)).trans ((World.cell?_of_block (Below.heap_alloc wr _ wb hwl.out)).trans q0); have f1w := (hgrow.frozen_far (a := ⟨wb, 0, none⟩) (by have := hwl.out; simp; omega) (Ne.symm hwvl.out)).trans ((World.frozen?_of_block (Below.heap_alloc wr _ wb hwl.out)).trans f0)))
      all_goals (
        have hgrow2 : (wr.alloc (.cells #[.pointer (some ⟨g, j * 4, none⟩)] 88)).grownBy w4 (Value.slice wa m wc).ownBlock := ⟨hgrow.os, hgrow.tape, hgrow.output, hgrow.size, hgrow.block⟩
        have hat2 : (Value.slice wa m wc).ownBlock = (Value.slice (some ⟨gg, 0, none⟩) (m + 1) cap').ownBlock ∨ (Value.slice (some ⟨gg, 0, none⟩) (m + 1) cap').ownBlock = some (wr.heap.size + 1) := hat.imp id (fun h => by rw [h]; rfl)
        have hown5 : w4.ownsRow B 88 1 (Value.slice (some ⟨gg, 0, none⟩) (m + 1) cap') ((ps ++ qs).length + 1) ((ps ++ qs).map pptr ++ [pptr ⟨g, j * 4, l⟩]) := by rw [← HM.out]; exact hown4
        have hfin := Lib.hid (own_next_wait hh.out (by have := HP.out.2.2.2.1; (try simp only at this ⊢); omega) HK.out.1 HK.out.2.1 HK.out.2.2 hown5 hgrow2 hat2)
        clear hgrow2 hat2 hown5 hgrow hat hown4
        go_wp2_with fail
        obtain ⟨qs', hq'⟩ := hfin.out
        exact ⟨⟨j + 1, _, qs', by omega, by go_num, Lib.hid hq'⟩, by simp [intOf]; omega⟩)
    · have hji : ¬ (j : Int) < (n : Int) := by omega
      have HE := Lib.hid (own_end HP.out.1 HC.out (by have := HP.out.2.2.2.1; (try simp only at this ⊢); omega) hh.out)
      clear hh hk qf q0 f0
      go_wp2_with fail
      go_end0
      exact HE.out

set_option maxRecDepth 100000 in
set_option maxHeartbeats 4000000 in
theorem own_succ (R : Nat → Prop) (B wb fb d : Nat) (hd100 : d ≤ 1000) (ih : OwnAt R B wb fb d) : OwnAt R B wb fb (d + 1) := by
  intro w wv p ps hR hB hp hw hfb hsum
  obtain ⟨ka, cap, hcell, hfo⟩ := id hp.2.2.2
  obtain ⟨xs, x1, x2, x3, x4⟩ := own_read hfo
  have hfl := foLen_le p.f
  have hclone := clone_Nodes w ka (foLen p.f) cap xs x1 x2 (by omega) x3 x4
  obtain ⟨n, hn⟩ : ∃ n, n = foLen p.f := ⟨_, rfl⟩
  rw [← hn] at hcell x1 hclone
  have hstart := fun (w1 : World) (rv : Value) hb1 hown => own_start (w1 := w1) (rv := rv) hR hp hcell hn x1 x3 hw hfb hb1 hown
  have HS := Lib.hid (And.intro hclone hstart)
  have HP := Lib.hid (And.intro hp (And.intro hB (And.intro hsum (And.intro hn hR))))
  have hn6 : n ≤ 1000000 := by omega
  obtain ⟨pb, po, pf⟩ := p
  show Calls Try.prog 50 #[.pointer (some ⟨pb, po, none⟩), .int .i64 (((d + 1) : Nat) : Int), .pointer (some ⟨wb, 0, none⟩), .pointer (some ⟨fb, 0, none⟩)] w (OwnC R B wb ⟨pb, po, pf⟩ ps w wv)
  obtain ⟨i0, z0, hi0, hz0, hz1, hz2, hz3⟩ := info_wide Try.infoP
  have HI := Lib.hid (And.intro hi0 (And.intro hz0 (And.intro hz1 (And.intro hz2 hz3))))
  clear hfo x1 x2 x3 x4 hfl hclone hstart hp hB hR hw hfb hsum hn hi0 hz0 hz1 hz2 hz3
  obtain ⟨D, hD⟩ : ∃ D : Int, D = (((d + 1 : Nat)) : Int) := ⟨_, rfl⟩
  rw [← hD]
  have hD0 : ¬ D = 0 := by omega
  have hDb : (D == 0) = false := by simpa using hD0
  have hD1 : D - 1 = (d : Int) := by omega
  have hDl : D ≤ 1001 := by omega
  have hDg : 0 ≤ D := by omega
  clear hD
  go_enter Try.func50, Try.ntmps50
  go_wp2_with (go_at_call 51; refine HS.out.1.mono ?_; rintro e w1 ⟨rv, rfl, hb1, hown⟩; obtain ⟨k1, f1, hcl⟩ := HS.out.2 w1 rv hb1 hown; obtain ⟨ra, rc, hrv, hrf⟩ := id hcl.form; rw [← HP.out.2.2.2.1] at hrv; subst hrv; have HC := Lib.hid hcl; have k2 := hcl.kids; have k3 := hcl.wait.1; clear hcl hb1 hown hcell)
  clear k1 f1 k3 k2 hrf
  have hC := HC.out
  try simp only at hC
  generalize hW2 : World.setCell _ _ _ = W2 at hC ⊢
  clear hW2 HC HS
  have HC := Lib.hid hC
  clear hC
  go_loopw [20] (fun vi wr => ∃ (j : Nat) (wvr : Value) (qs : List Pn), j ≤ n ∧ vi = .int .i64 j ∧ Hid (OwnInv R w W2 wv B wb ⟨pb, po, pf⟩ ps (.slice ra n rc) j wr wvr qs)) (fun vi _ => n - (intOf vi).toNat)
  case atStart => exact ⟨0, wv, [], by omega, rfl, Lib.hid (OwnInv.start HC.out)⟩
  case round =>
    obtain ⟨j, wvr, qs, hj, rfl, hh⟩ := hrel
    obtain ⟨q1, qf, q0, f0, hk⟩ := own_facts HP.out.1 HP.out.2.1 HC.out hh.out
    try simp only at q1 hk
    by_cases hlt : j < n
    · obtain ⟨g, c, l, b0, o0, key, r, e1, hd, hq, hg⟩ := hk (by have := HP.out.2.2.2.1; (try simp only at this); omega)
      rw [← HP.out.2.2.2.1] at e1
      cases e1
      have hji : (j : Int) < (n : Int) := by omega
      have HK := Lib.hid (And.intro hd (And.intro hq hg))
      have HFB := Lib.hid qf
      clear hk hd hq hg qf
      have hlen : (ps ++ qs).length ≤ 1000000 := by
        have h1 := psum_length (ps ++ qs)
        rw [psum_append] at h1
        have h2 : psum qs ≤ foSize pf := by
          have h3 := hh.out.2.2.2.2
          have h4 := foSize_take j pf
          try simp only at h3
          omega
        have h3 := HP.out.2.2.1
        try simp only at h3
        omega
      have hWb : Below wr.heap.size wr wr.drew := below_drewN (Below.refl _ _) 1
      obtain ⟨W, hW⟩ : ∃ W, W = wr.drew := ⟨_, rfl⟩
      rw [← hW] at hWb
      have hWt : TK R wr wvr W wvr := TK.below hWb
      have hWf : Fr wr wvr W wb (fun _ => False) := Fr.below hWb
      have hpw : pb < wr.heap.size := World.block_lt_of_cell? wr _ q1
      have cW1 : W.cell? ⟨pb, po + 3, none⟩ = some (.slice (some ⟨g, 0, none⟩) n rc) := (World.cell?_of_block (hWb.block _ hpw)).trans q1
      have hfW : FbAt W fb wb := (hWb.block _ (lt_of_some HFB.out)).trans HFB.out
      have cW2 : W.cell? ⟨fb, 0, none⟩ = some (.func (.func 50) #[] #[.pointer (some ⟨wb, 0, none⟩), .pointer (some ⟨fb, 0, none⟩)]) := by rw [cell_of_row _ _ 0 _ _ _ hfW]; rfl
      have hwW : WaitAt W wb B wvr (ps ++ qs) := ⟨(hWb.block _ (lt_of_some hh.out.2.2.1.1)).trans hh.out.2.2.1.1, owns_kept hh.out.2.2.1.2 (fun g cur hg _ => hWb.block g (lt_of_some hg))⟩
      have hcall := ih W wvr ⟨g, j * 4, l⟩ (ps ++ qs) (fun x hx => HP.out.2.2.2.2 x (by have h1 := hh.out.2.1.size; have h2 := HC.out.fr.size; have h4 := hWb.size; omega)) (by have h1 := hh.out.2.1.size; have h2 := HC.out.fr.size; have h3 := HP.out.2.1; have h4 := hWb.size; omega) (HK.out.2.1.keep hWt hWf) hwW hfW (by
        rw [psum_append]
        have h3 := hh.out.2.2.2.2
        have h4 := foTake_next (j := j) (f := pf) (by have := HP.out.2.2.2.1; (try simp only at this); omega) HK.out.1
        have h5 := foSize_take (j + 1) pf
        have h6 := HP.out.2.2.1
        (try simp only at h3 h6 ⊢)
        omega)
      have hnx := fun (e : Ending) (w' : World) (ho : OwnC R B wb ⟨g, j * 4, l⟩ (ps ++ qs) W wvr e w') => own_next_kid hh.out (by have h1 := hh.out.2.1.size; have h2 := HC.out.fr.size; omega) rfl (by have := HP.out.2.2.2.1; (try simp only at this ⊢); omega) HK.out.1 (own_drew hWb (HK.out.2.1.2.1).1 ho)
      have HX : Hid (Calls Try.prog 50 #[.pointer (some ⟨g, j * 4, none⟩), .int .i64 d, .pointer (some ⟨wb, 0, none⟩), .pointer (some ⟨fb, 0, none⟩)] W (OwnC R B wb ⟨g, j * 4, l⟩ (ps ++ qs) W wvr)) := Lib.hid hcall
      have HN := Lib.hid hnx
      have HW := Lib.hid hW
      clear hWb hWt hWf hfW hwW hcall hnx hh hlen q0 f0 HFB hW
      go_wp2_with fail
      have hdr : ({ heap := wr.heap, tape := wr.tape, drawn := wr.drawn + 1, os := wr.os, output := wr.output } : World) = W := HW.out.symm
      refine wp_region_still_tail 9 (by kernel_rfl) (by kernel_rfl) ?_
      simp only [List.take_succ_cons, List.take_zero, List.drop_succ_cons, List.drop_zero]
      rw [hdr]
      clear hdr
      repeat still_step
      try refine wpStill_nil ?_
      go_wp2_with (go_at_call 50; refine HX.out.mono ?_; rintro e w5 ho; obtain rfl := (ho.1); have HO := Lib.hid (HN.out _ _ ho); clear ho)
      obtain ⟨wv', qs', hq'⟩ := HO.out
      exact ⟨⟨j + 1, wv', qs', by omega, by go_num, Lib.hid hq'⟩, by simp [intOf]; omega⟩
    · have hji : ¬ (j : Int) < (n : Int) := by omega
      have HE := Lib.hid (own_end HP.out.1 HC.out (by have := HP.out.2.2.2.1; (try simp only at this ⊢); omega) hh.out)
      clear hh hk qf q0 f0
      go_wp2_with fail
      go_end0
      exact HE.out

theorem own_any (R : Nat → Prop) (B wb fb : Nat) : ∀ d, d ≤ 1000 → OwnAt R B wb fb d
  | 0, _ => own_zero R B wb fb
  | d + 1, h => own_succ R B wb fb d (by omega) (own_any R B wb fb d (by omega))

end Go.Proofs.Ytklpafognbodhaa
