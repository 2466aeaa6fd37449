/-
  .
-/
import Derived.Deep.Cut
import Derived.Deep.LoopGhost
import Derived.Deep.AppendLies
import Derived.Laws.MakeOwn
import Derived.Test.YtonapijgfalpaaaGreatJInvsQw
import Derived.Test.YtonapijgfalpaaaGreatIInv4Qw
import Derived.Test.YtonapijgfalpaaaGreatJPgQw
set_option maxRecDepth 100000
set_option maxHeartbeats 40000000
set_option linter.unusedVariables false
set_option linter.unusedSimpArgs false
namespace Go.Proofs.YtonapijgfalpaaaGreat
open Go.RowKit Go.Shelf
def zgn (W : World) (a : Option Addr) (bs : List Sf) : Prop := ∀ (k : Nat) (s : Sf), bs[k]? = some s → ∃ b off va vc, a = some ⟨b, off, none⟩ ∧ b < W.heap.size ∧ (∀ (j : Nat) (u : Value), (yo s va vc)[j]? = some u → W.cell? ⟨b, off + k * 9 + j, none⟩ = some u) ∧ zU W s.sub.kids va vc
def za3 (W4 : World) (rv : List Sf) (ra : Option Addr) (rc k : Nat) (wr : World) : Prop := Below W4.heap.size W4 wr ∧ ∃ ysr, wr.ownsRow W4.heap.size 49 9 (.slice ra k rc) k ysr ∧ jh wr (fun q => W4.heap.size ≤ q) (rv.take k) ysr
theorem za3.zha {W4 : World} {rv : List Sf} {ra : Option Addr} {rc k : Nat} {wr : World} (h : za3 W4 rv ra rc k wr) (hk : k = rv.length) : zgn wr ra rv := by
 obtain ⟨_, ysr, h1, h2⟩ := h
 intro j s hs
 rw [hk, List.take_length] at h2
 have hj := (List.getElem?_eq_some_iff.1 hs).1
 obtain ⟨a, c, h3, h4⟩ := jh.nth j s h2 hs
 obtain ⟨g, cap, e, _⟩ := h1.form (by omega)
 cases e
 refine ⟨g, 0, a, c, rfl, (zq h1 rfl).2, fun i u hu => ?_, h4.i⟩
 rw [Nat.zero_add]
 exact zy h1 rfl _ _ (h3 i u hu)
def zgI (w : World) (t : Tr) (l : List Sf) (e : Ending) (W : World) : Prop := ∃ ra rc n bs, e = .returned (.tuple #[.slice ra bs.length rc, .int .i64 n]) ∧ Below w.heap.size w W ∧ zgn W ra bs ∧ ((n = 0 ∧ qd l = true ∧ (∃ x, goA t l = some x) ∧ bs = (qy t l).reverse) ∨ (n ≠ 0 ∧ bs = [] ∧ (qd l = true → goA t l = none)))
theorem zaT (W : World) : zgn W none [] := fun k s h => by simp at h
theorem zbm (w : World) (t : Tr) (ta la : Option Addr) (tn tc n c : Nat) (vs : List SV) (htn : tn = zb t.kids) (ht : zU w t.kids ta tc) (hw : Way t) (hn : n = vs.length) (h : Row w la vs) (hI : ∀ x ∈ vs, QR x.s) :
 Calls Tryz.prog 19 #[.agg #[.int .i64 t.id, .int .i64 t.kind, .string t.text, .slice ta tn tc], .slice la n c] w (zgI w t (steps vs)) := by
 obtain ⟨B, hB⟩ : ∃ B, B = w.alloc (.cells #[.int .i64 t.id, .int .i64 t.kind, .string t.text, .slice ta tn tc] 37) := ⟨_, rfl⟩
 have BW := hH (show Below w.heap.size w B by rw [hB]; exact zh _ _)
 have EN := hH (show B.heap[w.heap.size]? = some (.cells #[.int .i64 t.id, .int .i64 t.kind, .string t.text, .slice ta tn tc] 37 (0, 0)) by rw [hB]; exact heap_alloc_new _ _)
 have hck := Jn B la n c vs hn (h.on BW.out)
 obtain ⟨m, hm⟩ : ∃ m, m = qf (steps vs) := ⟨_, rfl⟩
 rw [← hm] at hck
 have HCK := hH hck
 have HM := hH hm
 have HT := hH (aN htn (aN ht (aN hw (aN hn h))))
 have HBE := hH hB
 have HI0 := hH hI
 clear hck hm htn ht hw hn h hB hI
 go_enter Tryz.func19, Tryz.ntmps19
 go_wp2_with fail
 change Calls _ _ _ (w.alloc (.cells #[.int .i64 t.id, .int .i64 t.kind, .string t.text, .slice ta tn tc] 37)) _
 rw [← HBE.out]
 clear HBE
 refine HCK.out.mono ?_
 rintro e W1 ⟨rfl, hb1⟩
 replace EN := hH ((hb1.block _ (lt_of_heap EN.out)).trans EN.out)
 replace BW := hH (BW.out.trans (hb1.mono BW.out.size))
 clear hb1 HCK
 by_cases hm0 : m = 0
 · have ho : qd (steps vs) = true := by
    have := HM.out
    rw [hm0, qf] at this
    by_cases h : qd (steps vs) = true
    · exact h
    · rw [if_neg h] at this; cases this
   have HO := hH ho
   have hiv := zdH W1 t ta la tn tc n c vs HT.out.1 (HT.out.2.1.on BW.out) HT.out.2.2.1 HT.out.2.2.2.1 (HT.out.2.2.2.2.on BW.out) HI0.out ho
   have HIV := hH hiv
   obtain ⟨n0, n1, n2, n3⟩ := zJ EN.out
   subst hm0
   clear ho hiv
   go_wp2_with fail
   refine HIV.out.mono ?_
   rintro e W4 ⟨xa, xm, xc, nn, rfl, hb4, G, hr⟩
   have BW4 := hH (BW.out.trans (hb4.mono BW.out.size))
   clear n0 n1 n2 n3 hb4 HIV
   by_cases hn0 : nn = 0
   · obtain ⟨_, hx, ys, hxm, hbk⟩ := hr.resolve_right (fun h1 => h1.1 hn0)
     subst hn0
     obtain ⟨bs, hbs⟩ : ∃ bs, bs = qy t (steps vs) := ⟨_, rfl⟩
     rw [← hbs] at hxm hbk
     have hlen : bs.length = n := by rw [hbs, kT, zD, HT.out.2.2.2.1]
     have hm60 : xm ≤ 60 := by
      have := (qB _).1 HO.out
      rw [zD] at this
      rw [hxm, hlen, HT.out.2.2.2.1]; omega
     have HBK := hH hbk
     have HX := hH (aN hx (aN hbs (aN hxm hlen)))
     obtain ⟨i1, z1, hi1, hy0, hy1, hy2, hy3⟩ := yC Tryz.Yx
     have HI1 := hH (aN hi1 (aN hy0 (aN hy1 (aN hy2 hy3))))
     obtain ⟨W5, hmk, hro, hgr⟩ := run_makeSlice_owned (P := Tryz.prog) (w := W4) W4.heap.size 22 49 i1 z1 9 Tryz.underlying22 hi1 hy0 hy1 .i64 .i64 xm (by omega) (by rw [hy2]; omega) (by unfold maxLen; omega) (Nat.le_refl _)
     have hb5 : Below W4.heap.size W4 W5 := (Below.refl _ _).grown hgr (Nat.le_refl _) (fun k hk => by cases hk)
     have HTI : Hid (za3 W4 bs.reverse (some ⟨W4.heap.size, 0, none⟩) xm 0 W5) := hH ⟨hb5, [], hro, by rw [List.take_zero]; rfl⟩
     have hmw : IntKind.i64.wrap ((xm : Int) - 1) = (xm : Int) - 1 := IntWalk.i64_in _ (by omega)
     clear hro hgr hb5 hi1 hy0 hy1 hy2 hy3 hx hbs hxm hbk hlen
     go_wp2_with fail
     go_loopg [9, 10] xm (fun gk tv iv wr => ∃ (ra : Option Addr) (rc k : Nat), gk + k = xm ∧ iv = .int .i64 ((gk : Int) - 1) ∧ tv = .slice ra k rc ∧ Hid (za3 W4 bs.reverse ra rc k wr))
     case atStart => exact ⟨_, _, 0, by omega, rfl, rfl, HTI⟩
     case round =>
      obtain ⟨ra, rc, k, hk, rfl, rfl, hh⟩ := hrel
      clear HTI
      obtain ⟨wo, hwo⟩ : ∃ wo, wo = wr := ⟨_, rfl⟩
      subst hwo
      rcases Nat.eq_zero_or_pos gk with hg0 | hg0
      · subst hg0
        have hkx : k = xm := by omega
        have HZ : Hid (zgI w t (steps vs) (.returned (.tuple #[.slice ra k rc, .int .i64 0])) wo) := hH (by
         have hl : k = bs.reverse.length := by rw [List.length_reverse, hkx]; exact HX.out.2.2.1
         refine ⟨ra, rc, 0, bs.reverse, by rw [← hl], BW4.out.trans (hh.out.1.mono BW4.out.size), hh.out.zha hl, .inl ⟨rfl, HO.out, HX.out.1, by rw [HX.out.2.1]⟩⟩)
        clear hkx hk hh
        go_wp2_with fail
        go_ret2
        exact HZ.out
      · obtain ⟨j, hj⟩ : ∃ j, gk = j + 1 := ⟨gk - 1, by omega⟩
        subst hj
        have hji : (((j + 1 : Nat) : Int) - 1) = (j : Int) := by omega
        rw [hji]
        obtain ⟨b, hb⟩ : ∃ b, bs[j]? = some b := ⟨_, List.getElem?_eq_getElem (by have := HX.out.2.2.1; omega)⟩
        have hbk := HBK.out.on hh.out.1
        obtain ⟨va, vc, h1, h2⟩ := jh.nth j b hbk.lies hb
        obtain ⟨xg, xc2, e, _⟩ := hbk.row.form (by have := HX.out.2.2.1; omega)
        cases e
        obtain ⟨bn, hbn⟩ : ∃ bn, bn = zb b.sub.kids := ⟨_, rfl⟩
        have hcl := fun i u hu => zy hbk.row rfl _ _ (h1 i u hu)
        have m0 : wo.cell? ⟨xg, j * 9, none⟩ = some (.int .i8 b.op) := hcl 0 _ rfl
        have m1 : wo.cell? ⟨xg, j * 9 + 1, none⟩ = some (.int .i64 b.id) := hcl 1 _ rfl
        have m2 : wo.cell? ⟨xg, j * 9 + 2, none⟩ = some (.int .i64 b.par) := hcl 2 _ rfl
        have m3 : wo.cell? ⟨xg, j * 9 + 3, none⟩ = some (.int .i64 b.at_) := hcl 3 _ rfl
        have m4 : wo.cell? ⟨xg, j * 9 + 4, none⟩ = some (.string b.tx) := hcl 4 _ rfl
        have m5 : wo.cell? ⟨xg, j * 9 + 5, none⟩ = some (.int .i64 b.sub.id) := hcl 5 _ rfl
        have m6 : wo.cell? ⟨xg, j * 9 + 6, none⟩ = some (.int .i64 b.sub.kind) := hcl 6 _ rfl
        have m7 : wo.cell? ⟨xg, j * 9 + 7, none⟩ = some (.string b.sub.text) := hcl 7 _ rfl
        have m8 : wo.cell? ⟨xg, j * 9 + 8, none⟩ = some (.slice va bn vc) := by rw [hbn]; exact hcl 8 _ rfl
        obtain ⟨va2, vc2, q1, q2⟩ := jh.nth j b HBK.out.lies hb
        have hq8 : va2 = va ∧ vc2 = vc := by
         have e1 := q1 8 _ rfl
         have e2 := h1 8 _ rfl
         rw [e1] at e2
         simp only [Option.some.injEq, Value.slice.injEq] at e2
         exact ⟨e2.1, e2.2.2⟩
        obtain ⟨rfl, rfl⟩ := hq8
        have hsub : zK wo (fun q => W4.heap.size ≤ q) b.sub.kids va2 vc2 := ⟨q2.1, q2.2.kept fun q hq => ⟨⟨nL hq.1 hh.out.1.size, by have := hq.1; omega⟩, hh.out.1.block q hq.1⟩⟩
        obtain ⟨hbw, ysr, hro, hbr⟩ := hh.out
        have HRO := hH (aN hro (aN hbr (aN hbw (aN hsub hbn))))
        have HJ := hH (aN hk (aN hb hm60))
        have hk60 : k ≤ 60 := by omega
        have hjm : (j : Int) < (xm : Int) := by omega
        have hj0 : (0 : Int) ≤ (j : Int) := by omega
        have hjw : IntKind.i64.wrap ((j : Int) - 1) = (j : Int) - 1 := IntWalk.i64_in _ (by omega)
        clear hro hbr hbw hsub hbn hcl h1 h2 q1 q2 hbk hh hb hk hg0 hji
        go_wp2_with (at_builtin; refine wpList_append_lies _ rfl (.tmp 35) (.tmp 40) _ rfl W4.heap.size 49 i1 z1 9 104 Tryz.underlying22 HI1.out.1 HI1.out.2.1 HI1.out.2.2.1 HI1.out.2.2.2.1 HI1.out.2.2.2.2 (by omega) (.slice ra k rc) k ysr rfl (HRO.out.1.alloc _) ⟨wo.heap.size, 0, none⟩ 1 1 [.int .i8 b.op, .int .i64 b.id, .int .i64 b.par, .int .i64 b.at_, .string b.tx, .int .i64 b.sub.id, .int .i64 b.sub.kind, .string b.sub.text, .slice va2 bn vc2] rfl rfl (World.news_of_block (cs := #[.int .i8 b.op, .int .i64 b.id, .int .i64 b.par, .int .i64 b.at_, .string b.tx, .int .i64 b.sub.id, .int .i64 b.sub.kind, .string b.sub.text, .slice va2 bn vc2]) (t := 49) (fr := (0, 0)) (heap_alloc_new wo _)) (by simp [Value.oneCell']) (by omega) (by unfold maxLen; omega) (by omega) (by have := HRO.out.2.2.1.size; simp; omega) (wo.heap.size + 1) (by simp) ?_; intro g1 c1 W7 hown7 hgrow7 hat7 hlt7; have H7 := hH (aN hown7 hgrow7); clear hown7 hgrow7 hat7 hlt7)
        have hnew : za3 W4 bs.reverse (some ⟨g1, 0, none⟩) c1 (k + 1) W7 := by
         obtain ⟨hro, hbr, hbw, hsub, hbn⟩ := HRO.out
         have hb7 : Below W4.heap.size W4 W7 := (hbw.trans ((zh wo _).mono hbw.size)).grown H7.out.2 (by have := hbw.size; rw [World.size_alloc]; omega) (fun q hq => (zq hro hq).1)
         have hmv : ∀ f a c, zK wo (fun q => W4.heap.size ≤ q) f a c → zK W7 (fun q => W4.heap.size ≤ q) f a c := fun f a c hl => ⟨hl.1, hl.2.kept fun q hq => ⟨⟨by have := hb7.size; have := hq.2; omega, hq.2⟩, (hb7.block q (by have := hq.2; omega)).trans (hbw.block q (by have := hq.2; omega)).symm⟩⟩
         have hel : bs.reverse[k]? = some b := by
          rw [List.getElem?_reverse (by have := HX.out.2.2.1; have := HJ.out.1; omega), show bs.length - 1 - k = j by have := HX.out.2.2.1; have := HJ.out.1; omega]
          exact HJ.out.2.1
         refine ⟨hb7, _, H7.out.1, ?_⟩
         rw [List.take_add_one, hel, hbn]
         exact jh.snoc (hmv _ _ _ hsub) (hbr.kept hmv)
        have HN := hH hnew
        clear hnew
        go_wp2_with fail
        go_roundg j
        case measure => omega
        case rel => exact ⟨some ⟨g1, 0, none⟩, c1, k + 1, by have := HJ.out.1; omega, rfl, rfl, HN⟩
   · have h2 := hr.resolve_left (fun h1 => hn0 h1.1)
     have HR := hH h2
     have hnb : (nn != 0) = true := by simpa using hn0
     clear hr h2 hn0
     go_wp2_with fail
     go_ret2
     exact ⟨none, 0, nn, [], rfl, BW4.out, zaT _, .inr ⟨HR.out.1, rfl, fun _ => HR.out.2⟩⟩
 · have hmb : (m != 0) = true := by simpa using hm0
   have HR := hH (aN hm0 (show qd (steps vs) = true → goA t (steps vs) = none from fun h => absurd (by rw [HM.out, qf, if_pos h]) hm0))
   clear hm0
   go_wp2_with fail
   go_ret2
   exact ⟨none, 0, m, [], rfl, BW.out, zaT _, .inr ⟨HR.out.1, rfl, HR.out.2⟩⟩
def wkG : Gr := ⟨[⟨⟨#[108, 105, 115, 116]⟩, false, [⟨[1], 0, 3⟩]⟩, ⟨⟨#[97]⟩, true, []⟩], 0⟩
def wkT : Tr := ⟨1, 0, ⟨#[]⟩, .node 0 0 (2, 1, ⟨#[]⟩) .nil .nil⟩
def wkS (op : Int) (tx : ByteArray) : SV := ⟨⟨op, 2, 0, 0, tx, zA⟩, none, 0⟩
theorem zgK : apK wkG wkT (steps [wkS 2 ⟨#[]⟩, wkS 4 ⟨#[]⟩]) = (wkT, 1, 4) := by kernel_rfl
theorem zgu : (qy wkT (steps [wkS 4 ⟨#[97]⟩])).reverse = [⟨4, 2, 0, 0, ⟨#[]⟩, zA⟩] := by kernel_rfl
theorem zgv : (goA wkT (steps [wkS 4 ⟨#[97]⟩])).isSome = true := by kernel_rfl
theorem zgP : qd (steps [wkS 4 ⟨#[97]⟩]) = true := by kernel_rfl
theorem zfS : wkG.few := by
 refine ⟨by decide, fun k hk => ?_⟩
 simp only [wkG, List.mem_cons, List.not_mem_nil, or_false] at hk
 rcases hk with rfl | rfl
 · exact ⟨by decide, by decide, fun s hs => by simp only [List.mem_cons, List.not_mem_nil, or_false] at hs; subst hs; unfold Sl.few; decide⟩
 · exact ⟨by decide, by decide, fun s hs => by simp at hs⟩
theorem zf9 : okF (spF 1 (zm wkT)) := by
 intro x hx
 have : x.2.1 = (1, 0, ⟨#[]⟩) ∨ x.2.1 = (2, 1, ⟨#[]⟩) := by
  simp [spF, zm, wkT] at hx
  rcases hx with rfl | rfl
  · exact Or.inl rfl
  · exact Or.inr rfl
 rcases this with e | e <;> rw [e] <;> exact ⟨by decide, by decide⟩
theorem zep : okF (spF 1 (zm zA)) := by
 intro x hx
 simp [spF, zm, zA] at hx
 subst hx
 exact ⟨by decide, by decide⟩
theorem zdZ : Way wkT := ⟨by decide, zf9⟩
theorem JE (op : Int) (tx : ByteArray) (h : (Lit.int .i8 op).wf = true) (h2 : (tx.size : Int) ≤ 9223372036854775807) : yA (wkS op tx).s := ⟨h, (by decide : ze zA.kids + 1 ≤ 250), zep, h2⟩
theorem zgG (w : World) (S Sx : Nat → Prop) (nv sv : Value) (t : Tr) (s : Sf) (h4 : s.op = 4) (hS : ∀ y, S y → y < w.heap.size) (hSx : ∀ y, Sx y → y < w.heap.size) (ht : zL w S nv t) (hs : zfj w Sx sv s) (hsz : ze t.kids + 1 ≤ 2000) (hok : ∀ i ∈ idT t, (Lit.int .i64 i).wf = true) (ho : zdV s) :
 Calls Tryz.prog 66 #[nv, sv] w (zeZ w (fun y => S y ∨ Sx y) (s.on t).2 (s.inv t)) := by
 obtain ⟨ka, kc, rfl, h1, h2⟩ := hs
 have hx : zL w Sx (.agg #[.int .i64 s.sub.id, .int .i64 s.sub.kind, .string s.sub.text, .slice ka (zb s.sub.kids) kc]) s.sub := ⟨ka, kc, rfl, h1, h2⟩
 have hid := ho.ids
 have hop := ho.op
 have hxz := ho.size
 unfold Sf.inv Sf.on
 obtain ⟨op, id, par, at_, tx, x⟩ := s
 simp only at *
 subst h4
 by_cases h0 : (yS 4 id par at_ tx x t).2 = 0
 · rw [if_pos h0, h0]
   exact zeF w S Sx nv t x id par at_ tx ka _ kc hS hSx ht hx hsz hxz hok hid h0
 · rw [if_neg h0]
   exact zbE w S Sx nv t x 4 id par at_ tx ka _ kc hS hSx ht hx hsz hxz hop hok hid h0 Jv
theorem zgd : QR (wkS 4 ⟨#[97]⟩).s := ⟨Jv, fun E X0 X1 X t ta sa tc sc hE h0 h1 b0 b1 hz hok => by
 refine (zgG X _ _ _ _ t (wkS 4 ⟨#[97]⟩).s rfl (fun y hy => nL hy.1 b0.size) (fun y hy => nL hy.1 b1.size) (h0.at b0) ⟨sa, sc, rfl, h1.1, h1.2.kept fun q hq => ⟨hq, b1.block q hq.1⟩⟩ hz hok (zeB (JE 4 _ (by decide) (by decide)))).mono ?_
 rintro e W ⟨v, rfl, ⟨va, vc, rfl, hc, hf⟩, hb⟩
 refine ⟨va, vc, rfl, ⟨hc, hf.kept fun q hq => ⟨⟨hq.2, fun he => ?_⟩, rfl⟩⟩, hb⟩
 rcases hq.1 with (h | h) | h
 · exact h.2 he
 · exact h.2 he
 · have := hE q he; omega⟩
theorem ze0 {w : World} {l : List SV} {b : Nat} {cs : Array Value} (hb : w.heap[b]? = some (.cells cs 49 (0, 0))) (hl : ∀ x ∈ l, yA x.s ∧ x.s.sub = zA ∧ x.a = none ∧ x.c = 0) (hn : l.length ≤ 2) (hc : ∀ (k : Nat) (x : SV), l[k]? = some x → ∀ (j : Nat) (u : Value), (yo x.s x.a x.c)[j]? = some u → cs[k * 9 + j]? = some u) : Row w (some ⟨b, 0, none⟩) l :=
 ⟨fun k x hx => ⟨b, 0, rfl, lt_of_heap hb, fun j u hj => by rw [cell_of_row _ _ _ _ _ _ hb, Nat.zero_add]; exact hc k x hx j u hj⟩, fun x hx => by obtain ⟨_, h1, h2, h3⟩ := hl x hx; unfold qE zU; rw [h1, h2, h3]; exact ⟨Nat.le_refl _, True.intro⟩, fun x hx => (hl x hx).1, by omega⟩
theorem jQ (w : World) : Calls Tryz.prog 6 #[] w fun e w' => e = .returned (.bool true) ∧ Below w.heap.size w w' := by
 obtain ⟨X, hX⟩ : ∃ X, X = zo w [.cells #[.int .i64 1] 3, .cells #[.slice (some ⟨w.heap.size, 0, none⟩) 1 1, .int .i64 0, .int .i64 3] 55, .cells #[.string ⟨#[108, 105, 115, 116]⟩, .bool false, .slice (some ⟨w.heap.size + 1, 0, none⟩) 1 1, .string ⟨#[97]⟩, .bool true, .slice none 0 0] 58, .cells #[.slice (some ⟨w.heap.size + 1 + 1, 0, none⟩) 2 2, .int .i64 0] 34, .cells #[.int .i64 2, .int .i64 1, .string ⟨#[]⟩, .slice none 0 0] 37, .cells #[.int .i64 1, .int .i64 0, .string ⟨#[]⟩, .slice (some ⟨w.heap.size + 1 + 1 + 1 + 1, 0, none⟩) 1 1] 37, .cells #[.int .i8 2, .int .i64 2, .int .i64 0, .int .i64 0, .string ⟨#[]⟩, .int .i64 0, .int .i64 0, .string ⟨#[]⟩, .slice none 0 0, .int .i8 4, .int .i64 2, .int .i64 0, .int .i64 0, .string ⟨#[]⟩, .int .i64 0, .int .i64 0, .string ⟨#[]⟩, .slice none 0 0] 49] := ⟨_, rfl⟩
 have BW := hH (show Below w.heap.size w X by rw [hX]; exact zk _ _)
 have e0 : X.heap[w.heap.size]? = some (.cells #[.int .i64 1] 3 (0, 0)) := by rw [hX]; exact zg _ _ 0 _ rfl
 have e1 : X.heap[w.heap.size + 1]? = some (.cells #[.slice (some ⟨w.heap.size, 0, none⟩) 1 1, .int .i64 0, .int .i64 3] 55 (0, 0)) := by rw [hX]; exact zg _ _ 1 _ rfl
 have e2 : X.heap[w.heap.size + 2]? = some (.cells #[.string ⟨#[108, 105, 115, 116]⟩, .bool false, .slice (some ⟨w.heap.size + 1, 0, none⟩) 1 1, .string ⟨#[97]⟩, .bool true, .slice none 0 0] 58 (0, 0)) := by rw [hX]; exact zg _ _ 2 _ rfl
 have e3 : X.heap[w.heap.size + 3]? = some (.cells #[.slice (some ⟨w.heap.size + 1 + 1, 0, none⟩) 2 2, .int .i64 0] 34 (0, 0)) := by rw [hX]; exact zg _ _ 3 _ rfl
 have e4 : X.heap[w.heap.size + 4]? = some (.cells #[.int .i64 2, .int .i64 1, .string ⟨#[]⟩, .slice none 0 0] 37 (0, 0)) := by rw [hX]; exact zg _ _ 4 _ rfl
 have e5 : X.heap[w.heap.size + 5]? = some (.cells #[.int .i64 1, .int .i64 0, .string ⟨#[]⟩, .slice (some ⟨w.heap.size + 1 + 1 + 1 + 1, 0, none⟩) 1 1] 37 (0, 0)) := by rw [hX]; exact zg _ _ 5 _ rfl
 have e6 : X.heap[w.heap.size + 6]? = some (.cells #[.int .i8 2, .int .i64 2, .int .i64 0, .int .i64 0, .string ⟨#[]⟩, .int .i64 0, .int .i64 0, .string ⟨#[]⟩, .slice none 0 0, .int .i8 4, .int .i64 2, .int .i64 0, .int .i64 0, .string ⟨#[]⟩, .int .i64 0, .int .i64 0, .string ⟨#[]⟩, .slice none 0 0] 49 (0, 0)) := by rw [hX]; exact zg _ _ 6 _ rfl
 have hG : GrV X (.agg #[.slice (some ⟨w.heap.size + 2, 0, none⟩) 2 2, .int .i64 0]) wkG := ⟨some ⟨w.heap.size + 2, 0, none⟩, 2, rfl, fun _ => ⟨_, 0, rfl, lt_of_heap e2, fun k x hx => by
  match k, hx with
  | 0, hx =>
    simp [wkG] at hx; subst hx
    refine ⟨some ⟨w.heap.size + 1, 0, none⟩, 1, by rw [cell_of_row _ _ 0 _ _ _ e2]; rfl, by rw [cell_of_row _ _ 1 _ _ _ e2]; rfl, by rw [cell_of_row _ _ 2 _ _ _ e2]; rfl, fun _ => ⟨_, 0, rfl, lt_of_heap e1, fun k x hx => ?_⟩⟩
    match k, hx with
    | 0, hx =>
      simp at hx; subst hx
      exact ⟨some ⟨w.heap.size, 0, none⟩, 1, by rw [cell_of_row _ _ 0 _ _ _ e1]; rfl, by rw [cell_of_row _ _ 1 _ _ _ e1]; rfl, by rw [cell_of_row _ _ 2 _ _ _ e1]; rfl, fun _ => ⟨_, 0, rfl, lt_of_heap e0, fun k x hx => by
       match k, hx with
       | 0, hx => simp at hx; subst hx; rw [cell_of_row _ _ 0 _ _ _ e0]; rfl⟩⟩
  | 1, hx =>
    simp [wkG] at hx; subst hx
    exact ⟨none, 0, by rw [cell_of_row _ _ 3 _ _ _ e2]; rfl, by rw [cell_of_row _ _ 4 _ _ _ e2]; rfl, by rw [cell_of_row _ _ 5 _ _ _ e2]; rfl, fun h => by simp at h⟩⟩⟩
 have hT : zU X wkT.kids (some ⟨w.heap.size + 4, 0, none⟩) 1 := ⟨Nat.le_refl _, _, 0, none, 0, rfl, lt_of_heap e4, by rw [cell_of_row _ _ 0 _ _ _ e4]; rfl, by rw [cell_of_row _ _ 1 _ _ _ e4]; rfl, by rw [cell_of_row _ _ 2 _ _ _ e4]; rfl, by rw [cell_of_row _ _ 3 _ _ _ e4]; rfl, Nat.le_refl _, True.intro, True.intro⟩
 have hR : Row X (some ⟨w.heap.size + 6, 0, none⟩) [wkS 2 ⟨#[]⟩, wkS 4 ⟨#[]⟩] := by
  refine ze0 e6 (fun x hx => ?_) (by decide) (fun k x hx j u hj => ?_)
  · simp only [List.mem_cons, List.not_mem_nil, or_false] at hx
    rcases hx with rfl | rfl
    · exact ⟨JE 2 _ (by decide) (by decide), rfl, rfl, rfl⟩
    · exact ⟨JE 4 _ (by decide) (by decide), rfl, rfl, rfl⟩
  · match k, hx with
    | 0, hx =>
      simp at hx; subst hx
      match j, hj with
      | 0, hj | 1, hj | 2, hj | 3, hj | 4, hj | 5, hj | 6, hj | 7, hj | 8, hj => simpa [yo, wkS, zA, zb] using hj
      | j + 9, hj => simp [yo] at hj
    | 1, hx =>
      simp at hx; subst hx
      match j, hj with
      | 0, hj | 1, hj | 2, hj | 3, hj | 4, hj | 5, hj | 6, hj | 7, hj | 8, hj => simpa [yo, wkS, zA, zb] using hj
      | j + 9, hj => simp [yo] at hj
 have hap := zdh X wkG wkT (some ⟨w.heap.size + 2, 0, none⟩) (some ⟨w.heap.size + 4, 0, none⟩) (some ⟨w.heap.size + 6, 0, none⟩) 2 2 1 1 2 2 [wkS 2 ⟨#[]⟩, wkS 4 ⟨#[]⟩] rfl (fun Y hY => hG.below hY) zfS rfl hT zdZ rfl hR (fun x hx => by simp only [List.mem_cons, List.not_mem_nil, or_false] at hx; rcases hx with rfl | rfl; exact zgl; exact Jv)
 rw [zgK] at hap
 have HAP := hH hap
 have HX := hH hX
 have HT := hH hT
 have EN := hH e5
 have EG := hH e3
 clear hap hT hR hG e0 e1 e2 e3 e4 e5 e6 hX
 go_enter Tryz.func6, Tryz.ntmps6
 go_wp2_with fail
 change Calls _ _ _ (zo w [.cells #[.int .i64 1] 3, .cells #[.slice (some ⟨w.heap.size, 0, none⟩) 1 1, .int .i64 0, .int .i64 3] 55, .cells #[.string ⟨#[108, 105, 115, 116]⟩, .bool false, .slice (some ⟨w.heap.size + 1, 0, none⟩) 1 1, .string ⟨#[97]⟩, .bool true, .slice none 0 0] 58, .cells #[.slice (some ⟨w.heap.size + 1 + 1, 0, none⟩) 2 2, .int .i64 0] 34, .cells #[.int .i64 2, .int .i64 1, .string ⟨#[]⟩, .slice none 0 0] 37, .cells #[.int .i64 1, .int .i64 0, .string ⟨#[]⟩, .slice (some ⟨w.heap.size + 1 + 1 + 1 + 1, 0, none⟩) 1 1] 37, .cells #[.int .i8 2, .int .i64 2, .int .i64 0, .int .i64 0, .string ⟨#[]⟩, .int .i64 0, .int .i64 0, .string ⟨#[]⟩, .slice none 0 0, .int .i8 4, .int .i64 2, .int .i64 0, .int .i64 0, .string ⟨#[]⟩, .int .i64 0, .int .i64 0, .string ⟨#[]⟩, .slice none 0 0] 49]) _
 rw [← HX.out]
 clear HX
 refine HAP.out.mono ?_
 rintro e W1 ⟨va, vc, rfl, hl1, hb1⟩
 obtain ⟨U, hU⟩ : ∃ U, U = W1.alloc (.cells #[.int .i64 1, .int .i64 0, .string ⟨#[]⟩, .slice va 1 vc] 37) := ⟨_, rfl⟩
 have hbU : Below W1.heap.size W1 U := by rw [hU]; exact zh _ _
 have EU := hH (show U.heap[W1.heap.size]? = some (.cells #[.int .i64 1, .int .i64 0, .string ⟨#[]⟩, .slice va 1 vc] 37 (0, 0)) by rw [hU]; exact heap_alloc_new _ _)
 have hbb := hb1.trans (hbU.mono hb1.size)
 replace EN := hH ((hbb.block _ (lt_of_heap EN.out)).trans EN.out)
 replace HT := hH (HT.out.on hbb)
 replace BW := hH (BW.out.trans (hbb.mono BW.out.size))
 have HU := hH hU
 obtain ⟨xb, hxb⟩ : ∃ xb, xb = W1.heap.size := ⟨_, rfl⟩
 clear hU hbU hbb hb1 hl1 HAP
 go_upto_region 4 with fail
 change Code.wp _ _ _ _ (W1.alloc (.cells #[.int .i64 1, .int .i64 0, .string ⟨#[]⟩, .slice va 1 vc] 37))
 rw [← HU.out, ← hxb]
 rw [← hxb] at EU
 clear hxb HU
 obtain ⟨n0, n1, n2, n3⟩ := zJ EN.out
 obtain ⟨V, hV⟩ : ∃ V, V = U.alloc (.cells #[.int .i8 4, .int .i64 2, .int .i64 0, .int .i64 0, .string ⟨#[97]⟩, .int .i64 0, .int .i64 0, .string ⟨#[]⟩, .slice none 0 0] 49) := ⟨_, rfl⟩
 have hbV : Below U.heap.size U V := by rw [hV]; exact zh _ _
 have hnV : V.heap[U.heap.size]? = some (.cells #[.int .i8 4, .int .i64 2, .int .i64 0, .int .i64 0, .string ⟨#[97]⟩, .int .i64 0, .int .i64 0, .string ⟨#[]⟩, .slice none 0 0] 49 (0, 0)) := by rw [hV]; exact heap_alloc_new _ _
 have hR2 : Row V (some ⟨U.heap.size, 0, none⟩) [wkS 4 ⟨#[97]⟩] := by
  refine ze0 hnV (fun x hx => ?_) (by decide) (fun k x hx j u hj => ?_)
  · simp only [List.mem_cons, List.not_mem_nil, or_false] at hx
    subst hx
    exact ⟨JE 4 _ (by decide) (by decide), rfl, rfl, rfl⟩
  · match k, hx with
    | 0, hx =>
      simp at hx; subst hx
      match j, hj with
      | 0, hj | 1, hj | 2, hj | 3, hj | 4, hj | 5, hj | 6, hj | 7, hj | 8, hj => simpa [yo, wkS, zA, zb] using hj
      | j + 9, hj => simp [yo] at hj
 have hiv := zbm V wkT (some ⟨w.heap.size + 4, 0, none⟩) (some ⟨U.heap.size, 0, none⟩) 1 1 1 1 [wkS 4 ⟨#[97]⟩] rfl (HT.out.on hbV) zdZ rfl hR2 (fun x hx => by simp only [List.mem_cons, List.not_mem_nil, or_false] at hx; subst hx; exact zgd)
 have HIV := hH (aN hiv (aN hV hbV))
 clear hiv hR2 hnV hbV hV
 go_wp2_with fail
 change Calls _ _ _ (U.alloc (.cells #[.int .i8 4, .int .i64 2, .int .i64 0, .int .i64 0, .string ⟨#[97]⟩, .int .i64 0, .int .i64 0, .string ⟨#[]⟩, .slice none 0 0] 49)) _
 rw [← HIV.out.2.1]
 refine HIV.out.1.mono ?_
 rintro e W2 ⟨ra, rc, nn, bs, rfl, hb2, hrl, hcase⟩
 have hok2 : nn = 0 ∧ bs = [⟨4, 2, 0, 0, ⟨#[]⟩, zA⟩] := by
  rcases hcase with ⟨h1, _, _, h2⟩ | ⟨_, _, h⟩
  · exact ⟨h1, by rw [h2]; exact zgu⟩
  · have := h zgP
    have h3 := zgv
    rw [this] at h3
    cases h3
 obtain ⟨rfl, rfl⟩ := hok2
 obtain ⟨rb, ro, sa, sc, rfl, _, hcs, _⟩ := hrl 0 _ rfl
 have hbb := HIV.out.2.2.trans (hb2.mono HIV.out.2.2.size)
 have BW2 := hH (BW.out.trans (hbb.mono BW.out.size))
 have EU2 := (hbb.block _ (lt_of_heap EU.out)).trans EU.out
 obtain ⟨u0, u1, u2, u3⟩ := zJ EU2
 have p0 : W2.cell? ⟨rb, ro, none⟩ = some (.int .i8 4) := by have := hcs 0 _ rfl; simpa using this
 have p4 : W2.cell? ⟨rb, ro + 4, none⟩ = some (.string ⟨#[]⟩) := by have := hcs 4 _ rfl; simpa using this
 clear hbb EU2 hrl hcase hcs hb2 n0 n1 n2 n3 HIV
 simp only [List.length_singleton]
 go_wp2_with fail
 go_ret
 exact ⟨rfl, BW2.out⟩
end Go.Proofs.YtonapijgfalpaaaGreat
