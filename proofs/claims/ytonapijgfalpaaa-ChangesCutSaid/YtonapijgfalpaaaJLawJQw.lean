/-
  .
-/
import Derived.Deep.Cut
import Derived.Deep.LoopGhost
import Derived.Deep.AppendLies
import Derived.Laws.MakeOwn
import Derived.Test.YtonapijgfalpaaaJInvsQw
import Derived.Test.YtonapijgfalpaaaKPlacePQw
import Derived.Test.YtonapijgfalpaaaJRowQw
import Derived.Test.YtonapijgfalpaaaEDownQw
import Derived.Test.YtonapijgfalpaaaVManyQw
set_option linter.unusedVariables false
set_option linter.unusedSimpArgs false
namespace Go.Proofs.Ytonapijgfalpaaa
open Go.RowKit Go.Shelf
def RowL (W : World) (a : Option Addr) (bs : List Sf) : Prop := ∀ (k : Nat) (s : Sf), bs[k]? = some s → ∃ b off va vc, a = some ⟨b, off, none⟩ ∧ b < W.heap.size ∧ (∀ (j : Nat) (u : Value), (stepC s va vc)[j]? = some u → W.cell? ⟨b, off + k * 9 + j, none⟩ = some u) ∧ LiesI W s.sub.kids va vc
def TurnI (W4 : World) (rv : List Sf) (ra : Option Addr) (rc k : Nat) (wr : World) : Prop := Below W4.heap.size W4 wr ∧ ∃ ysr, wr.ownsRow W4.heap.size 47 9 (.slice ra k rc) k ysr ∧ BRow wr (fun q => W4.heap.size ≤ q) (rv.take k) ysr
theorem TurnI.rowL {W4 : World} {rv : List Sf} {ra : Option Addr} {rc k : Nat} {wr : World} (h : TurnI W4 rv ra rc k wr) (hk : k = rv.length) : RowL wr ra rv := by
 obtain ⟨_, ysr, h1, h2⟩ := h
 intro j s hs
 rw [hk, List.take_length] at h2
 have hj := (List.getElem?_eq_some_iff.1 hs).1
 obtain ⟨a, c, h3, h4⟩ := BRow.nth j s h2 hs
 obtain ⟨g, cap, e, _⟩ := h1.form (by omega)
 cases e
 refine ⟨g, 0, a, c, rfl, (owns_bounds h1 rfl).2, fun i u hu => ?_, h4.i⟩
 rw [Nat.zero_add]
 exact owns_cell h1 rfl _ _ (h3 i u hu)
def InvO (w : World) (t : Tr) (l : List Sf) (e : Ending) (W : World) : Prop := ∃ ra rc n bs, e = .returned (.tuple #[.slice ra bs.length rc, .int .i64 n]) ∧ Below w.heap.size w W ∧ RowL W ra bs ∧ ((n = 0 ∧ okSet l = true ∧ (∃ x, goA t l = some x) ∧ bs = (backsA t l).reverse) ∨ (n ≠ 0 ∧ bs = [] ∧ (okSet l = true → goA t l = none)))
theorem rowL_nil (W : World) : RowL W none [] := fun k s h => by simp at h
set_option maxRecDepth 100000 in
set_option maxHeartbeats 16000000 in
theorem Invert_any (w : World) (t : Tr) (ta la : Option Addr) (tn tc n c : Nat) (vs : List SV) (htn : tn = foLen t.kids) (ht : LiesI w t.kids ta tc) (hw : Way t) (hn : n = vs.length) (h : Row w la vs) (hI : ∀ x ∈ vs, InvFn x.s) :
 Calls Try.prog 127 #[.agg #[.int .i64 t.id, .int .i64 t.kind, .string t.text, .slice ta tn tc], .slice la n c] w (InvO w t (steps vs)) := by
 obtain ⟨B, hB⟩ : ∃ B, B = w.alloc (.cells #[.int .i64 t.id, .int .i64 t.kind, .string t.text, .slice ta tn tc] 24) := ⟨_, rfl⟩
 have BW := Lib.hid (show Below w.heap.size w B by rw [hB]; exact box_below _ _)
 have EN := Lib.hid (show B.heap[w.heap.size]? = some (.cells #[.int .i64 t.id, .int .i64 t.kind, .string t.text, .slice ta tn tc] 24 (0, 0)) by rw [hB]; exact heap_alloc_new _ _)
 have hck := Check_any B la n c vs hn (h.on BW.out)
 obtain ⟨m, hm⟩ : ∃ m, m = chkN (steps vs) := ⟨_, rfl⟩
 rw [← hm] at hck
 have HCK := Lib.hid hck
 have HM := Lib.hid hm
 have HT := Lib.hid (And.intro htn (And.intro ht (And.intro hw (And.intro hn h))))
 have HBE := Lib.hid hB
 have HI0 := Lib.hid hI
 clear hck hm htn ht hw hn h hB hI
 go_enter Try.func127, Try.ntmps127
 go_wp2_with fail
 change Calls _ _ _ (w.alloc (.cells #[.int .i64 t.id, .int .i64 t.kind, .string t.text, .slice ta tn tc] 24)) _
 rw [← HBE.out]
 clear HBE
 refine HCK.out.mono ?_
 rintro e W1 ⟨rfl, hb1⟩
 replace EN := Lib.hid ((hb1.block _ (lt_of_heap EN.out)).trans EN.out)
 replace BW := Lib.hid (BW.out.trans (hb1.mono BW.out.size))
 clear hb1 HCK
 by_cases hm0 : m = 0
 · have ho : okSet (steps vs) = true := by
    have := HM.out
    rw [hm0, chkN] at this
    by_cases h : okSet (steps vs) = true
    · exact h
    · rw [if_neg h] at this; cases this
   have HO := Lib.hid ho
   have hiv := invs_any W1 t ta la tn tc n c vs HT.out.1 (HT.out.2.1.on BW.out) HT.out.2.2.1 HT.out.2.2.2.1 (HT.out.2.2.2.2.on BW.out) HI0.out ho
   have HIV := Lib.hid hiv
   obtain ⟨n0, n1, n2, n3⟩ := box4 EN.out
   subst hm0
   clear ho hiv
   go_wp2_with fail
   refine HIV.out.mono ?_
   rintro e W4 ⟨xa, xm, xc, nn, rfl, hb4, G, hr⟩
   have BW4 := Lib.hid (BW.out.trans (hb4.mono BW.out.size))
   clear n0 n1 n2 n3 hb4 HIV
   by_cases hn0 : nn = 0
   · obtain ⟨_, hx, ys, hxm, hbk⟩ := hr.resolve_right (fun h1 => h1.1 hn0)
     subst hn0
     obtain ⟨bs, hbs⟩ : ∃ bs, bs = backsA t (steps vs) := ⟨_, rfl⟩
     rw [← hbs] at hxm hbk
     have hlen : bs.length = n := by rw [hbs, backsA_len, steps_len, HT.out.2.2.2.1]
     have hm60 : xm ≤ 60 := by
      have := (okSet_iff _).1 HO.out
      rw [steps_len] at this
      rw [hxm, hlen, HT.out.2.2.2.1]; omega
     have HBK := Lib.hid hbk
     have HX := Lib.hid (And.intro hx (And.intro hbs (And.intro hxm hlen)))
     obtain ⟨i1, z1, hi1, hy0, hy1, hy2, hy3⟩ := info_wide Try.infoStI
     have HI1 := Lib.hid (And.intro hi1 (And.intro hy0 (And.intro hy1 (And.intro hy2 hy3))))
     obtain ⟨W5, hmk, hro, hgr⟩ := run_makeSlice_owned (P := Try.prog) (w := W4) W4.heap.size 25 47 i1 z1 9 Try.underlying25 hi1 hy0 hy1 .i64 .i64 xm (by omega) (by rw [hy2]; omega) (by unfold maxLen; omega) (Nat.le_refl _)
     have hb5 : Below W4.heap.size W4 W5 := (Below.refl _ _).grown hgr (Nat.le_refl _) (fun k hk => by cases hk)
     have HTI : Hid (TurnI W4 bs.reverse (some ⟨W4.heap.size, 0, none⟩) xm 0 W5) := Lib.hid ⟨hb5, [], hro, by rw [List.take_zero]; rfl⟩
     have hmw : IntKind.i64.wrap ((xm : Int) - 1) = (xm : Int) - 1 := IntWalk.i64_in _ (by omega)
     clear hro hgr hb5 hi1 hy0 hy1 hy2 hy3 hx hbs hxm hbk hlen
     go_wp2_with fail
     go_loopg [9, 10] xm (fun gk tv iv wr => ∃ (ra : Option Addr) (rc k : Nat), gk + k = xm ∧ iv = .int .i64 ((gk : Int) - 1) ∧ tv = .slice ra k rc ∧ Hid (TurnI W4 bs.reverse ra rc k wr))
     case atStart => exact ⟨_, _, 0, by omega, rfl, rfl, HTI⟩
     case round =>
      obtain ⟨ra, rc, k, hk, rfl, rfl, hh⟩ := hrel
      clear HTI
      obtain ⟨wo, hwo⟩ : ∃ wo, wo = wr := ⟨_, rfl⟩
      subst hwo
      rcases Nat.eq_zero_or_pos gk with hg0 | hg0
      · subst hg0
        have hkx : k = xm := by omega
        have HZ : Hid (InvO w t (steps vs) (.returned (.tuple #[.slice ra k rc, .int .i64 0])) wo) := Lib.hid (by
         have hl : k = bs.reverse.length := by rw [List.length_reverse, hkx]; exact HX.out.2.2.1
         refine ⟨ra, rc, 0, bs.reverse, by rw [← hl], BW4.out.trans (hh.out.1.mono BW4.out.size), hh.out.rowL hl, .inl ⟨rfl, HO.out, HX.out.1, by rw [HX.out.2.1]⟩⟩)
        clear hkx hk hh
        go_wp2_with fail
        go_ret2
        exact HZ.out
      · obtain ⟨j, hj⟩ : ∃ j, gk = j + 1 := ⟨gk - 1, by omega⟩
        subst hj
        have hji : (((j + 1 : Nat) : Int) - 1) = (j : Int) := by omega
        rw [hji]
        obtain ⟨b, hb⟩ : ∃ b, bs[j]? = some b := ⟨_, List.getElem?_eq_getElem (by have := HX.out.2.2.1; omega)⟩
        have hbk := HBK.out.on hh.out.1
        obtain ⟨va, vc, h1, h2⟩ := BRow.nth j b hbk.lies hb
        obtain ⟨xg, xc2, e, _⟩ := hbk.row.form (by have := HX.out.2.2.1; omega)
        cases e
        obtain ⟨bn, hbn⟩ : ∃ bn, bn = foLen b.sub.kids := ⟨_, rfl⟩
        have hcl := fun i u hu => owns_cell hbk.row rfl _ _ (h1 i u hu)
        have m0 : wo.cell? ⟨xg, j * 9, none⟩ = some (.int .i8 b.op) := hcl 0 _ rfl
        have m1 : wo.cell? ⟨xg, j * 9 + 1, none⟩ = some (.int .i64 b.id) := hcl 1 _ rfl
        have m2 : wo.cell? ⟨xg, j * 9 + 2, none⟩ = some (.int .i64 b.par) := hcl 2 _ rfl
        have m3 : wo.cell? ⟨xg, j * 9 + 3, none⟩ = some (.int .i64 b.at_) := hcl 3 _ rfl
        have m4 : wo.cell? ⟨xg, j * 9 + 4, none⟩ = some (.string b.tx) := hcl 4 _ rfl
        have m5 : wo.cell? ⟨xg, j * 9 + 5, none⟩ = some (.int .i64 b.sub.id) := hcl 5 _ rfl
        have m6 : wo.cell? ⟨xg, j * 9 + 6, none⟩ = some (.int .i64 b.sub.kind) := hcl 6 _ rfl
        have m7 : wo.cell? ⟨xg, j * 9 + 7, none⟩ = some (.string b.sub.text) := hcl 7 _ rfl
        have m8 : wo.cell? ⟨xg, j * 9 + 8, none⟩ = some (.slice va bn vc) := by rw [hbn]; exact hcl 8 _ rfl
        obtain ⟨va2, vc2, q1, q2⟩ := BRow.nth j b HBK.out.lies hb
        have hq8 : va2 = va ∧ vc2 = vc := by
         have e1 := q1 8 _ rfl
         have e2 := h1 8 _ rfl
         rw [e1] at e2
         simp only [Option.some.injEq, Value.slice.injEq] at e2
         exact ⟨e2.1, e2.2.2⟩
        obtain ⟨rfl, rfl⟩ := hq8
        have hsub : LiesN wo (fun q => W4.heap.size ≤ q) b.sub.kids va2 vc2 := ⟨q2.1, q2.2.kept fun q hq => ⟨⟨Nat.lt_of_lt_of_le hq.1 hh.out.1.size, by have := hq.1; omega⟩, hh.out.1.block q hq.1⟩⟩
        obtain ⟨hbw, ysr, hro, hbr⟩ := hh.out
        have HRO := Lib.hid (And.intro hro (And.intro hbr (And.intro hbw (And.intro hsub hbn))))
        have HJ := Lib.hid (And.intro hk (And.intro hb hm60))
        have hk60 : k ≤ 60 := by omega
        have hjm : (j : Int) < (xm : Int) := by omega
        have hj0 : (0 : Int) ≤ (j : Int) := by omega
        have hjw : IntKind.i64.wrap ((j : Int) - 1) = (j : Int) - 1 := IntWalk.i64_in _ (by omega)
        clear hro hbr hbw hsub hbn hcl h1 h2 q1 q2 hbk hh hb hk hg0 hji
        go_wp2_with (at_builtin; refine wpList_append_lies _ rfl (.tmp 35) (.tmp 40) _ rfl W4.heap.size 47 i1 z1 9 104 Try.underlying25 HI1.out.1 HI1.out.2.1 HI1.out.2.2.1 HI1.out.2.2.2.1 HI1.out.2.2.2.2 (by omega) (.slice ra k rc) k ysr rfl (HRO.out.1.alloc _) ⟨wo.heap.size, 0, none⟩ 1 1 [.int .i8 b.op, .int .i64 b.id, .int .i64 b.par, .int .i64 b.at_, .string b.tx, .int .i64 b.sub.id, .int .i64 b.sub.kind, .string b.sub.text, .slice va2 bn vc2] rfl rfl (World.news_of_block (cs := #[.int .i8 b.op, .int .i64 b.id, .int .i64 b.par, .int .i64 b.at_, .string b.tx, .int .i64 b.sub.id, .int .i64 b.sub.kind, .string b.sub.text, .slice va2 bn vc2]) (t := 47) (fr := (0, 0)) (heap_alloc_new wo _)) (by simp [Value.oneCell']) (by omega) (by unfold maxLen; omega) (by omega) (by have := HRO.out.2.2.1.size; simp; omega) (wo.heap.size + 1) (by simp) ?_; intro g1 c1 W7 hown7 hgrow7 hat7 hlt7; have H7 := Lib.hid (And.intro hown7 hgrow7); clear hown7 hgrow7 hat7 hlt7)
        have hnew : TurnI W4 bs.reverse (some ⟨g1, 0, none⟩) c1 (k + 1) W7 := by
         obtain ⟨hro, hbr, hbw, hsub, hbn⟩ := HRO.out
         have hb7 : Below W4.heap.size W4 W7 := (hbw.trans ((box_below wo _).mono hbw.size)).grown H7.out.2 (by have := hbw.size; rw [World.size_alloc]; omega) (fun q hq => (owns_bounds hro hq).1)
         have hmv : ∀ f a c, LiesN wo (fun q => W4.heap.size ≤ q) f a c → LiesN W7 (fun q => W4.heap.size ≤ q) f a c := fun f a c hl => ⟨hl.1, hl.2.kept fun q hq => ⟨⟨by have := hb7.size; have := hq.2; omega, hq.2⟩, (hb7.block q (by have := hq.2; omega)).trans (hbw.block q (by have := hq.2; omega)).symm⟩⟩
         have hel : bs.reverse[k]? = some b := by
          rw [List.getElem?_reverse (by have := HX.out.2.2.1; have := HJ.out.1; omega), show bs.length - 1 - k = j by have := HX.out.2.2.1; have := HJ.out.1; omega]
          exact HJ.out.2.1
         refine ⟨hb7, _, H7.out.1, ?_⟩
         rw [List.take_add_one, hel, hbn]
         exact BRow.snoc (hmv _ _ _ hsub) (hbr.kept hmv)
        have HN := Lib.hid hnew
        clear hnew
        go_wp2_with fail
        go_roundg j
        case measure => omega
        case rel => exact ⟨some ⟨g1, 0, none⟩, c1, k + 1, by have := HJ.out.1; omega, rfl, rfl, HN⟩
   · have h2 := hr.resolve_left (fun h1 => hn0 h1.1)
     have HR := Lib.hid h2
     have hnb : (nn != 0) = true := by simpa using hn0
     clear hr h2 hn0
     go_wp2_with fail
     go_ret2
     exact ⟨none, 0, nn, [], rfl, BW4.out, rowL_nil _, .inr ⟨HR.out.1, rfl, fun _ => HR.out.2⟩⟩
 · have hmb : (m != 0) = true := by simpa using hm0
   have HR := Lib.hid (And.intro hm0 (show okSet (steps vs) = true → goA t (steps vs) = none from fun h => absurd (by rw [HM.out, chkN, if_pos h]) hm0))
   clear hm0
   go_wp2_with fail
   go_ret2
   exact ⟨none, 0, m, [], rfl, BW.out, rowL_nil _, .inr ⟨HR.out.1, rfl, HR.out.2⟩⟩
end Go.Proofs.Ytonapijgfalpaaa
namespace Go.Proofs.Ytonapijgfalpaaa
open Go.RowKit
structure StepIn (s : Sf) : Prop where
 op : (Lit.int .i8 s.op).wf = true
 len : foLen s.sub.kids ≤ 9223372036854775807
 fit : foFit s.sub.kids
 ok : okF (spF 1 (rootF s.sub))
 tx : (s.tx.size : Int) ≤ 9223372036854775807
structure RowC (w : World) (a : Option Addr) (vs : List SV) : Prop where
 cells : RowV w (fun q => q < w.heap.size) a vs
 lies : ∀ x ∈ vs, LiesS w x
 inn : ∀ x ∈ vs, StepIn x.s
theorem RowC.on {w X : World} {a : Option Addr} {vs : List SV} (h : RowC w a vs) (hb : Below w.heap.size w X) : RowC X a vs :=
 ⟨h.cells.kept fun y hy => ⟨Nat.lt_of_lt_of_le hy hb.size, hb.block y hy⟩, fun x hx => LiesI.on (h.lies x hx) hb, h.inn⟩
def SmallS (vs : List SV) : Prop := vs.length ≤ 70 ∧ ∀ x ∈ vs, foSize x.s.sub.kids + 1 ≤ 250
theorem RowC.row {w : World} {a : Option Addr} {vs : List SV} (h : RowC w a vs) (hs : SmallS vs) : Row w a vs :=
 ⟨h.cells, h.lies, fun x hx => ⟨(h.inn x hx).op, hs.2 x hx, (h.inn x hx).ok, (h.inn x hx).tx⟩, by have := hs.1; omega⟩
def GreatSC (w : World) (vs : List SV) (e : Ending) (w' : World) : Prop := ∃ b, e = .returned (.bool b) ∧ (b = false → SmallS vs) ∧ Below w.heap.size w w'
set_option maxRecDepth 100000 in
set_option maxHeartbeats 8000000 in
theorem greatSS_any (w : World) (la : Option Addr) (n c : Nat) (vs : List SV) (hn : n = vs.length) (h : RowC w la vs) :
 Calls Try.prog 18 #[.slice la n c] w (GreatSC w vs) := by
 have HR := Lib.hid h
 have HN := Lib.hid hn
 clear h hn
 go_enter Try.func18, Try.ntmps18
 by_cases h70 : 70 < n
 · have h70i : (70 : Int) < (n : Int) := by omega
   go_wp2_with fail
   go_ret
   exact ⟨true, rfl, (fun h => by cases h), Below.refl _ _⟩
 · have h70i : ¬ (70 : Int) < (n : Int) := by omega
   go_wp2_with fail
   go_loopg [3, 4, 11] n (fun gk n1 n2 i wr => ∃ (k : Nat) (p q : Int), gk + k = n ∧ i = .int .i64 (k : Int) ∧ n1 = .int .i64 p ∧ n2 = .int .i64 q ∧ 0 ≤ p ∧ p ≤ 300 ∧ 0 ≤ q ∧ q ≤ 20000 ∧ Hid (Below w.heap.size w wr ∧ ∀ j x, j < k → vs[j]? = some x → foSize x.s.sub.kids + 1 ≤ 250))
   case atStart => exact ⟨0, 0, 0, by omega, rfl, rfl, rfl, by omega, by omega, by omega, by omega, Lib.hid ⟨Below.refl _ _, fun j x h => by omega⟩⟩
   case round =>
    obtain ⟨k, p, q, hk, rfl, rfl, rfl, hp0, hp1, hq0, hq1, hh⟩ := hrel
    obtain ⟨wo, hwo⟩ : ∃ wo, wo = wr := ⟨_, rfl⟩
    subst hwo
    by_cases hkn : k < n
    · have hki : (k : Int) < (n : Int) := by omega
      obtain ⟨x, hx⟩ : ∃ x, vs[k]? = some x := ⟨_, List.getElem?_eq_getElem (by rw [← HN.out]; exact hkn)⟩
      have hxm := List.mem_of_getElem? hx
      obtain ⟨b, off, rfl, hbl, hcs⟩ := HR.out.cells k x hx
      obtain ⟨sn, hsn⟩ : ∃ sn, sn = foLen x.s.sub.kids := ⟨_, rfl⟩
      have hce : ∀ X, Below w.heap.size w X → X.cell? ⟨b, off + k * 9 + 4, none⟩ = some (.string x.s.tx) ∧ X.cell? ⟨b, off + k * 9 + 5, none⟩ = some (.int .i64 x.s.sub.id) ∧ X.cell? ⟨b, off + k * 9 + 6, none⟩ = some (.int .i64 x.s.sub.kind) ∧ X.cell? ⟨b, off + k * 9 + 7, none⟩ = some (.string x.s.sub.text) ∧ X.cell? ⟨b, off + k * 9 + 8, none⟩ = some (.slice x.a sn x.c) := fun X hX => by
       have h := fun j u hj => (World.cell?_of_block (a := ⟨b, off + k * 9 + j, none⟩) (hX.block b hbl)).trans (hcs j u hj)
       rw [hsn]
       exact ⟨h 4 _ rfl, h 5 _ rfl, h 6 _ rfl, h 7 _ rfl, h 8 _ rfl⟩
      have hin := HR.out.inn x hxm
      have htr : ∀ X, Below w.heap.size w X → TrAt X (fun y => y < w.heap.size) (.agg #[.int .i64 x.s.sub.id, .int .i64 x.s.sub.kind, .string x.s.sub.text, .slice x.a sn x.c]) x.s.sub := fun X hX => by rw [hsn]; exact (HR.out.lies x hxm).at hX
      have hgr : ∀ X, Below w.heap.size w X → Calls Try.prog 17 #[.agg #[.int .i64 x.s.sub.id, .int .i64 x.s.sub.kind, .string x.s.sub.text, .slice x.a sn x.c]] X (GreatC3 X x.s.sub) := fun X hX => great3_any X _ _ x.s.sub hin.len hin.fit (fun y hy => Nat.lt_of_lt_of_le hy hX.size) (htr X hX)
      have hwk : ∀ X, Below w.heap.size w X → Calls Try.prog 32 #[.agg #[.int .i64 x.s.sub.id, .int .i64 x.s.sub.kind, .string x.s.sub.text, .slice x.a sn x.c], .int .i64 251] X (WalkM X (fun y => y < w.heap.size) x.s.sub 251) := fun X hX => walkM_any 251 (by omega) X _ _ x.s.sub hin.len hin.fit (fun y hy => Nat.lt_of_lt_of_le hy hX.size) (htr X hX)
      have HG := Lib.hid (And.intro hgr hwk)
      have HCE := Lib.hid hce
      have HX := Lib.hid hx
      have HHB := Lib.hid hh.out.2
      have HBR := Lib.hid hh.out.1
      have HKN := Lib.hid (And.intro hk hkn)
      obtain ⟨c4, c5, c6, c7, c8⟩ := hce wo hh.out.1
      have HGR := Lib.hid (hgr wo hh.out.1)
      have htx := hin.tx
      clear hgr hwk hce hx hh hk hxm hcs hin htr hsn hbl
      go_wp2_with fail
      refine HGR.out.mono ?_
      rintro e w1 ⟨bg, rfl, hbg, hb1⟩
      have HB1 := Lib.hid (HBR.out.trans (hb1.mono HBR.out.size))
      have HBG := Lib.hid hbg
      clear c4 c5 c6 c7 c8 hb1 hbg HGR
      obtain ⟨c4, c5, c6, c7, c8⟩ := HCE.out w1 HB1.out
      have hqw : IntKind.i64.wrap (20000 - q) = 20000 - q := IntWalk.i64_in _ (by omega)
      cases bg
      · have HSZ := Lib.hid (HBG.out rfl)
        have HWK := Lib.hid (HG.out.2 w1 HB1.out)
        obtain ⟨tz, htz⟩ : ∃ tz : Nat, tz = x.s.tx.size := ⟨_, rfl⟩
        by_cases hbig : (20000 - q) < (x.s.tx.size : Int)
        · go_wp2_with fail
          go_ret
          exact ⟨true, rfl, (fun e => by cases e), HB1.out⟩
        · have hqw2 : IntKind.i64.wrap (q + (x.s.tx.size : Int)) = q + (x.s.tx.size : Int) := IntWalk.i64_in _ (by omega)
          have HQ2 := Lib.hid (show 0 ≤ q + (x.s.tx.size : Int) ∧ q + (x.s.tx.size : Int) ≤ 20000 by omega)
          clear htz
          go_wp2_with fail
          refine HWK.out.mono ?_
          rintro e w3 ⟨ya, yc, rfl, _, hb3⟩
          have HB3 := Lib.hid (HB1.out.trans (hb3.mono HB1.out.size))
          obtain ⟨ln, hln⟩ : ∃ ln, ln = ((spF 1 (rootF x.s.sub)).take 251).length := ⟨_, rfl⟩
          rw [← hln]
          have hn2 : ln ≤ 251 := by rw [hln, List.length_take]; omega
          clear hln hb3 c4 c5 c6 c7 c8 hbig hqw2 hqw
          have hpw : IntKind.i64.wrap (p + (ln : Int)) = p + (ln : Int) := IntWalk.i64_in _ (by omega)
          have HP2 := Lib.hid (show 0 ≤ p + (ln : Int) by omega)
          by_cases h300 : (300 : Int) < p + (ln : Int)
          · go_wp2_with fail
            go_ret
            exact ⟨true, rfl, (fun e => by cases e), HB3.out⟩
          · have HP3 := Lib.hid h300
            go_wp2_with fail
            go_roundg (gk - 1)
            case measure => have := HKN.out; omega
            case rel => exact ⟨k + 1, p + (ln : Int), q + (x.s.tx.size : Int), by have := HKN.out; omega, by go_num, rfl, rfl, HP2.out, by have := HP3.out; omega, HQ2.out.1, HQ2.out.2, Lib.hid ⟨HB3.out, fun j y hj hy => by
             rcases Nat.lt_or_ge j k with h | h
             · exact HHB.out j y h hy
             · have : j = k := by omega
               subst this
               rw [HX.out] at hy; cases hy; exact HSZ.out⟩⟩
      · go_wp2_with fail
        go_ret
        exact ⟨true, rfl, (fun e => by cases e), HB1.out⟩
    · have hki : ¬ (k : Int) < (n : Int) := by omega
      have HE := Lib.hid (show SmallS vs from ⟨by rw [← HN.out]; omega, fun x hx => by
       obtain ⟨j, hj, e⟩ := List.mem_iff_getElem.1 hx
       exact hh.out.2 j x (by have := HN.out; omega) (by rw [List.getElem?_eq_getElem hj, e])⟩)
      have HB := Lib.hid hh.out.1
      clear hh hk hkn
      go_wp2_with fail
      go_ret
      exact ⟨false, rfl, fun _ => HE.out, HB.out⟩
end Go.Proofs.Ytonapijgfalpaaa
namespace Go.Proofs.Ytonapijgfalpaaa
open Go.RowKit Go.Shelf
def wkG : Gr := ⟨[⟨⟨#[108, 105, 115, 116]⟩, false, [⟨[1], 0, 3⟩]⟩, ⟨⟨#[97]⟩, true, []⟩], 0⟩
def wkT : Tr := ⟨1, 0, ⟨#[]⟩, .node 0 0 (2, 1, ⟨#[]⟩) .nil .nil⟩
def wkS (op : Int) (tx : ByteArray) : SV := ⟨⟨op, 2, 0, 0, tx, zeroK⟩, none, 0⟩
theorem wk_ap : apK wkG wkT (steps [wkS 2 ⟨#[]⟩, wkS 4 ⟨#[]⟩]) = (wkT, 1, 4) := by kernel_rfl
theorem wk_bk : (backsA wkT (steps [wkS 4 ⟨#[97]⟩])).reverse = [⟨4, 2, 0, 0, ⟨#[]⟩, zeroK⟩] := by kernel_rfl
theorem wk_go : (goA wkT (steps [wkS 4 ⟨#[97]⟩])).isSome = true := by kernel_rfl
theorem wk_ok : okSet (steps [wkS 4 ⟨#[97]⟩]) = true := by kernel_rfl
theorem wk_few : wkG.few := by
 refine ⟨by decide, fun k hk => ?_⟩
 simp only [wkG, List.mem_cons, List.not_mem_nil, or_false] at hk
 rcases hk with rfl | rfl
 · exact ⟨by decide, by decide, fun s hs => by simp only [List.mem_cons, List.not_mem_nil, or_false] at hs; subst hs; unfold Sl.few; decide⟩
 · exact ⟨by decide, by decide, fun s hs => by simp at hs⟩
theorem okF_wk : okF (spF 1 (rootF wkT)) := by
 intro x hx
 have : x.2.1 = (1, 0, ⟨#[]⟩) ∨ x.2.1 = (2, 1, ⟨#[]⟩) := by
  simp [spF, rootF, wkT] at hx
  rcases hx with rfl | rfl
  · exact Or.inl rfl
  · exact Or.inr rfl
 rcases this with e | e <;> rw [e] <;> exact ⟨by decide, by decide⟩
theorem okF_zero : okF (spF 1 (rootF zeroK)) := by
 intro x hx
 simp [spF, rootF, zeroK] at hx
 subst hx
 exact ⟨by decide, by decide⟩
theorem wk_way : Way wkT := ⟨by decide, okF_wk⟩
theorem wk_fit (op : Int) (tx : ByteArray) (h : (Lit.int .i8 op).wf = true) (h2 : (tx.size : Int) ≤ 9223372036854775807) : StepFit (wkS op tx).s := ⟨h, (by decide : foSize zeroK.kids + 1 ≤ 250), okF_zero, h2⟩
theorem invS4 (w : World) (S Sx : Nat → Prop) (nv sv : Value) (t : Tr) (s : Sf) (h4 : s.op = 4) (hS : ∀ y, S y → y < w.heap.size) (hSx : ∀ y, Sx y → y < w.heap.size) (ht : TrAt w S nv t) (hs : SfAt w Sx sv s) (hsz : foSize t.kids + 1 ≤ 2000) (hok : ∀ i ∈ idT t, (Lit.int .i64 i).wf = true) (ho : SfOk s) :
 Calls Try.prog 80 #[nv, sv] w (InvC w (fun y => S y ∨ Sx y) (s.on t).2 (s.inv t)) := by
 obtain ⟨ka, kc, rfl, h1, h2⟩ := hs
 have hx : TrAt w Sx (.agg #[.int .i64 s.sub.id, .int .i64 s.sub.kind, .string s.sub.text, .slice ka (foLen s.sub.kids) kc]) s.sub := ⟨ka, kc, rfl, h1, h2⟩
 have hid := ho.ids
 have hop := ho.op
 have hxz := ho.size
 unfold Sf.inv Sf.on
 obtain ⟨op, id, par, at_, tx, x⟩ := s
 simp only at *
 subst h4
 by_cases h0 : (stepK 4 id par at_ tx x t).2 = 0
 · rw [if_pos h0, h0]
   exact invert_4 w S Sx nv t x id par at_ tx ka _ kc hS hSx ht hx hsz hxz hok hid h0
 · rw [if_neg h0]
   exact invert_err w S Sx nv t x 4 id par at_ tx ka _ kc hS hSx ht hx hsz hxz hop hok hid h0
theorem wk_inv : InvFn (wkS 4 ⟨#[97]⟩).s := fun E X0 X1 X t ta sa tc sc hE h0 h1 b0 b1 hz hok => by
 refine (invS4 X _ _ _ _ t (wkS 4 ⟨#[97]⟩).s rfl (fun y hy => Nat.lt_of_lt_of_le hy.1 b0.size) (fun y hy => Nat.lt_of_lt_of_le hy.1 b1.size) (h0.at b0) ⟨sa, sc, rfl, h1.1, h1.2.kept fun q hq => ⟨hq, b1.block q hq.1⟩⟩ hz hok (fit_ok (wk_fit 4 _ (by decide) (by decide)))).mono ?_
 rintro e W ⟨v, rfl, ⟨va, vc, rfl, hc, hf⟩, hb⟩
 refine ⟨va, vc, rfl, ⟨hc, hf.kept fun q hq => ⟨⟨hq.2, fun he => ?_⟩, rfl⟩⟩, hb⟩
 rcases hq.1 with (h | h) | h
 · exact h.2 he
 · exact h.2 he
 · have := hE q he; omega
theorem wk_row {w : World} {l : List SV} {b : Nat} {cs : Array Value} (hb : w.heap[b]? = some (.cells cs 47 (0, 0))) (hl : ∀ x ∈ l, StepFit x.s ∧ x.s.sub = zeroK ∧ x.a = none ∧ x.c = 0) (hn : l.length ≤ 2) (hc : ∀ (k : Nat) (x : SV), l[k]? = some x → ∀ (j : Nat) (u : Value), (stepC x.s x.a x.c)[j]? = some u → cs[k * 9 + j]? = some u) : Row w (some ⟨b, 0, none⟩) l :=
 ⟨fun k x hx => ⟨b, 0, rfl, lt_of_heap hb, fun j u hj => by rw [cell_of_row _ _ _ _ _ _ hb, Nat.zero_add]; exact hc k x hx j u hj⟩, fun x hx => by obtain ⟨_, h1, h2, h3⟩ := hl x hx; unfold LiesS LiesI; rw [h1, h2, h3]; exact ⟨Nat.le_refl _, True.intro⟩, fun x hx => (hl x hx).1, by omega⟩
set_option maxRecDepth 100000 in
set_option maxHeartbeats 8000000 in
theorem wakes11_any (w : World) : Calls Try.prog 81 #[] w fun e w' => e = .returned (.bool true) ∧ Below w.heap.size w w' := by
 obtain ⟨X, hX⟩ : ∃ X, X = allocs w [.cells #[.int .i64 1] 3, .cells #[.slice (some ⟨w.heap.size, 0, none⟩) 1 1, .int .i64 0, .int .i64 3] 118, .cells #[.string ⟨#[108, 105, 115, 116]⟩, .bool false, .slice (some ⟨w.heap.size + 1, 0, none⟩) 1 1, .string ⟨#[97]⟩, .bool true, .slice none 0 0] 116, .cells #[.slice (some ⟨w.heap.size + 1 + 1, 0, none⟩) 2 2, .int .i64 0] 55, .cells #[.int .i64 2, .int .i64 1, .string ⟨#[]⟩, .slice none 0 0] 24, .cells #[.int .i64 1, .int .i64 0, .string ⟨#[]⟩, .slice (some ⟨w.heap.size + 1 + 1 + 1 + 1, 0, none⟩) 1 1] 24, .cells #[.int .i8 2, .int .i64 2, .int .i64 0, .int .i64 0, .string ⟨#[]⟩, .int .i64 0, .int .i64 0, .string ⟨#[]⟩, .slice none 0 0, .int .i8 4, .int .i64 2, .int .i64 0, .int .i64 0, .string ⟨#[]⟩, .int .i64 0, .int .i64 0, .string ⟨#[]⟩, .slice none 0 0] 47] := ⟨_, rfl⟩
 have BW := Lib.hid (show Below w.heap.size w X by rw [hX]; exact allocs_below _ _)
 have e0 : X.heap[w.heap.size]? = some (.cells #[.int .i64 1] 3 (0, 0)) := by rw [hX]; exact allocs_at _ _ 0 _ rfl
 have e1 : X.heap[w.heap.size + 1]? = some (.cells #[.slice (some ⟨w.heap.size, 0, none⟩) 1 1, .int .i64 0, .int .i64 3] 118 (0, 0)) := by rw [hX]; exact allocs_at _ _ 1 _ rfl
 have e2 : X.heap[w.heap.size + 2]? = some (.cells #[.string ⟨#[108, 105, 115, 116]⟩, .bool false, .slice (some ⟨w.heap.size + 1, 0, none⟩) 1 1, .string ⟨#[97]⟩, .bool true, .slice none 0 0] 116 (0, 0)) := by rw [hX]; exact allocs_at _ _ 2 _ rfl
 have e3 : X.heap[w.heap.size + 3]? = some (.cells #[.slice (some ⟨w.heap.size + 1 + 1, 0, none⟩) 2 2, .int .i64 0] 55 (0, 0)) := by rw [hX]; exact allocs_at _ _ 3 _ rfl
 have e4 : X.heap[w.heap.size + 4]? = some (.cells #[.int .i64 2, .int .i64 1, .string ⟨#[]⟩, .slice none 0 0] 24 (0, 0)) := by rw [hX]; exact allocs_at _ _ 4 _ rfl
 have e5 : X.heap[w.heap.size + 5]? = some (.cells #[.int .i64 1, .int .i64 0, .string ⟨#[]⟩, .slice (some ⟨w.heap.size + 1 + 1 + 1 + 1, 0, none⟩) 1 1] 24 (0, 0)) := by rw [hX]; exact allocs_at _ _ 5 _ rfl
 have e6 : X.heap[w.heap.size + 6]? = some (.cells #[.int .i8 2, .int .i64 2, .int .i64 0, .int .i64 0, .string ⟨#[]⟩, .int .i64 0, .int .i64 0, .string ⟨#[]⟩, .slice none 0 0, .int .i8 4, .int .i64 2, .int .i64 0, .int .i64 0, .string ⟨#[]⟩, .int .i64 0, .int .i64 0, .string ⟨#[]⟩, .slice none 0 0] 47 (0, 0)) := by rw [hX]; exact allocs_at _ _ 6 _ rfl
 have hG : GrV X (.agg #[.slice (some ⟨w.heap.size + 2, 0, none⟩) 2 2, .int .i64 0]) wkG := ⟨some ⟨w.heap.size + 2, 0, none⟩, 2, rfl, fun _ => ⟨_, 0, rfl, lt_of_heap e2, fun k x hx => by
  match k, hx with
  | 0, hx =>
    simp [wkG] at hx; subst hx
    refine ⟨some ⟨w.heap.size + 1, 0, none⟩, 1, by rw [cell_of_row _ _ 0 _ _ _ e2]; rfl, by rw [cell_of_row _ _ 1 _ _ _ e2]; rfl, by rw [cell_of_row _ _ 2 _ _ _ e2]; rfl, fun _ => ⟨_, 0, rfl, lt_of_heap e1, fun k x hx => ?_⟩⟩
    match k, hx with
    | 0, hx =>
      simp at hx; subst hx
      exact ⟨some ⟨w.heap.size, 0, none⟩, 1, by rw [cell_of_row _ _ 0 _ _ _ e1]; rfl, by rw [cell_of_row _ _ 1 _ _ _ e1]; rfl, by rw [cell_of_row _ _ 2 _ _ _ e1]; rfl, fun _ => ⟨_, 0, rfl, lt_of_heap e0, fun k x hx => by
       match k, hx with
       | 0, hx => simp at hx; subst hx; rw [cell_of_row _ _ 0 _ _ _ e0]; rfl⟩⟩
  | 1, hx =>
    simp [wkG] at hx; subst hx
    exact ⟨none, 0, by rw [cell_of_row _ _ 3 _ _ _ e2]; rfl, by rw [cell_of_row _ _ 4 _ _ _ e2]; rfl, by rw [cell_of_row _ _ 5 _ _ _ e2]; rfl, fun h => by simp at h⟩⟩⟩
 have hT : LiesI X wkT.kids (some ⟨w.heap.size + 4, 0, none⟩) 1 := ⟨Nat.le_refl _, _, 0, none, 0, rfl, lt_of_heap e4, by rw [cell_of_row _ _ 0 _ _ _ e4]; rfl, by rw [cell_of_row _ _ 1 _ _ _ e4]; rfl, by rw [cell_of_row _ _ 2 _ _ _ e4]; rfl, by rw [cell_of_row _ _ 3 _ _ _ e4]; rfl, Nat.le_refl _, True.intro, True.intro⟩
 have hR : Row X (some ⟨w.heap.size + 6, 0, none⟩) [wkS 2 ⟨#[]⟩, wkS 4 ⟨#[]⟩] := by
  refine wk_row e6 (fun x hx => ?_) (by decide) (fun k x hx j u hj => ?_)
  · simp only [List.mem_cons, List.not_mem_nil, or_false] at hx
    rcases hx with rfl | rfl
    · exact ⟨wk_fit 2 _ (by decide) (by decide), rfl, rfl, rfl⟩
    · exact ⟨wk_fit 4 _ (by decide) (by decide), rfl, rfl, rfl⟩
  · match k, hx with
    | 0, hx =>
      simp at hx; subst hx
      match j, hj with
      | 0, hj | 1, hj | 2, hj | 3, hj | 4, hj | 5, hj | 6, hj | 7, hj | 8, hj => simpa [stepC, wkS, zeroK, foLen] using hj
      | j + 9, hj => simp [stepC] at hj
    | 1, hx =>
      simp at hx; subst hx
      match j, hj with
      | 0, hj | 1, hj | 2, hj | 3, hj | 4, hj | 5, hj | 6, hj | 7, hj | 8, hj => simpa [stepC, wkS, zeroK, foLen] using hj
      | j + 9, hj => simp [stepC] at hj
 have hap := Apply_any X wkG wkT (some ⟨w.heap.size + 2, 0, none⟩) (some ⟨w.heap.size + 4, 0, none⟩) (some ⟨w.heap.size + 6, 0, none⟩) 2 2 1 1 2 2 [wkS 2 ⟨#[]⟩, wkS 4 ⟨#[]⟩] rfl (fun Y hY => hG.below hY) wk_few rfl hT wk_way rfl hR
 rw [wk_ap] at hap
 have HAP := Lib.hid hap
 have HX := Lib.hid hX
 have HT := Lib.hid hT
 have EN := Lib.hid e5
 have EG := Lib.hid e3
 clear hap hT hR hG e0 e1 e2 e3 e4 e5 e6 hX
 go_enter Try.func81, Try.ntmps81
 go_wp2_with fail
 change Calls _ _ _ (allocs w [.cells #[.int .i64 1] 3, .cells #[.slice (some ⟨w.heap.size, 0, none⟩) 1 1, .int .i64 0, .int .i64 3] 118, .cells #[.string ⟨#[108, 105, 115, 116]⟩, .bool false, .slice (some ⟨w.heap.size + 1, 0, none⟩) 1 1, .string ⟨#[97]⟩, .bool true, .slice none 0 0] 116, .cells #[.slice (some ⟨w.heap.size + 1 + 1, 0, none⟩) 2 2, .int .i64 0] 55, .cells #[.int .i64 2, .int .i64 1, .string ⟨#[]⟩, .slice none 0 0] 24, .cells #[.int .i64 1, .int .i64 0, .string ⟨#[]⟩, .slice (some ⟨w.heap.size + 1 + 1 + 1 + 1, 0, none⟩) 1 1] 24, .cells #[.int .i8 2, .int .i64 2, .int .i64 0, .int .i64 0, .string ⟨#[]⟩, .int .i64 0, .int .i64 0, .string ⟨#[]⟩, .slice none 0 0, .int .i8 4, .int .i64 2, .int .i64 0, .int .i64 0, .string ⟨#[]⟩, .int .i64 0, .int .i64 0, .string ⟨#[]⟩, .slice none 0 0] 47]) _
 rw [← HX.out]
 clear HX
 refine HAP.out.mono ?_
 rintro e W1 ⟨va, vc, rfl, hl1, hb1⟩
 obtain ⟨U, hU⟩ : ∃ U, U = W1.alloc (.cells #[.int .i64 1, .int .i64 0, .string ⟨#[]⟩, .slice va 1 vc] 24) := ⟨_, rfl⟩
 have hbU : Below W1.heap.size W1 U := by rw [hU]; exact box_below _ _
 have EU := Lib.hid (show U.heap[W1.heap.size]? = some (.cells #[.int .i64 1, .int .i64 0, .string ⟨#[]⟩, .slice va 1 vc] 24 (0, 0)) by rw [hU]; exact heap_alloc_new _ _)
 have hbb := hb1.trans (hbU.mono hb1.size)
 replace EN := Lib.hid ((hbb.block _ (lt_of_heap EN.out)).trans EN.out)
 replace HT := Lib.hid (HT.out.on hbb)
 replace BW := Lib.hid (BW.out.trans (hbb.mono BW.out.size))
 have HU := Lib.hid hU
 obtain ⟨xb, hxb⟩ : ∃ xb, xb = W1.heap.size := ⟨_, rfl⟩
 clear hU hbU hbb hb1 hl1 HAP
 go_upto_region 4 with fail
 change Code.wp _ _ _ _ (W1.alloc (.cells #[.int .i64 1, .int .i64 0, .string ⟨#[]⟩, .slice va 1 vc] 24))
 rw [← HU.out, ← hxb]
 rw [← hxb] at EU
 clear hxb HU
 obtain ⟨n0, n1, n2, n3⟩ := box4 EN.out
 obtain ⟨V, hV⟩ : ∃ V, V = U.alloc (.cells #[.int .i8 4, .int .i64 2, .int .i64 0, .int .i64 0, .string ⟨#[97]⟩, .int .i64 0, .int .i64 0, .string ⟨#[]⟩, .slice none 0 0] 47) := ⟨_, rfl⟩
 have hbV : Below U.heap.size U V := by rw [hV]; exact box_below _ _
 have hnV : V.heap[U.heap.size]? = some (.cells #[.int .i8 4, .int .i64 2, .int .i64 0, .int .i64 0, .string ⟨#[97]⟩, .int .i64 0, .int .i64 0, .string ⟨#[]⟩, .slice none 0 0] 47 (0, 0)) := by rw [hV]; exact heap_alloc_new _ _
 have hR2 : Row V (some ⟨U.heap.size, 0, none⟩) [wkS 4 ⟨#[97]⟩] := by
  refine wk_row hnV (fun x hx => ?_) (by decide) (fun k x hx j u hj => ?_)
  · simp only [List.mem_cons, List.not_mem_nil, or_false] at hx
    subst hx
    exact ⟨wk_fit 4 _ (by decide) (by decide), rfl, rfl, rfl⟩
  · match k, hx with
    | 0, hx =>
      simp at hx; subst hx
      match j, hj with
      | 0, hj | 1, hj | 2, hj | 3, hj | 4, hj | 5, hj | 6, hj | 7, hj | 8, hj => simpa [stepC, wkS, zeroK, foLen] using hj
      | j + 9, hj => simp [stepC] at hj
 have hiv := Invert_any V wkT (some ⟨w.heap.size + 4, 0, none⟩) (some ⟨U.heap.size, 0, none⟩) 1 1 1 1 [wkS 4 ⟨#[97]⟩] rfl (HT.out.on hbV) wk_way rfl hR2 (fun x hx => by simp only [List.mem_cons, List.not_mem_nil, or_false] at hx; subst hx; exact wk_inv)
 have HIV := Lib.hid (And.intro hiv (And.intro hV hbV))
 clear hiv hR2 hnV hbV hV
 go_wp2_with fail
 change Calls _ _ _ (U.alloc (.cells #[.int .i8 4, .int .i64 2, .int .i64 0, .int .i64 0, .string ⟨#[97]⟩, .int .i64 0, .int .i64 0, .string ⟨#[]⟩, .slice none 0 0] 47)) _
 rw [← HIV.out.2.1]
 refine HIV.out.1.mono ?_
 rintro e W2 ⟨ra, rc, nn, bs, rfl, hb2, hrl, hcase⟩
 have hok2 : nn = 0 ∧ bs = [⟨4, 2, 0, 0, ⟨#[]⟩, zeroK⟩] := by
  rcases hcase with ⟨h1, _, _, h2⟩ | ⟨_, _, h⟩
  · exact ⟨h1, by rw [h2]; exact wk_bk⟩
  · have := h wk_ok
    have h3 := wk_go
    rw [this] at h3
    cases h3
 obtain ⟨rfl, rfl⟩ := hok2
 obtain ⟨rb, ro, sa, sc, rfl, _, hcs, _⟩ := hrl 0 _ rfl
 have hbb := HIV.out.2.2.trans (hb2.mono HIV.out.2.2.size)
 have BW2 := Lib.hid (BW.out.trans (hbb.mono BW.out.size))
 have EU2 := (hbb.block _ (lt_of_heap EU.out)).trans EU.out
 obtain ⟨u0, u1, u2, u3⟩ := box4 EU2
 have p0 : W2.cell? ⟨rb, ro, none⟩ = some (.int .i8 4) := by have := hcs 0 _ rfl; simpa using this
 have p4 : W2.cell? ⟨rb, ro + 4, none⟩ = some (.string ⟨#[]⟩) := by have := hcs 4 _ rfl; simpa using this
 clear hbb EU2 hrl hcase hcs hb2 n0 n1 n2 n3 HIV
 simp only [List.length_singleton]
 go_wp2_with fail
 go_ret
 exact ⟨rfl, BW2.out⟩
theorem great_fewJ {g : Gr} (h : greatG g = false) : g.few ∧ g.kinds.length ≤ 40 := by
 simp only [greatG, Bool.or_eq_false_iff, decide_eq_false_iff_not, List.any_eq_false] at h
 refine ⟨⟨by omega, fun k hk => ?_⟩, by omega⟩
 have h1 := h.2 k hk
 simp only [greatK, Bool.or_eq_true, decide_eq_true_eq, List.any_eq_true, not_or, not_exists, not_and] at h1
 refine ⟨by omega, by omega, fun s hs => ?_⟩
 have h2 := h1.2 s hs
 simp only [greatS, decide_eq_true_eq] at h2
 show s.kinds.length ≤ 1000000
 omega
end Go.Proofs.Ytonapijgfalpaaa
