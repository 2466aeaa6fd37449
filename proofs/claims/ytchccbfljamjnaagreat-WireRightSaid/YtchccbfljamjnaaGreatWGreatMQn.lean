/-
  .
-/
import Derived.StillTailTactics
import Derived.Test.YtchccbfljamjnaaGreatERowQn
import Derived.Test.YtchccbfljamjnaaGreatWRightAQn
import Derived.Test.YtchccbfljamjnaaGreatJPgQn
set_option maxRecDepth 100000
set_option maxHeartbeats 40000000
namespace Go.Proofs.YtchccbfljamjnaaGreat
open Go.RowKit Go.Shelf
set_option linter.unusedVariables false
set_option linter.unusedSimpArgs false
structure zab (s : Sf) : Prop where
 op : (Lit.int .i8 s.op).wf = true
 len : foLen s.sub.kids ≤ 9223372036854775807
 fit : qQ s.sub.kids
 ok : okF (spF 1 (yh s.sub))
 tx : (s.tx.size : Int) ≤ 9223372036854775807
structure zcD (w : World) (a : Option Addr) (vs : List SV) : Prop where
 cells : zbr w (fun q => q < w.heap.size) a vs
 lies : ∀ x ∈ vs, vV w x
 inn : ∀ x ∈ vs, zab x.s
theorem zcD.on {w X : World} {a : Option Addr} {vs : List SV} (h : zcD w a vs) (hb : Below w.heap.size w X) : zcD X a vs :=
 ⟨h.cells.kept fun y hy => ⟨nL hy hb.size, hb.block y hy⟩, fun x hx => qO.on (h.lies x hx) hb, h.inn⟩
structure ZH (w : World) (sa ar : Option Addr) (an am ad : Nat) (vs : List SV) (t : Tr) : Prop where
 row : zcD w sa vs
 len : an = vs.length
 kids : am = foLen t.kids
 cap : foLen t.kids ≤ ad
 lies : zB w (fun q => q < w.heap.size) t.kids ar
 big : foLen t.kids ≤ 9223372036854775807 ∧ qQ t.kids
 most : an ≤ 9223372036854775807
theorem ZH.on {w X : World} {sa ar : Option Addr} {an am ad : Nat} {vs : List SV} {t : Tr} (h : ZH w sa ar an am ad vs t) (hb : Below w.heap.size w X) : ZH X sa ar an am ad vs t :=
 ⟨h.row.on hb, h.len, h.kids, h.cap, h.lies.kept fun q hq => ⟨nL hq hb.size, hb.block q hq⟩, h.big, h.most⟩
def jf (vs : List SV) (t : Tr) : Prop := vs.length ≤ 100 ∧ ze t.kids + 1 ≤ 2000 ∧ ∀ x ∈ vs, ze x.s.sub.kids + 1 ≤ 2000
theorem ZH.at {w : World} {sa ar : Option Addr} {an am ad : Nat} {vs : List SV} {t : Tr} (h : ZH w sa ar an am ad vs t) (hs : jf vs t) : zS w sa ar an am ad vs t :=
 ⟨⟨h.row.cells, h.row.lies, fun x hx => ⟨(h.row.inn x hx).op, hs.2.2 x hx, (h.row.inn x hx).ok, (h.row.inn x hx).tx⟩, by have := hs.1; omega⟩, h.len, h.kids, h.cap, h.lies, hs.2.1⟩
def zcx (w : World) (vs : List SV) (t : Tr) (e : Ending) (w' : World) : Prop := ∃ b, e = .returned (.bool b) ∧ (b = false → jf vs t) ∧ Below w.heap.size w w'
theorem ZZ (w : World) (a0 a1 a2 a3 a4 a5 a6 a7 a8 a9 a10 : Int) (sa ar : Option Addr) (an ac am ad : Nat) (vs : List SV) (t : Tr) (h : ZH w sa ar an am ad vs t) :
 Calls Tryz.prog 20 #[.agg #[.int .i8 a0, .int .i64 a1, .int .i64 a2, .int .i64 a3, .int .i64 a4, .int .i64 a5, .int .i64 a6, .int .i64 a7, .int .i64 a8, .int .i64 a9, .int .i64 a10, .slice sa an ac, .int .i64 t.id, .int .i64 t.kind, .string t.text, .slice ar am ad]] w (zcx w vs t) := by
 obtain ⟨B, hB⟩ : ∃ B, B = w.alloc (.cells #[.int .i8 a0, .int .i64 a1, .int .i64 a2, .int .i64 a3, .int .i64 a4, .int .i64 a5, .int .i64 a6, .int .i64 a7, .int .i64 a8, .int .i64 a9, .int .i64 a10, .slice sa an ac, .int .i64 t.id, .int .i64 t.kind, .string t.text, .slice ar am ad] 37) := ⟨_, rfl⟩
 have hb : Below w.heap.size w B := by rw [hB]; exact (Below.refl _ _).alloc (Nat.le_refl _) _
 have e0 : B.heap[w.heap.size]? = some (.cells #[.int .i8 a0, .int .i64 a1, .int .i64 a2, .int .i64 a3, .int .i64 a4, .int .i64 a5, .int .i64 a6, .int .i64 a7, .int .i64 a8, .int .i64 a9, .int .i64 a10, .slice sa an ac, .int .i64 t.id, .int .i64 t.kind, .string t.text, .slice ar am ad] 37 (0, 0)) := by rw [hB]; exact heap_alloc_new _ _
 have HCE := hH (fun (Y : World) (hY : Below B.heap.size B Y) => (show Y.cell? ⟨w.heap.size, 11, none⟩ = some (.slice sa an ac) ∧ Y.cell? ⟨w.heap.size, 12, none⟩ = some (.int .i64 t.id) ∧ Y.cell? ⟨w.heap.size, 13, none⟩ = some (.int .i64 t.kind) ∧ Y.cell? ⟨w.heap.size, 14, none⟩ = some (.string t.text) ∧ Y.cell? ⟨w.heap.size, 15, none⟩ = some (.slice ar am ad) by
  have e := (hY.block _ (lt_of_heap e0)).trans e0
  exact ⟨by rw [cell_of_row _ _ 11 _ _ _ e]; rfl, by rw [cell_of_row _ _ 12 _ _ _ e]; rfl, by rw [cell_of_row _ _ 13 _ _ _ e]; rfl, by rw [cell_of_row _ _ 14 _ _ _ e]; rfl, by rw [cell_of_row _ _ 15 _ _ _ e]; rfl⟩))
 have HG := hH (Z4 B (fun q => q < w.heap.size) (.agg #[.int .i64 t.id, .int .i64 t.kind, .string t.text, .slice ar am ad]) t h.big.1 h.big.2 (fun y hy => nL hy hb.size) ⟨ar, ad, by rw [h.kids], h.cap, h.lies.below hb (fun _ hy => hy)⟩)
 have HR := hH h.row
 have HN := hH h.len
 have HB := hH (aN hb hB)
 have hmost := h.most
 clear h hb hB e0
 obtain ⟨c11, c12, c13, c14, c15⟩ := HCE.out B (Below.refl _ _)
 go_enter Tryz.func20, Tryz.ntmps20
 go_upto_region 1 with fail
 change Code.wp _ _ _ _ (w.alloc (.cells #[.int .i8 a0, .int .i64 a1, .int .i64 a2, .int .i64 a3, .int .i64 a4, .int .i64 a5, .int .i64 a6, .int .i64 a7, .int .i64 a8, .int .i64 a9, .int .i64 a10, .slice sa an ac, .int .i64 t.id, .int .i64 t.kind, .string t.text, .slice ar am ad] 37))
 rw [← HB.out.2]
 by_cases h100 : 100 < an
 · have h100i : (100 : Int) < (an : Int) := by omega
   go_wp2_with fail
   go_ret
   exact ⟨true, rfl, (fun h => by cases h), HB.out.1⟩
 · have h100i : ¬ (100 : Int) < (an : Int) := by omega
   go_wp2_with fail
   refine HG.out.mono ?_
   rintro e w1 ⟨bg, rfl, hbg, hb1⟩
   have HB1 := hH (aN (HB.out.1.trans (hb1.mono HB.out.1.size)) hb1)
   have HBG := hH hbg
   have han : an ≤ 100 := by omega
   clear hb1 hbg HG c11 c12 c13 c14 c15 h100 h100i hmost
   cases bg
   · have HSZ := hH (HBG.out rfl)
     go_wp2_with fail
     go_loopw [3] (fun i wr => ∃ k : Nat, k ≤ an ∧ i = .int .i64 (k : Int) ∧ Hid (Below B.heap.size B wr ∧ ∀ j x, j < k → vs[j]? = some x → ze x.s.sub.kids + 1 ≤ 2000)) (fun i _ => an - (intOf i).toNat)
     case atStart => exact ⟨0, Nat.zero_le _, rfl, hH ⟨HB1.out.2, fun j x hj => by omega⟩⟩
     case round =>
      obtain ⟨k, hk, rfl, hh⟩ := hrel
      obtain ⟨wo, hwo⟩ : ∃ wo, wo = wr := ⟨_, rfl⟩
      subst hwo
      obtain ⟨c11, c12, c13, c14, c15⟩ := HCE.out wo hh.out.1
      by_cases hlt : k < an
      · have hkl : (k : Int) < (an : Int) := by omega
        obtain ⟨x, hx⟩ : ∃ x, vs[k]? = some x := ⟨_, List.getElem?_eq_getElem (by rw [← HN.out]; exact hlt)⟩
        have hxm := List.mem_of_getElem? hx
        obtain ⟨b, off, rfl, hbl, hcs⟩ := HR.out.cells k x hx
        have hwB := HB.out.1.trans (hh.out.1.mono HB.out.1.size)
        obtain ⟨sn, hsn⟩ : ∃ sn, sn = foLen x.s.sub.kids := ⟨_, rfl⟩
        have hce : wo.cell? ⟨b, off + k * 9 + 5, none⟩ = some (.int .i64 x.s.sub.id) ∧ wo.cell? ⟨b, off + k * 9 + 6, none⟩ = some (.int .i64 x.s.sub.kind) ∧ wo.cell? ⟨b, off + k * 9 + 7, none⟩ = some (.string x.s.sub.text) ∧ wo.cell? ⟨b, off + k * 9 + 8, none⟩ = some (.slice x.a sn x.c) := by
         have h := fun j u hj => (World.cell?_of_block (a := ⟨b, off + k * 9 + j, none⟩) (hwB.block b hbl)).trans (hcs j u hj)
         rw [hsn]
         exact ⟨h 5 _ rfl, h 6 _ rfl, h 7 _ rfl, h 8 _ rfl⟩
        have hin := HR.out.inn x hxm
        have HGR := hH (Z4 wo (fun q => q < w.heap.size) (.agg #[.int .i64 x.s.sub.id, .int .i64 x.s.sub.kind, .string x.s.sub.text, .slice x.a sn x.c]) x.s.sub hin.len hin.fit (fun y hy => nL hy hwB.size) (by rw [hsn]; exact vV.at (HR.out.lies x hxm) hwB))
        obtain ⟨s5, s6, s7, s8⟩ := hce
        have HX := hH (aN hx (aN hh.out.2 (aN hlt (aN hh.out.1 hwB))))
        clear hx hxm hcs hin hwB hsn hbl hh hk
        go_wp2_with fail
        refine HGR.out.mono ?_
        rintro e w6 ⟨bq, rfl, hbq, hb6⟩
        have HB6 := hH (aN (HX.out.2.2.2.1.trans (hb6.mono HX.out.2.2.2.1.size)) (HX.out.2.2.2.2.trans (hb6.mono HX.out.2.2.2.2.size)))
        have HBQ := hH hbq
        clear hb6 hbq HGR c11 c12 c13 c14 c15 s5 s6 s7 s8
        cases bq
        · have HS2 := hH (HBQ.out rfl)
          go_wp2_with fail
          exact ⟨⟨k + 1, HX.out.2.2.1, by go_num, hH ⟨HB6.out.1, fun j y hj hy => by
           rcases Nat.lt_or_ge j k with h | h
           · exact HX.out.2.1 j y h hy
           · have : j = k := by omega
             subst this
             rw [HX.out.1] at hy; cases hy; exact HS2.out⟩⟩, by have := HX.out.2.2.1; simp [intOf]; omega⟩
        · go_wp2_with fail
          go_ret
          exact ⟨true, rfl, (fun h => by cases h), HB6.out.2⟩
      · have hkl : ¬ (k : Int) < (an : Int) := by omega
        have HE := hH (show zcx w vs t (.returned (.bool false)) wo from ⟨false, rfl, fun _ => ⟨by rw [← HN.out]; exact han, HSZ.out, fun x hx => by
         obtain ⟨j, hj, e⟩ := List.getElem_of_mem hx
         exact hh.out.2 j x (by rw [← HN.out] at hj; omega) (by rw [List.getElem?_eq_getElem hj, e])⟩, HB.out.1.trans (hh.out.1.mono HB.out.1.size)⟩)
        clear hlt hh hk
        go_wp2_with fail
        go_ret
        exact HE.out
   · go_wp2_with fail
     go_ret
     exact ⟨true, rfl, (fun h => by cases h), HB1.out.1⟩
end Go.Proofs.YtchccbfljamjnaaGreat
