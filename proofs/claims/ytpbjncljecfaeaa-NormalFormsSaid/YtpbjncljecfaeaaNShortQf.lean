/-
  shorten: the leftmost pair of neighbours that fits a rule is put as the rule says. No condition but that the row is not too great.
-/
import Derived.Deep.LoopGhost
import Derived.Test.YtpbjncljecfaeaaNRowMQf
namespace Go.Proofs.Ytpbjncljecfaeaa
open Go.RowKit Go.Shelf
attribute [local go_sem] Oper.semAt_some
set_option linter.unusedVariables false
set_option linter.unusedSimpArgs false

/-- No neighbours of a row fit a rule. -/
def NoFit (l : List Sf) : Prop := ∀ (j : Nat) x y, l[j]? = some x → l[j + 1]? = some y → (pairK x y).2 = false
structure RowI (w0 V : World) (R : Nat) (ga : Option Addr) (gc H : Nat) (ra : Option Addr) (rc : Nat) (gone rest : List HP) (l : List Sf) : Prop where
  row : RowM w0 V R ga gc H ra rc gone rest
  all : sfs gone ++ sfs rest = l
  no : NoFit (sfs gone)
  below : Below w0.heap.size w0 V
  few : ∀ p ∈ gone ++ rest, p.2.ts.length + (gone ++ rest).length ≤ 10000
  len : (gone ++ rest).length ≤ 10000
/-- A row under work, as it lies: its steps are l. -/
def RowSt (w0 : World) (R : Nat) (l : List Sf) (V : World) : Prop := ∃ ga gc H ra rc gone rest, RowI w0 V R ga gc H ra rc gone rest l
def ShoC (w0 : World) (R : Nat) (l : List Sf) (w : World) (e : Ending) (w' : World) : Prop := e = .returned (.bool (onceK l).2) ∧ RowSt w0 R (onceK l).1 w'
theorem Try.infoHw : (Try.prog.info? 43).map (fun i => (i.size, i.bytes, i.zero.map (fun z => z.cells.size))) = some (1, 8, some 1) := by kernel_rfl
theorem add_zero_addr (b i : Nat) : (⟨b, 0, none⟩ : Addr).add i = ⟨b, i, none⟩ := by unfold Addr.add; split <;> simp_all
theorem sfs_len (L : List HP) : (sfs L).length = L.length := by simp [sfs]
theorem sfs_append (L M : List HP) : sfs (L ++ M) = sfs L ++ sfs M := by simp [sfs]
theorem NoFit.snoc {l : List Sf} {a b : Sf} (h : NoFit (l ++ [a])) (hp : (pairK a b).2 = false) : NoFit (l ++ [a] ++ [b]) := fun j x y hx hy => by
  by_cases hj : j + 1 < (l ++ [a]).length
  · rw [List.getElem?_append_left (by omega)] at hx
    rw [List.getElem?_append_left hj] at hy
    exact h j x y hx hy
  · have hyl := (List.getElem?_eq_some_iff.1 hy).1
    simp only [List.length_append, List.length_cons, List.length_nil] at hj hyl
    have hj2 : j = l.length := by omega
    subst hj2
    rw [List.getElem?_append_left (by simp), List.getElem?_append_right (Nat.le_refl _), Nat.sub_self] at hx
    rw [List.getElem?_append_right (by simp)] at hy
    simp at hx hy
    rw [← hx, ← hy]; exact hp
theorem NoFit.one (a : Sf) : NoFit [a] := fun j x y _ hy => by cases j <;> simp at hy
theorem NoFit.left {l : List Sf} {a : Sf} (h : NoFit (l ++ [a])) : NoFit l := fun j x y hx hy => h j x y (by rw [List.getElem?_append_left (List.getElem?_eq_some_iff.1 hx).1]; exact hx) (by rw [List.getElem?_append_left (List.getElem?_eq_some_iff.1 hy).1]; exact hy)
theorem NoFit.end {l : List Sf} (h : NoFit l) : onceK l = (l, false) := onceK_none l h
theorem once_here {g r : List Sf} {a b : Sf} (h : NoFit (g ++ [a])) (hp : (pairK a b).2 = true) : onceK (g ++ [a] ++ b :: r) = (g ++ (pairK a b).1 ++ r, true) := by
  have e := onceK_at (g ++ [a] ++ b :: r) g.length a b (by simp) (by rw [List.getElem?_append_right (by simp)]; simp) (fun j x y hj hx hy => h j x y (by rw [List.getElem?_append_left (by simp; omega)] at hx; exact hx) (by rw [List.getElem?_append_left (by simp; omega)] at hy; exact hy)) hp
  rw [e]
  congr 1
  have e1 : (g ++ [a] ++ b :: r).take g.length = g := by rw [List.append_assoc, List.take_left' rfl]
  have e2 : (g ++ [a] ++ b :: r).drop (g.length + 2) = r := by
    rw [List.append_assoc, show g.length + 2 = g.length + 2 from rfl, List.drop_append]
    simp
  rw [e1, e2]
set_option maxRecDepth 100000 in
set_option maxHeartbeats 16000000 in
theorem shorten_any {w0 w : World} {R : Nat} {l : List Sf} (h : RowSt w0 R l w) : Calls Try.prog 36 #[.pointer (some ⟨R, 0, none⟩)] w (ShoC w0 R l w) := by
  obtain ⟨ga, gc, H, ra, rc, gone, rest, hI⟩ := h
  have HI := Lib.hid hI
  clear hI
  go_enter Try.func36, Try.ntmps36
  go_wp2_with fail
  go_loopg [] (rest.length) (fun gk wr => ∃ ga gc ra rc gone rest, gk = List.length rest ∧ Hid (RowI w0 wr R ga gc H ra rc gone rest l))
  case atStart => exact ⟨ga, gc, ra, rc, gone, rest, rfl, HI⟩
  case round =>
    obtain ⟨ga, gc, ra, rc, gone, rest, hgk, hh⟩ := hrel
    clear HI
    obtain ⟨wo, hwo⟩ : ∃ wo, wo = wr := ⟨_, rfl⟩
    subst hwo
    have hob := hh.out.row.obj
    cases rest with
    | nil =>
      have c1 : wo.cell? ⟨R, 1, none⟩ = some (.slice ra 0 rc) := by rw [cell_of_row _ _ _ _ _ _ hob]; rfl
      have HE : Hid (ShoC w0 R l w (.returned (.bool false)) wo) := Lib.hid (by
        have hl : l = sfs gone := by have := hh.out.all; simp [sfs] at this; rw [← this]; rfl
        have he : onceK l = (l, false) := by rw [hl]; exact hh.out.no.end
        exact ⟨by rw [he], ga, gc, H, ra, rc, gone, [], by rw [he]; exact hh.out⟩)
      clear hob hh hgk
      go_wp2_with fail
      go_ret
      exact HE.out
    | cons p r =>
      obtain ⟨n, hn⟩ : ∃ n, n = r.length := ⟨_, rfl⟩
      obtain ⟨m, hm⟩ : ∃ m, m = gone.length := ⟨_, rfl⟩
      rw [List.length_cons, ← hn, ← hm] at hob
      have c0 : wo.cell? ⟨R, 0, none⟩ = some (.slice ga m gc) := by rw [cell_of_row _ _ _ _ _ _ hob]; rfl
      have c1 : wo.cell? ⟨R, 1, none⟩ = some (.slice ra (n + 1) rc) := by rw [cell_of_row _ _ _ _ _ _ hob]; rfl
      have hm9 : m ≤ 10000 ∧ n + 1 ≤ 10000 := by have := hh.out.len; simp at this; omega
      have hn0 : (0 : Int) < (n : Int) + 1 := by omega
      have hmw : IntKind.i64.wrap ((m : Int) - 1) = (m : Int) - 1 := IntWalk.i64_in _ (by omega)
      have HO := Lib.hid (And.intro hob (And.intro hn (And.intro hm (And.intro hm9 hgk))))
      clear hob hn hm hm9 hgk
      go_upto_region 4 with fail
      rename_i K2 hK2 K12 hK12 K4 hK4
      have hT : ∀ (u2 u3 u4 u5 u6 u7 u8 u9 u10 u11 u12 u13 u14 u15 u16 u17 u18 u19 u20 u21 u22 u23 u24 u25 u26 u27 u28 u29 u30 u31 u32 u33 u34 u35 u36 u37 u38 u39 u40 u41 u42 u43 u44 u45 u46 u47 u48 u49 u50 u51 u52 u53 u54 u55 u56 u57 u58 u59 u60 u61 u62 u63 u64 u65 u66 u67 u68 u69 u70 u71 u72 u73 u74 u75 u76 u77 u78 u79 u80 u81 u82 u83 u84 u85 : Value) (V : World) (ga : Option Addr) (gc : Nat) (gone : List HP) (p : HP) (r : List HP), RowI w0 V R ga gc H ra rc gone (p :: r) l → n = r.length → NoFit (sfs gone ++ [p.2.sf]) → K12 { tmps := #[.pointer (some ⟨R, 0, none⟩), undef, u2, u3, u4, u5, u6, u7, u8, u9, u10, u11, u12, u13, u14, u15, u16, u17, u18, u19, u20, u21, u22, u23, u24, u25, u26, u27, u28, u29, u30, u31, u32, u33, u34, u35, u36, u37, u38, u39, u40, u41, u42, u43, u44, u45, u46, u47, u48, u49, u50, u51, u52, u53, u54, u55, u56, u57, u58, u59, u60, u61, u62, u63, u64, u65, u66, u67, u68, u69, u70, u71, u72, u73, u74, u75, u76, u77, u78, u79, u80, u81, u82, u83, u84, u85], defers := [] } V := by
        clear hK4 hmw c0 c1 hn0
        intro u2 u3 u4 u5 u6 u7 u8 u9 u10 u11 u12 u13 u14 u15 u16 u17 u18 u19 u20 u21 u22 u23 u24 u25 u26 u27 u28 u29 u30 u31 u32 u33 u34 u35 u36 u37 u38 u39 u40 u41 u42 u43 u44 u45 u46 u47 u48 u49 u50 u51 u52 u53 u54 u55 u56 u57 u58 u59 u60 u61 u62 u63 u64 u65 u66 u67 u68 u69 u70 u71 u72 u73 u74 u75 u76 u77 u78 u79 u80 u81 u82 u83 u84 u85 V ga gc gone p r hI hn hno
        refine hK12 _ _ ?_
        clear hK12
        obtain ⟨m, hm⟩ : ∃ m, m = gone.length := ⟨_, rfl⟩
        have hob := hI.row.obj
        rw [List.length_cons, ← hn, ← hm] at hob
        obtain ⟨o, ho, hpc⟩ := hI.row.hrow 0 p rfl
        subst ho
        rw [Nat.add_zero] at hpc
        have hcap := hI.row.rcap
        rw [List.length_cons, ← hn] at hcap
        obtain ⟨cs, hcs⟩ := hI.row.hblk
        have hRH : R ≠ H := ne_of_type hob hcs (by decide)
        have hRl := lt_of_heap hob
        have hHl := lt_of_heap hcs
        have hm9 : m ≤ 10000 := by have := hI.len; rw [List.length_append] at this; omega
        obtain ⟨U, hU⟩ : ∃ U, U = (V.alloc (.cells #[.pointer (some ⟨p.1, 0, none⟩)] 43)).drew := ⟨_, rfl⟩
        have hUk : ∀ q, q < V.heap.size → U.heap[q]? = V.heap[q]? := fun q hq => by rw [hU]; exact Below.heap_alloc _ _ _ hq
        have hUs : U.heap.size = V.heap.size + 1 := by rw [hU]; show (V.alloc _).heap.size = _; simp
        have hUn : U.heap[V.heap.size]? = some (.cells #[.pointer (some ⟨p.1, 0, none⟩)] 43 (0, 0)) := by rw [hU]; exact heap_alloc_new _ _
        have hUb : Below V.heap.size V U := by rw [hU]; have h := (Below.refl V.heap.size V).alloc (Nat.le_refl _) (.cells #[.pointer (some ⟨p.1, 0, none⟩)] 43); exact ⟨h.os, h.tape, h.output, h.size, h.block⟩
        obtain ⟨i0, z0, hi0, hz0, hz1, hz2, hz3⟩ := info_wide Try.infoHw
        have hgr0 := hI.row.grow
        rw [← hm] at hgr0
        have h2U := owns_kept (w' := U) hgr0 (fun q cur hq _ => hUk q (lt_of_heap hq))
        have hBs := hI.below.size
        obtain ⟨g, cap, W, hrun, hown, hgr, hat, hlt9⟩ := run_append_lies (P := Try.prog) U 58 58 w0.heap.size 43 i0 z0 1 8 Try.underlying58 hi0 hz0 hz1 hz2 hz3 (by omega) (.slice ga m gc) m _ h2U ⟨V.heap.size, 0, none⟩ 1 1 [.pointer (some ⟨p.1, 0, none⟩)] rfl (fun i u hu => by
          rw [add_zero_addr, cell_of_row _ _ _ _ _ _ hUn]
          simpa using hu) (fun u hu => by rw [List.mem_singleton] at hu; rw [hu]; rfl) (by omega) (by unfold maxLen; omega) (by omega) (by omega) U.heap.size rfl
        obtain ⟨V2, hV2⟩ : ∃ V2, V2 = W.setCell ⟨R, 0, none⟩ (.slice (some ⟨g, 0, none⟩) (m + 1) cap) := ⟨_, rfl⟩
        have hsh := fun ra' W9 (h1 : 0 < r.length → ra' = some ⟨H, o + 1, none⟩) (hW9 : W9 = V2.setCell ⟨R, 1, none⟩ (.slice ra' n (rc - 1))) => hI.row.shift (ra' := ra') (U := U) (V1 := W) (V2 := V2) (W := W9) (g := g) (cap := cap) (n := n) (m := m) rfl h1 hn hm hUb hown hgr (hat.imp id (fun h => by omega)) hV2 hW9
        have hobW : W.heap[R]? = V.heap[R]? := (hsh (some ⟨H, o + 1, none⟩) _ (fun _ => rfl) rfl).2
        have hnx : ∀ ra' W9, (0 < r.length → ra' = some ⟨H, o + 1, none⟩) → W9 = V2.setCell ⟨R, 1, none⟩ (.slice ra' n (rc - 1)) → Hid (RowI w0 W9 R (some ⟨g, 0, none⟩) cap H ra' (rc - 1) (gone ++ [p]) r l) := fun ra' W9 h1 hW9 => Lib.hid (by
          have hrow := (hsh ra' W9 h1 hW9).1
          have e : gone ++ [p] ++ r = gone ++ p :: r := by simp
          refine ⟨hrow, ?_, by rw [sfs_append]; exact hno, ?_, by rw [e]; exact hI.few, by rw [e]; exact hI.len⟩
          · have := hI.all
            rw [← this, sfs_append]
            simp [sfs]
          · have hlo := hI.row.lo
            have hgs := hgr.size
            rw [hW9, hV2]
            refine ⟨hgr.os.trans (hUb.os.trans hI.below.os), hgr.tape.trans (hUb.tape.trans hI.below.tape), hgr.output.trans (hUb.output.trans hI.below.output), by simp [World.setCell]; omega, fun q hq => ?_⟩
            rw [Below.heap_setCell _ _ _ _ (show q ≠ R by omega), Below.heap_setCell _ _ _ _ (show q ≠ R by omega)]
            exact (hgr.block q (by omega) (fun e => by have := (owns_bounds hgr0 e.symm).1; omega)).trans ((hUk q (by omega)).trans (hI.below.block q hq)))
        obtain ⟨SW, hSW⟩ : ∃ SW : World → Prop, SW = fun Z => Z.cell? ⟨R, 1, none⟩ = some (.slice (some ⟨H, o, none⟩) (n + 1) rc) ∧ Z.cell? ⟨H, o, none⟩ = some (.pointer (some ⟨p.1, 0, none⟩)) := ⟨_, rfl⟩
        have HSW := Lib.hid (fun (Z : World) (h : SW Z) => (show Z.cell? ⟨R, 1, none⟩ = some (.slice (some ⟨H, o, none⟩) (n + 1) rc) ∧ Z.cell? ⟨H, o, none⟩ = some (.pointer (some ⟨p.1, 0, none⟩)) by rw [hSW] at h; exact h))
        have hWH : W.heap[H]? = V.heap[H]? := (hgr.block H (by omega) (fun e => hI.row.gH (by rw [← hm]; exact e.symm))).trans (hUk H hHl)
        have c1V : V.cell? ⟨R, 1, none⟩ = some (.slice (some ⟨H, o, none⟩) (n + 1) rc) := by rw [cell_of_row _ _ _ _ _ _ hob]; rfl
        have hS0 : SW V.drew := by rw [hSW]; exact ⟨c1V, hpc⟩
        have hSU : SW U := by rw [hSW]; exact ⟨(World.cell?_of_block (a := ⟨R, 1, none⟩) (hUk R hRl)).trans c1V, (World.cell?_of_block (a := ⟨H, o, none⟩) (hUk H hHl)).trans hpc⟩
        have hSWW : SW W := by rw [hSW]; exact ⟨(World.cell?_of_block (a := ⟨R, 1, none⟩) hobW).trans c1V, (World.cell?_of_block (a := ⟨H, o, none⟩) hWH).trans hpc⟩
        have hS2 : SW V2 := by
          rw [hSW, hV2]
          refine ⟨(World.cell?_setCell_other _ _ _ _ (fun e => by have := congrArg Addr.off e; simp at this)).trans ((World.cell?_of_block (a := ⟨R, 1, none⟩) hobW).trans c1V), (World.cell?_setCell_other _ _ _ _ (fun e => by have := congrArg Addr.block e; exact hRH this)).trans ((World.cell?_of_block (a := ⟨H, o, none⟩) hWH).trans hpc)⟩
        have c0 : V.drew.cell? ⟨R, 0, none⟩ = some (.slice ga m gc) := by show V.cell? _ = _; rw [cell_of_row _ _ _ _ _ _ hob]; rfl
        have cU : U.cell? ⟨R, 0, none⟩ = some (.slice ga m gc) := by rw [cell_of_row _ _ _ _ _ _ ((hUk R hRl).trans hob)]; rfl
        have b7 : W.cell? ⟨R, 0, none⟩ = some (.slice ga m gc) := by rw [cell_of_row _ _ _ _ _ _ (hobW.trans hob)]; rfl
        have f7 : W.frozen? ⟨R, 0, none⟩ = false := frozen_of_row _ _ _ _ _ (hobW.trans hob)
        have d1 : V2.cell? ⟨R, 1, none⟩ = some (.slice (some ⟨H, o, none⟩) (n + 1) rc) := (by rw [hSW] at hS2; exact hS2.1)
        have d7 : V2.frozen? ⟨R, 1, none⟩ = false := by
          have h8 := heap_setCell_same W R 0 _ _ (.slice (some ⟨g, 0, none⟩) (m + 1) cap) (hobW.trans hob)
          rw [← hV2] at h8
          exact frozen_of_row _ _ _ _ _ h8
        have HSQ := Lib.hid (And.intro hS0 (And.intro hSU (And.intro hSWW hS2)))
        have HWC := Lib.hid (And.intro c0 cU)
        have HB7 := Lib.hid (And.intro b7 f7)
        have HD7 := Lib.hid (And.intro d1 d7)
        have HRUN := Lib.hid hrun
        have HU := Lib.hid hU
        have HV2 := Lib.hid hV2
        have HNX := Lib.hid (And.intro hnx (And.intro hn hcap))
        clear hnx hsh hobW hSW hWH c1V hS0 hSU hSWW hS2 c0 cU b7 f7 d1 d7 hrun hU hV2 hown hgr hat hlt9 h2U hgr0 hi0 hz0 hz1 hz2 hz3 hUk hUs hUn hUb hRl hHl hm9 hcs hpc hob hI hno hm hn hBs
        refine wp_calm ?_
        refine wp_region_held_drew (S := SW) (by kernel_rfl) HSQ.out.1 (fun hHeld => ?_)
        refine wpAnyH_take (i := 0) (oi := _) (v := .pointer (some ⟨R, 0, none⟩)) rfl (by kernel_rfl) (by kernel_rfl) (by kernel_rfl) (fun _ _ _ h => by cases h.1) (Or.inl ⟨by rfl, ?_⟩) (by assumption) ?_
        · clear hHeld; intro X hSw; obtain ⟨q0, q1⟩ := HSW.out X hSw; clear hSw; go_simp
        simp only [Act.put, List.getElem_toArray, List.getElem_cons_zero, List.getElem_cons_succ, List.setIfInBounds_toArray, List.set_cons_zero, List.set_cons_succ]
        refine wpAnyH_take (i := 1) (oi := _) (v := .pointer (some ⟨R, 0, none⟩)) rfl (by kernel_rfl) (by kernel_rfl) (by kernel_rfl) (fun _ _ _ h => by cases h.1) (Or.inl ⟨by rfl, ?_⟩) (by assumption) ?_
        · clear hHeld; intro X hSw; obtain ⟨q0, q1⟩ := HSW.out X hSw; clear hSw; go_simp
        simp only [Act.put, List.getElem_toArray, List.getElem_cons_zero, List.getElem_cons_succ, List.setIfInBounds_toArray, List.set_cons_zero, List.set_cons_succ]
        refine wpAnyH_take (i := 2) (oi := _) (v := .pointer (some ⟨R, 0, none⟩)) rfl (by kernel_rfl) (by kernel_rfl) (by kernel_rfl) (fun _ _ _ h => by cases h.1) (Or.inl ⟨by rfl, ?_⟩) (by assumption) ?_
        · clear hHeld; intro X hSw; obtain ⟨q0, q1⟩ := HSW.out X hSw; clear hSw; go_simp
        simp only [Act.put, List.getElem_toArray, List.getElem_cons_zero, List.getElem_cons_succ, List.setIfInBounds_toArray, List.set_cons_zero, List.set_cons_succ]
        refine wpAnyH_take (i := 3) (oi := _) (v := .pointer (some ⟨R, 0, none⟩)) rfl (by kernel_rfl) (by kernel_rfl) (by kernel_rfl) (fun _ _ _ h => by cases h.1) (Or.inl ⟨by rfl, ?_⟩) (by assumption) ?_
        · clear hHeld; intro X hSw; obtain ⟨q0, q1⟩ := HSW.out X hSw; clear hSw; go_simp
        simp only [Act.put, List.getElem_toArray, List.getElem_cons_zero, List.getElem_cons_succ, List.setIfInBounds_toArray, List.set_cons_zero, List.set_cons_succ]
        refine wpAnyH_take (i := 5) (oi := _) (v := .pointer (some ⟨R, 0, none⟩)) rfl (by kernel_rfl) (by kernel_rfl) (by kernel_rfl) (fun _ _ _ h => by cases h.1) (Or.inl ⟨by rfl, ?_⟩) (by assumption) ?_
        · clear hHeld; intro X hSw; obtain ⟨q0, q1⟩ := HSW.out X hSw; clear hSw; go_simp
        simp only [Act.put, List.getElem_toArray, List.getElem_cons_zero, List.getElem_cons_succ, List.setIfInBounds_toArray, List.set_cons_zero, List.set_cons_succ]
        refine wpAnyH_take (i := 6) (oi := _) (v := .pointer (some ⟨R, 0, none⟩)) rfl (by kernel_rfl) (by kernel_rfl) (by kernel_rfl) (fun _ _ _ h => by cases h.1) (Or.inl ⟨by rfl, ?_⟩) (by assumption) ?_
        · clear hHeld; intro X hSw; obtain ⟨q0, q1⟩ := HSW.out X hSw; clear hSw; go_simp
        simp only [Act.put, List.getElem_toArray, List.getElem_cons_zero, List.getElem_cons_succ, List.setIfInBounds_toArray, List.set_cons_zero, List.set_cons_succ]
        refine wpAnyH_take (i := 7) (oi := _) (v := .pointer (some ⟨R, 1, none⟩)) rfl (by kernel_rfl) (by kernel_rfl) (by kernel_rfl) (fun _ _ _ h => by cases h.1) (Or.inl ⟨by rfl, ?_⟩) (by assumption) ?_
        · clear hHeld; intro X hSw; obtain ⟨q0, q1⟩ := HSW.out X hSw; clear hSw; go_simp
        simp only [Act.put, List.getElem_toArray, List.getElem_cons_zero, List.getElem_cons_succ, List.setIfInBounds_toArray, List.set_cons_zero, List.set_cons_succ]
        refine wpAnyH_take (i := 8) (oi := _) (v := .slice (some ⟨H, o, none⟩) (n + 1) rc) rfl (by kernel_rfl) (by kernel_rfl) (by kernel_rfl) (fun _ _ _ h => by cases h.1) (Or.inl ⟨by rfl, ?_⟩) (by assumption) ?_
        · clear hHeld; intro X hSw; obtain ⟨q0, q1⟩ := HSW.out X hSw; clear hSw; go_simp
        simp only [Act.put, List.getElem_toArray, List.getElem_cons_zero, List.getElem_cons_succ, List.setIfInBounds_toArray, List.set_cons_zero, List.set_cons_succ]
        refine wpAnyH_take (i := 9) (oi := _) (v := .pointer (some ⟨H, o, none⟩)) rfl (by kernel_rfl) (by kernel_rfl) (by kernel_rfl) (fun _ _ _ h => by cases h.1) (Or.inl ⟨by rfl, ?_⟩) (by assumption) ?_
        · clear hHeld; intro X hSw; obtain ⟨q0, q1⟩ := HSW.out X hSw; clear hSw; go_simp
        simp only [Act.put, List.getElem_toArray, List.getElem_cons_zero, List.getElem_cons_succ, List.setIfInBounds_toArray, List.set_cons_zero, List.set_cons_succ]
        refine wpAnyH_take (i := 10) (oi := _) (v := .pointer (some ⟨p.1, 0, none⟩)) rfl (by kernel_rfl) (by kernel_rfl) (by kernel_rfl) (fun _ _ _ h => by cases h.1) (Or.inl ⟨by rfl, ?_⟩) (by assumption) ?_
        · clear hHeld; intro X hSw; obtain ⟨q0, q1⟩ := HSW.out X hSw; clear hSw; go_simp
        simp only [Act.put, List.getElem_toArray, List.getElem_cons_zero, List.getElem_cons_succ, List.setIfInBounds_toArray, List.set_cons_zero, List.set_cons_succ]
        refine wpAnyH_ready (rs := [4, 11]) (by kernel_rfl) (by simp) ?_
        refine AllReadyH.cons (o := _) rfl (fun K hK => ?_) (AllReadyH.cons (o := _) rfl (fun K hK => ?_) (AllReadyH.nil))
        · skip
          rw [if_pos (by rfl)]
          simp only [List.getElem_toArray, List.getElem_cons_zero, List.getElem_cons_succ]
          have HK := Lib.hid hK
          clear hK hHeld
          have l0 := HWC.out.1
          go_wp2_with fail
          refine HK.out _ _ HSQ.out.1 (fun hHeld => ?_)
          clear HK l0
          refine wpAnyH_ready (rs := [11]) (by kernel_rfl) (by simp) ?_
          refine AllReadyH.cons (o := _) rfl (fun K hK => ?_) (AllReadyH.nil)
          rw [if_pos (by rfl)]
          simp only [List.getElem_toArray, List.getElem_cons_zero, List.getElem_cons_succ]
          have HK := Lib.hid hK
          clear hK hHeld
          go_wp2_with fail
          rw [← HU.out]
          refine HK.out _ _ HSQ.out.2.1 (fun hHeld => ?_)
          clear HK
          refine wpAnyH_ready (rs := [12]) (by kernel_rfl) (by simp) ?_
          refine AllReadyH.cons (o := _) rfl (fun K hK => ?_) (AllReadyH.nil)
          refine step_append_runI rfl (.tmp 75) (.tmp 82) 58 58 rfl (.slice ga m gc) (.slice (some ⟨V.heap.size, 0, none⟩) 1 1) (by simp [Act.eval, Act.put]) (by simp [Act.eval, Act.put]) HRUN.out (hK _ _ HSQ.out.2.2.1 (fun hHeld => ?_))
          clear hK
          refine wpAnyH_take (i := 13) (oi := _) (v := .pointer (some ⟨R, 0, none⟩)) rfl (by kernel_rfl) (by kernel_rfl) (by kernel_rfl) (fun _ _ _ h => by cases h.1) (Or.inl ⟨by rfl, ?_⟩) (by assumption) ?_
          · clear hHeld; intro X hSw; clear hSw; go_simp
          simp only [Act.put, List.getElem_toArray, List.getElem_cons_zero, List.getElem_cons_succ, List.setIfInBounds_toArray, List.set_cons_zero, List.set_cons_succ]
          refine wpAnyH_take (i := 14) (oi := _) (v := .pointer (some ⟨R, 0, none⟩)) rfl (by kernel_rfl) (by kernel_rfl) (by kernel_rfl) (fun _ _ _ h => by cases h.1) (Or.inl ⟨by rfl, ?_⟩) (by assumption) ?_
          · clear hHeld; intro X hSw; clear hSw; go_simp
          simp only [Act.put, List.getElem_toArray, List.getElem_cons_zero, List.getElem_cons_succ, List.setIfInBounds_toArray, List.set_cons_zero, List.set_cons_succ]
          refine wpAnyH_ready (rs := [15]) (by kernel_rfl) (by simp) ?_
          refine AllReadyH.cons (o := _) rfl (fun K hK => ?_) (AllReadyH.nil)
          rw [if_pos (by rfl)]
          simp only [List.getElem_toArray, List.getElem_cons_zero, List.getElem_cons_succ]
          have HK := Lib.hid hK
          clear hK hHeld
          obtain ⟨b7, f7⟩ := HB7.out
          go_wp2_with fail
          rw [← HV2.out]
          refine HK.out _ _ HSQ.out.2.2.2 (fun hHeld => ?_)
          clear HK b7 f7
          refine wpAnyH_done (by kernel_rfl) ?_ _
          refine ⟨rfl, ?_⟩
          clear hHeld
          obtain ⟨d1, d7⟩ := HD7.out
          have hn0 : (0 : Int) ≤ (n : Int) + 1 := by omega
          go_wp2_with fail
          case inl h =>
            have HQ := HNX.out.1 (some ⟨H, o, none⟩) (V2.setCell ⟨R, 1, none⟩ (.slice (some ⟨H, o, none⟩) n 0)) (fun h0 => by have := HNX.out.2; omega) (by rw [h])
            go_roundg (n)
            case measure => have h5 := HO.out.2.2.2.2; rw [List.length_cons, ← HO.out.2.1] at h5; omega
            case rel => exact ⟨_, _, _, _, _, _, HNX.out.2.1, HQ⟩
          case inr h =>
            have HQ := HNX.out.1 (some ⟨H, o + 1, none⟩) (V2.setCell ⟨R, 1, none⟩ (.slice (some ⟨H, o + 1, none⟩) n (rc - 1))) (fun _ => rfl) rfl
            go_roundg (n)
            case measure => have h5 := HO.out.2.2.2.2; rw [List.length_cons, ← HO.out.2.1] at h5; omega
            case rel => exact ⟨_, _, _, _, _, _, HNX.out.2.1, HQ⟩
        · skip
          rw [if_pos (by rfl)]
          simp only [List.getElem_toArray, List.getElem_cons_zero, List.getElem_cons_succ]
          have HK := Lib.hid hK
          clear hK hHeld
          go_wp2_with fail
          rw [← HU.out]
          refine HK.out _ _ HSQ.out.2.1 (fun hHeld => ?_)
          clear HK
          refine wpAnyH_ready (rs := [4]) (by kernel_rfl) (by simp) ?_
          refine AllReadyH.cons (o := _) rfl (fun K hK => ?_) (AllReadyH.nil)
          rw [if_pos (by rfl)]
          simp only [List.getElem_toArray, List.getElem_cons_zero, List.getElem_cons_succ]
          have HK := Lib.hid hK
          clear hK hHeld
          have l0 := HWC.out.2
          go_wp2_with fail
          refine HK.out _ _ HSQ.out.2.1 (fun hHeld => ?_)
          clear HK l0
          refine wpAnyH_ready (rs := [12]) (by kernel_rfl) (by simp) ?_
          refine AllReadyH.cons (o := _) rfl (fun K hK => ?_) (AllReadyH.nil)
          refine step_append_runI rfl (.tmp 75) (.tmp 82) 58 58 rfl (.slice ga m gc) (.slice (some ⟨V.heap.size, 0, none⟩) 1 1) (by simp [Act.eval, Act.put]) (by simp [Act.eval, Act.put]) HRUN.out (hK _ _ HSQ.out.2.2.1 (fun hHeld => ?_))
          clear hK
          refine wpAnyH_take (i := 13) (oi := _) (v := .pointer (some ⟨R, 0, none⟩)) rfl (by kernel_rfl) (by kernel_rfl) (by kernel_rfl) (fun _ _ _ h => by cases h.1) (Or.inl ⟨by rfl, ?_⟩) (by assumption) ?_
          · clear hHeld; intro X hSw; clear hSw; go_simp
          simp only [Act.put, List.getElem_toArray, List.getElem_cons_zero, List.getElem_cons_succ, List.setIfInBounds_toArray, List.set_cons_zero, List.set_cons_succ]
          refine wpAnyH_take (i := 14) (oi := _) (v := .pointer (some ⟨R, 0, none⟩)) rfl (by kernel_rfl) (by kernel_rfl) (by kernel_rfl) (fun _ _ _ h => by cases h.1) (Or.inl ⟨by rfl, ?_⟩) (by assumption) ?_
          · clear hHeld; intro X hSw; clear hSw; go_simp
          simp only [Act.put, List.getElem_toArray, List.getElem_cons_zero, List.getElem_cons_succ, List.setIfInBounds_toArray, List.set_cons_zero, List.set_cons_succ]
          refine wpAnyH_ready (rs := [15]) (by kernel_rfl) (by simp) ?_
          refine AllReadyH.cons (o := _) rfl (fun K hK => ?_) (AllReadyH.nil)
          rw [if_pos (by rfl)]
          simp only [List.getElem_toArray, List.getElem_cons_zero, List.getElem_cons_succ]
          have HK := Lib.hid hK
          clear hK hHeld
          obtain ⟨b7, f7⟩ := HB7.out
          go_wp2_with fail
          rw [← HV2.out]
          refine HK.out _ _ HSQ.out.2.2.2 (fun hHeld => ?_)
          clear HK b7 f7
          refine wpAnyH_done (by kernel_rfl) ?_ _
          refine ⟨rfl, ?_⟩
          clear hHeld
          obtain ⟨d1, d7⟩ := HD7.out
          have hn0 : (0 : Int) ≤ (n : Int) + 1 := by omega
          go_wp2_with fail
          case inl h =>
            have HQ := HNX.out.1 (some ⟨H, o, none⟩) (V2.setCell ⟨R, 1, none⟩ (.slice (some ⟨H, o, none⟩) n 0)) (fun h0 => by have := HNX.out.2; omega) (by rw [h])
            go_roundg (n)
            case measure => have h5 := HO.out.2.2.2.2; rw [List.length_cons, ← HO.out.2.1] at h5; omega
            case rel => exact ⟨_, _, _, _, _, _, HNX.out.2.1, HQ⟩
          case inr h =>
            have HQ := HNX.out.1 (some ⟨H, o + 1, none⟩) (V2.setCell ⟨R, 1, none⟩ (.slice (some ⟨H, o + 1, none⟩) n (rc - 1))) (fun _ => rfl) rfl
            go_roundg (n)
            case measure => have h5 := HO.out.2.2.2.2; rw [List.length_cons, ← HO.out.2.1] at h5; omega
            case rel => exact ⟨_, _, _, _, _, _, HNX.out.2.1, HQ⟩
      clear hK12
      have HT := Lib.hid hT
      clear hT
      by_cases hm0 : m = 0
      · have hg : gone = [] := List.eq_nil_of_length_eq_zero (by rw [← HO.out.2.2.1]; exact hm0)
        have hmm : ¬ (0 : Int) ≤ (m : Int) - 1 := by omega
        have HG : Hid (NoFit (sfs gone ++ [p.2.sf])) := Lib.hid (by rw [hg]; exact NoFit.one _)
        clear hg hm0
        go_wp2_with fail
        exact HT.out _ _ _ _ _ _ _ _ _ _ _ _ _ _ _ _ _ _ _ _ _ _ _ _ _ _ _ _ _ _ _ _ _ _ _ _ _ _ _ _ _ _ _ _ _ _ _ _ _ _ _ _ _ _ _ _ _ _ _ _ _ _ _ _ _ _ _ _ _ _ _ _ _ _ _ _ _ _ _ _ _ _ _ _ wo ga gc gone p r hh.out HO.out.2.1 HG.out
      · obtain ⟨g0, pA, hg⟩ : ∃ g0 pA, gone = g0 ++ [pA] := ⟨gone.dropLast, gone.getLast (fun e => hm0 (by rw [HO.out.2.2.1, e]; rfl)), (List.dropLast_concat_getLast _).symm⟩
        subst hg
        obtain ⟨A, ha⟩ := pA
        obtain ⟨B, hb⟩ := p
        obtain ⟨q, hq⟩ : ∃ q, q = g0.length := ⟨_, rfl⟩
        have hmq : m = q + 1 := by rw [HO.out.2.2.1, hq]; simp
        have hmqi : (m : Int) - 1 = (q : Int) := by omega
        have hq0 : (0 : Int) ≤ (q : Int) := by omega
        have hqm : (q : Int) < (m : Int) := by omega
        have hI := hh.out
        have hgr := hI.row.grow
        rw [← HO.out.2.2.1] at hgr
        obtain ⟨G, gc2, e, hG0, hGl⟩ := hgr.form (by omega)
        cases e
        obtain ⟨o, ho, hpB⟩ := hI.row.hrow 0 (B, hb) rfl
        subst ho
        rw [Nat.add_zero] at hpB
        have hpA : wo.cell? ⟨G, q, none⟩ = some (.pointer (some ⟨A, 0, none⟩)) := owns_cell hgr rfl q _ (by simp [ptrs, hq, hptr])
        obtain ⟨cs, hcs⟩ := hI.row.hblk
        have hob := hI.row.obj
        have hRH : R ≠ H := ne_of_type hob hcs (by decide)
        have hGc : ∃ cur, wo.heap[G]? = some (.cells cur 43 (0, 0)) := own_typed hgr rfl
        obtain ⟨cur, hcur⟩ := hGc
        have hrow := hI.row.held
        have hapl : HP.apart (A, ha) (B, hb) := by
          have h1 := hrow.apart
          rw [List.append_assoc] at h1
          exact (List.pairwise_cons.1 (List.pairwise_append.1 h1).2.1).1 _ (List.mem_cons_self ..)
        have hmA : ((A, ha) : HP) ∈ g0 ++ [(A, ha)] ++ (B, hb) :: r := by simp
        have hmB : ((B, hb) : HP) ∈ g0 ++ [(A, ha)] ++ (B, hb) :: r := by simp
        have hbd : Below w0.heap.size w0 wo.drew := ⟨hI.below.os, hI.below.tape, hI.below.output, hI.below.size, hI.below.block⟩
        have hput := put_any (w0 := w0) (V := wo.drew) (A := A) (B := B) (ha := ha) (hb := hb) ⟨(hrow.held _ hmA).kept fun _ _ => rfl, (hrow.held _ hmB).kept fun _ _ => rfl, hbd, (hrow.ok _ hmA).1, (hrow.ok _ hmB).2, hapl⟩
        have hAn : ∀ x cs T fr, wo.heap[x]? = some (.cells cs T fr) → T ≠ 48 → T ≠ 27 → ¬ ha.own A x := fun x cs T fr h1 h2 h3 => (hrow.held _ hmA).ne_ptr h1 h2 h3
        obtain ⟨SW, hSW⟩ : ∃ SW : World → Prop, SW = fun Z => Z.cell? ⟨R, 0, none⟩ = some (.slice (some ⟨G, 0, none⟩) m gc) ∧ Z.cell? ⟨R, 1, none⟩ = some (.slice (some ⟨H, o, none⟩) (n + 1) rc) ∧ Z.cell? ⟨G, q, none⟩ = some (.pointer (some ⟨A, 0, none⟩)) ∧ Z.cell? ⟨H, o, none⟩ = some (.pointer (some ⟨B, 0, none⟩)) := ⟨_, rfl⟩
        have HSW := Lib.hid (fun (Z : World) (h : SW Z) => (show Z.cell? ⟨R, 0, none⟩ = some (.slice (some ⟨G, 0, none⟩) m gc) ∧ Z.cell? ⟨R, 1, none⟩ = some (.slice (some ⟨H, o, none⟩) (n + 1) rc) ∧ Z.cell? ⟨G, q, none⟩ = some (.pointer (some ⟨A, 0, none⟩)) ∧ Z.cell? ⟨H, o, none⟩ = some (.pointer (some ⟨B, 0, none⟩)) by rw [hSW] at h; exact h))
        have hS0 : SW wo.drew := by rw [hSW]; exact ⟨c0, c1, hpA, hpB⟩
        have hSt : ∀ Z ha', Turn w0 A ha ha' wo.drew Z → SW Z ∧ (Z.frozen? ⟨R, 0, none⟩ = false ∧ Z.frozen? ⟨R, 1, none⟩ = false ∧ Z.frozen? ⟨H, o, none⟩ = false) ∧ Below w0.heap.size w0 Z := fun Z ha' ht => by
          have eR : Z.heap[R]? = wo.heap[R]? := ht.turned.block _ (lt_of_heap hob) (hAn _ _ _ _ hob (by decide) (by decide))
          have eH : Z.heap[H]? = wo.heap[H]? := ht.turned.block _ (lt_of_heap hcs) (hAn _ _ _ _ hcs (by decide) (by decide))
          have eG : Z.heap[G]? = wo.heap[G]? := ht.turned.block _ hGl (hAn _ _ _ _ hcur (by decide) (by decide))
          rw [hSW]
          refine ⟨⟨(World.cell?_of_block (a := ⟨R, 0, none⟩) eR).trans c0, (World.cell?_of_block (a := ⟨R, 1, none⟩) eR).trans c1, (World.cell?_of_block (a := ⟨G, q, none⟩) eG).trans hpA, (World.cell?_of_block (a := ⟨H, o, none⟩) eH).trans hpB⟩, ⟨frozen_of_row _ _ _ _ _ (eR.trans hob), frozen_of_row _ _ _ _ _ (eR.trans hob), frozen_of_row _ _ _ _ _ (eH.trans hcs)⟩, ?_⟩
          refine ⟨ht.turned.os.trans hbd.os, ht.turned.tape.trans hbd.tape, ht.turned.output.trans hbd.output, Nat.le_trans hbd.size ht.turned.size, fun x hx => (ht.turned.block x (by have := hbd.size; omega) (fun e => ?_)).trans (hbd.block x hx)⟩
          have := ((hrow.held _ hmA).lt x e).1
          omega
        have hqc : q + 1 ≤ gc := by
          rcases hgr.2 with ⟨hv, _⟩ | ⟨_, _, _, hv, _, _, h3, _⟩
          · cases hv
          · cases hv; omega
        have HPUT := Lib.hid (And.intro hput (And.intro hSt (And.intro hmq (And.intro hq hI.row.rcap))))
        simp only [hptr] at HPUT
        rw [hmqi]
        have HS0 := Lib.hid hS0
        clear hput hSt hS0 hAn hbd hmA hmB hapl hrow hcur hob hcs hpA hpB hgr hI hG0 hGl c0 c1 hm0 hmq hmw hq
        clear hSW
        go_upto_region 5 with fail
        refine wp_calm ?_
        refine wp_region_held_drew (S := SW) (by kernel_rfl) HS0.out (fun hHeld => ?_)
        refine wpAnyH_take (i := 0) (oi := _) (v := .pointer (some ⟨R, 0, none⟩)) rfl (by kernel_rfl) (by kernel_rfl) (by kernel_rfl) (fun _ _ _ h => by cases h.1) (Or.inl ⟨by rfl, ?_⟩) (by assumption) ?_
        · clear hHeld; intro X hSw; obtain ⟨q0, q1, q2, q3⟩ := HSW.out X hSw; clear hSw; go_simp
        simp only [Act.put, List.getElem_toArray, List.getElem_cons_zero, List.getElem_cons_succ, List.setIfInBounds_toArray, List.set_cons_zero, List.set_cons_succ]
        refine wpAnyH_take (i := 1) (oi := _) (v := .pointer (some ⟨R, 0, none⟩)) rfl (by kernel_rfl) (by kernel_rfl) (by kernel_rfl) (fun _ _ _ h => by cases h.1) (Or.inl ⟨by rfl, ?_⟩) (by assumption) ?_
        · clear hHeld; intro X hSw; obtain ⟨q0, q1, q2, q3⟩ := HSW.out X hSw; clear hSw; go_simp
        simp only [Act.put, List.getElem_toArray, List.getElem_cons_zero, List.getElem_cons_succ, List.setIfInBounds_toArray, List.set_cons_zero, List.set_cons_succ]
        refine wpAnyH_take (i := 2) (oi := _) (v := .pointer (some ⟨R, 0, none⟩)) rfl (by kernel_rfl) (by kernel_rfl) (by kernel_rfl) (fun _ _ _ h => by cases h.1) (Or.inl ⟨by rfl, ?_⟩) (by assumption) ?_
        · clear hHeld; intro X hSw; obtain ⟨q0, q1, q2, q3⟩ := HSW.out X hSw; clear hSw; go_simp
        simp only [Act.put, List.getElem_toArray, List.getElem_cons_zero, List.getElem_cons_succ, List.setIfInBounds_toArray, List.set_cons_zero, List.set_cons_succ]
        refine wpAnyH_take (i := 3) (oi := _) (v := .slice (some ⟨G, 0, none⟩) m gc) rfl (by kernel_rfl) (by kernel_rfl) (by kernel_rfl) (fun _ _ _ h => by cases h.1) (Or.inl ⟨by rfl, ?_⟩) (by assumption) ?_
        · clear hHeld; intro X hSw; obtain ⟨q0, q1, q2, q3⟩ := HSW.out X hSw; clear hSw; go_simp
        simp only [Act.put, List.getElem_toArray, List.getElem_cons_zero, List.getElem_cons_succ, List.setIfInBounds_toArray, List.set_cons_zero, List.set_cons_succ]
        refine wpAnyH_take (i := 4) (oi := _) (v := .int .i64 (q : Int)) rfl (by kernel_rfl) (by kernel_rfl) (by kernel_rfl) (fun _ _ _ h => by cases h.1) (Or.inl ⟨by rfl, ?_⟩) (by assumption) ?_
        · clear hHeld; intro X hSw; obtain ⟨q0, q1, q2, q3⟩ := HSW.out X hSw; clear hSw; go_simp
        simp only [Act.put, List.getElem_toArray, List.getElem_cons_zero, List.getElem_cons_succ, List.setIfInBounds_toArray, List.set_cons_zero, List.set_cons_succ]
        refine wpAnyH_take (i := 5) (oi := _) (v := .pointer (some ⟨G, q, none⟩)) rfl (by kernel_rfl) (by kernel_rfl) (by kernel_rfl) (fun _ _ _ h => by cases h.1) (Or.inl ⟨by rfl, ?_⟩) (by assumption) ?_
        · clear hHeld; intro X hSw; obtain ⟨q0, q1, q2, q3⟩ := HSW.out X hSw; clear hSw; go_simp
        simp only [Act.put, List.getElem_toArray, List.getElem_cons_zero, List.getElem_cons_succ, List.setIfInBounds_toArray, List.set_cons_zero, List.set_cons_succ]
        refine wpAnyH_take (i := 6) (oi := _) (v := .pointer (some ⟨A, 0, none⟩)) rfl (by kernel_rfl) (by kernel_rfl) (by kernel_rfl) (fun _ _ _ h => by cases h.1) (Or.inl ⟨by rfl, ?_⟩) (by assumption) ?_
        · clear hHeld; intro X hSw; obtain ⟨q0, q1, q2, q3⟩ := HSW.out X hSw; clear hSw; go_simp
        simp only [Act.put, List.getElem_toArray, List.getElem_cons_zero, List.getElem_cons_succ, List.setIfInBounds_toArray, List.set_cons_zero, List.set_cons_succ]
        refine wpAnyH_take (i := 7) (oi := _) (v := .pointer (some ⟨R, 0, none⟩)) rfl (by kernel_rfl) (by kernel_rfl) (by kernel_rfl) (fun _ _ _ h => by cases h.1) (Or.inl ⟨by rfl, ?_⟩) (by assumption) ?_
        · clear hHeld; intro X hSw; obtain ⟨q0, q1, q2, q3⟩ := HSW.out X hSw; clear hSw; go_simp
        simp only [Act.put, List.getElem_toArray, List.getElem_cons_zero, List.getElem_cons_succ, List.setIfInBounds_toArray, List.set_cons_zero, List.set_cons_succ]
        refine wpAnyH_take (i := 8) (oi := _) (v := .pointer (some ⟨R, 0, none⟩)) rfl (by kernel_rfl) (by kernel_rfl) (by kernel_rfl) (fun _ _ _ h => by cases h.1) (Or.inl ⟨by rfl, ?_⟩) (by assumption) ?_
        · clear hHeld; intro X hSw; obtain ⟨q0, q1, q2, q3⟩ := HSW.out X hSw; clear hSw; go_simp
        simp only [Act.put, List.getElem_toArray, List.getElem_cons_zero, List.getElem_cons_succ, List.setIfInBounds_toArray, List.set_cons_zero, List.set_cons_succ]
        refine wpAnyH_take (i := 9) (oi := _) (v := .pointer (some ⟨R, 1, none⟩)) rfl (by kernel_rfl) (by kernel_rfl) (by kernel_rfl) (fun _ _ _ h => by cases h.1) (Or.inl ⟨by rfl, ?_⟩) (by assumption) ?_
        · clear hHeld; intro X hSw; obtain ⟨q0, q1, q2, q3⟩ := HSW.out X hSw; clear hSw; go_simp
        simp only [Act.put, List.getElem_toArray, List.getElem_cons_zero, List.getElem_cons_succ, List.setIfInBounds_toArray, List.set_cons_zero, List.set_cons_succ]
        refine wpAnyH_take (i := 10) (oi := _) (v := .slice (some ⟨H, o, none⟩) (n + 1) rc) rfl (by kernel_rfl) (by kernel_rfl) (by kernel_rfl) (fun _ _ _ h => by cases h.1) (Or.inl ⟨by rfl, ?_⟩) (by assumption) ?_
        · clear hHeld; intro X hSw; obtain ⟨q0, q1, q2, q3⟩ := HSW.out X hSw; clear hSw; go_simp
        simp only [Act.put, List.getElem_toArray, List.getElem_cons_zero, List.getElem_cons_succ, List.setIfInBounds_toArray, List.set_cons_zero, List.set_cons_succ]
        refine wpAnyH_take (i := 11) (oi := _) (v := .pointer (some ⟨H, o, none⟩)) rfl (by kernel_rfl) (by kernel_rfl) (by kernel_rfl) (fun _ _ _ h => by cases h.1) (Or.inl ⟨by rfl, ?_⟩) (by assumption) ?_
        · clear hHeld; intro X hSw; obtain ⟨q0, q1, q2, q3⟩ := HSW.out X hSw; clear hSw; go_simp
        simp only [Act.put, List.getElem_toArray, List.getElem_cons_zero, List.getElem_cons_succ, List.setIfInBounds_toArray, List.set_cons_zero, List.set_cons_succ]
        refine wpAnyH_take (i := 12) (oi := _) (v := .pointer (some ⟨B, 0, none⟩)) rfl (by kernel_rfl) (by kernel_rfl) (by kernel_rfl) (fun _ _ _ h => by cases h.1) (Or.inl ⟨by rfl, ?_⟩) (by assumption) ?_
        · clear hHeld; intro X hSw; obtain ⟨q0, q1, q2, q3⟩ := HSW.out X hSw; clear hSw; go_simp
        simp only [Act.put, List.getElem_toArray, List.getElem_cons_zero, List.getElem_cons_succ, List.setIfInBounds_toArray, List.set_cons_zero, List.set_cons_succ]
        refine wpAnyH_ready (rs := [13]) (by kernel_rfl) (by simp) ?_
        refine AllReadyH.cons (o := _) rfl (fun K hK => ?_) (AllReadyH.nil)
        rw [if_pos (by rfl)]
        simp only [List.getElem_toArray, List.getElem_cons_zero, List.getElem_cons_succ]
        have HK := Lib.hid hK
        clear hK hHeld
        go_wp2_with fail
        refine HPUT.out.1.mono ?_
        rintro e W ⟨ha', ht, hcase⟩
        obtain ⟨hSZ, hfz, hbZ⟩ := HPUT.out.2.1 W ha' ht
        have hcs : ∃ v, e = .returned (.tuple #[v, .bool (pairK ha.sf hb.sf).2]) := by
          rcases hcase with ⟨mm, h1, h2, h3⟩ | ⟨mm, h1, h2, h3⟩ | ⟨mm, h1, h2, h3⟩ | ⟨mm, ta, tc, h1, h2, h3, _⟩
          · exact ⟨_, by rw [h2, h3]⟩
          · exact ⟨_, by rw [h2, h3]⟩
          · exact ⟨_, by rw [h2, h3]⟩
          · exact ⟨_, by rw [h2, h3]⟩
        obtain ⟨v, rfl⟩ := hcs
        obtain ⟨b, hbb⟩ : ∃ b, b = (pairK ha.sf hb.sf).2 := ⟨_, rfl⟩
        rw [← hbb] at hcase ⊢
        have HZ := Lib.hid (And.intro ht (And.intro hcase (And.intro hbb (And.intro hfz (And.intro hbZ hSZ)))))
        clear ht hcase hbb hfz hbZ
        refine HK.out _ _ hSZ (fun hHeld => ?_)
        clear HK hSZ
        refine wpAnyH_take (i := 14) (oi := _) (v := .tuple #[v, .bool b]) rfl (by kernel_rfl) (by kernel_rfl) (by kernel_rfl) (fun _ _ _ h => by cases h.1) (Or.inl ⟨by rfl, ?_⟩) (by assumption) ?_
        · clear hHeld; intro X hSw; clear hSw; go_simp
        simp only [Act.put, List.getElem_toArray, List.getElem_cons_zero, List.getElem_cons_succ, List.setIfInBounds_toArray, List.set_cons_zero, List.set_cons_succ]
        refine wpAnyH_take (i := 15) (oi := _) (v := v) rfl (by kernel_rfl) (by kernel_rfl) (by kernel_rfl) (fun _ _ _ h => by cases h.1) (Or.inl ⟨by rfl, ?_⟩) (by assumption) ?_
        · clear hHeld; intro X hSw; clear hSw; go_simp
        simp only [Act.put, List.getElem_toArray, List.getElem_cons_zero, List.getElem_cons_succ, List.setIfInBounds_toArray, List.set_cons_zero, List.set_cons_succ]
        refine wpAnyH_take (i := 16) (oi := _) (v := .bool b) rfl (by kernel_rfl) (by kernel_rfl) (by kernel_rfl) (fun _ _ _ h => by cases h.1) (Or.inl ⟨by rfl, ?_⟩) (by assumption) ?_
        · clear hHeld; intro X hSw; clear hSw; go_simp
        simp only [Act.put, List.getElem_toArray, List.getElem_cons_zero, List.getElem_cons_succ, List.setIfInBounds_toArray, List.set_cons_zero, List.set_cons_succ]
        refine wpAnyH_take (i := 17) (oi := _) (v := v) rfl (by kernel_rfl) (by kernel_rfl) (by kernel_rfl) (fun _ _ _ h => by cases h.1) (Or.inl ⟨by rfl, ?_⟩) (by assumption) ?_
        · clear hHeld; intro X hSw; clear hSw; go_simp
        simp only [Act.put, List.getElem_toArray, List.getElem_cons_zero, List.getElem_cons_succ, List.setIfInBounds_toArray, List.set_cons_zero, List.set_cons_succ]
        refine wpAnyH_take (i := 18) (oi := _) (v := .bool b) rfl (by kernel_rfl) (by kernel_rfl) (by kernel_rfl) (fun _ _ _ h => by cases h.1) (Or.inl ⟨by rfl, ?_⟩) (by assumption) ?_
        · clear hHeld; intro X hSw; clear hSw; go_simp
        simp only [Act.put, List.getElem_toArray, List.getElem_cons_zero, List.getElem_cons_succ, List.setIfInBounds_toArray, List.set_cons_zero, List.set_cons_succ]
        refine wpAnyH_done (by kernel_rfl) ?_ _
        refine ⟨rfl, ?_⟩
        clear hHeld
        have hqs := HZ.out.2.2.2.2.2
        obtain ⟨c0, c1, cG, cH⟩ := HSW.out W hqs
        obtain ⟨f0, f1, fH⟩ := HZ.out.2.2.2.1
        clear hqs cG
        cases b with
        | false =>
          obtain ⟨mm, rfl⟩ : ∃ mm, ha' = ha.withM mm := by
            rcases HZ.out.2.1 with ⟨mm, h1, h2, h3⟩ | ⟨mm, h1, h2, h3⟩ | ⟨mm, h1, h2, h3⟩ | ⟨mm, ta, tc, h1, h2, h3, _⟩
            · exact ⟨mm, h1⟩
            · simp at h2
            · simp at h2
            · simp at h2
          have hI := hh.out
          have hI2 : Hid (RowI w0 W R (some ⟨G, 0, none⟩) gc H (some ⟨H, o, none⟩) rc (g0 ++ [(A, ha.withM mm)]) ((B, hb) :: r) l) := Lib.hid (by
            have hoA := (hI.row.held.ok (A, ha) (by simp)).1
            have hrw := hI.row.turn (P := g0) (Q := (B, hb) :: r) (A := A) (ha := ha) (ha' := ha.withM mm) (gone' := g0 ++ [(A, ha.withM mm)]) (rest' := (B, hb) :: r) (by simp) (by simp) (by simp) rfl HZ.out.1.undrew (ok_turn hoA mm)
            have es : sfs (g0 ++ [(A, ha.withM mm)]) = sfs (g0 ++ [(A, ha)]) := by rw [sfs_append, sfs_append]; rfl
            refine ⟨hrw, by rw [es]; exact hI.all, by rw [es]; exact hI.no, HZ.out.2.2.2.2.1, fun p hp => ?_, by have := hI.len; simpa using this⟩
            have hfew := hI.few
            rw [List.append_assoc] at hp hfew ⊢
            have hl : (g0 ++ ([(A, ha.withM mm)] ++ (B, hb) :: r)).length = (g0 ++ ([(A, ha)] ++ (B, hb) :: r)).length := by simp only [List.length_append, List.length_cons, List.length_nil]
            rw [hl]
            rcases List.mem_append.1 hp with h1 | h1
            · exact hfew p (List.mem_append_left _ h1)
            · rcases List.mem_cons.1 h1 with rfl | h1
              · exact hfew (A, ha) (List.mem_append_right _ (List.mem_cons_self ..))
              · exact hfew p (List.mem_append_right _ (List.mem_cons_of_mem _ h1)))
          have hno2 : Hid (NoFit (sfs (g0 ++ [(A, ha.withM mm)]) ++ [hb.sf])) := Lib.hid (by
            have es : sfs (g0 ++ [(A, ha.withM mm)]) = sfs g0 ++ [ha.sf] := by rw [sfs_append]; rfl
            have hno := hI.no
            rw [sfs_append] at hno
            rw [es]
            exact NoFit.snoc (by exact hno) HZ.out.2.2.1.symm)
          clear hI c0 c1 f0 f1 fH cH
          go_wp2_with fail
          exact HT.out _ _ _ _ _ _ _ _ _ _ _ _ _ _ _ _ _ _ _ _ _ _ _ _ _ _ _ _ _ _ _ _ _ _ _ _ _ _ _ _ _ _ _ _ _ _ _ _ _ _ _ _ _ _ _ _ _ _ _ _ _ _ _ _ _ _ _ _ _ _ _ _ _ _ _ _ _ _ _ _ _ _ _ _ W _ _ _ (B, hb) r hI2.out HO.out.2.1 hno2.out
        | true =>
          have hI := hh.out
          have hno : NoFit (sfs g0 ++ [ha.sf]) := by have := hI.no; rw [sfs_append] at this; exact this
          have hpt : (pairK ha.sf hb.sf).2 = true := HZ.out.2.2.1.symm
          have hln : l = sfs g0 ++ [ha.sf] ++ hb.sf :: sfs r := by rw [← hI.all, sfs_append]; rfl
          have honce : onceK l = (sfs g0 ++ (pairK ha.sf hb.sf).1 ++ sfs r, true) := by rw [hln]; exact once_here hno hpt
          have hfew := hI.few
          have hlen := hI.len
          have hcap := hI.row.rcap
          have hoA := (hI.row.held.ok (A, ha) (by simp)).1
          have hwB := (hI.row.held.ok (B, hb) (by simp)).2
          have hnr := HO.out.2.1
          have hlo := hI.row.lo
          have hRl := lt_of_heap hI.row.obj
          obtain ⟨cs2, hcs2⟩ := hI.row.hblk
          have hHl := lt_of_heap hcs2
          have hb2 : ∀ Y : World, (∀ x, x ≠ R → x ≠ H → Y.heap[x]? = W.heap[x]?) → Y.os = W.os ∧ Y.tape = W.tape ∧ Y.output = W.output ∧ Y.heap.size = W.heap.size → Below w0.heap.size w0 Y := fun Y h1 h2 => by
            have hbZ := HZ.out.2.2.2.2.1
            exact ⟨h2.1.trans hbZ.os, h2.2.1.trans hbZ.tape, h2.2.2.1.trans hbZ.output, by rw [h2.2.2.2]; exact hbZ.size, fun x hx => (h1 x (by omega) (by omega)).trans (hbZ.block x hx)⟩
          rw [List.append_assoc] at hfew hlen
          simp only [List.length_append, List.length_cons, List.length_nil] at hfew hlen
          rcases HZ.out.2.1 with ⟨mm, h1, h2, h3⟩ | ⟨mm, rfl, h2, h3⟩ | ⟨mm, rfl, h2, h3⟩ | ⟨mm, ta, tc, rfl, h2, h3, h4⟩
          · simp at h2
          · have hv : v = .pointer none := by simpa using h2
            subst hv
            have hrw := hI.row.turn (P := g0) (Q := (B, hb) :: r) (A := A) (ha := ha) (ha' := ha.withM mm) (gone' := g0 ++ [(A, ha.withM mm)]) (rest' := (B, hb) :: r) (by simp) (by simp) (by simp) rfl HZ.out.1.undrew (ok_turn hoA mm)
            obtain ⟨W1, hW1⟩ : ∃ W1, W1 = W.setCell ⟨R, 0, none⟩ (.slice (some ⟨G, 0, none⟩) q gc) := ⟨_, rfl⟩
            have hcut := hrw.cut HPUT.out.2.2.2.1 hW1
            obtain ⟨W2, hW2⟩ : ∃ W2, W2 = W1.setCell ⟨H, o, none⟩ (.pointer none) := ⟨_, rfl⟩
            have hend : ∀ ra', (0 < r.length → ra' = some ⟨H, o + 1, none⟩) → Hid (ShoC w0 R l w (.returned (.bool true)) (W2.setCell ⟨R, 1, none⟩ (.slice ra' n (rc - 1)))) := fun ra' hra => Lib.hid (by
              have hsk := hcut.skip rfl hra hnr (Or.inr hW2) rfl
              refine ⟨by rw [honce], _, _, _, _, _, g0, r, hsk, by rw [honce, h3]; simp, hno.left, hb2 _ (fun x hx1 hx2 => ?_) ⟨by rw [hW2, hW1]; rfl, by rw [hW2, hW1]; rfl, by rw [hW2, hW1]; rfl, by rw [hW2, hW1]; simp [World.setCell]⟩, fun p hp => ?_, by simp only [List.length_append]; omega⟩
              · rw [Below.heap_setCell _ _ _ _ hx1, hW2, Below.heap_setCell _ _ _ _ hx2, hW1, Below.heap_setCell _ _ _ _ hx1]
              · have := hfew p (by rcases List.mem_append.1 hp with h | h; exact List.mem_append_left _ h; exact List.mem_append_right _ (List.mem_append_right _ (List.mem_cons_of_mem _ h)))
                simp only [List.length_append]; omega)
            have HE := Lib.hid (And.intro hW1 (And.intro hW2 hcap))
            clear hrw hcut hW1 hW2 honce hfew hlen hoA hwB hnr hlo hb2 hI hno hpt hln h3 h2 hcs2
            have hn1 : n + 1 ≤ rc := by have := HE.out.2.2; have := HO.out.2.1; simp at *; omega
            go_wp2_with fail
            case inl h =>
              have e := (hend (some ⟨H, o, none⟩) (fun h0 => by have := HO.out.2.1; omega)).out
              rw [h] at e
              rw [← HE.out.1, ← HE.out.2.1]
              go_ret
              exact e
            case inr h =>
              have e := (hend (some ⟨H, o + 1, none⟩) (fun _ => rfl)).out
              rw [← HE.out.1, ← HE.out.2.1]
              go_ret
              exact e
          · have hv : v = .pointer (some ⟨B, 0, none⟩) := by simpa [hptr] using h2
            subst hv
            have hrw := hI.row.turn (P := g0) (Q := (B, hb) :: r) (A := A) (ha := ha) (ha' := ha.withM mm) (gone' := g0 ++ [(A, ha.withM mm)]) (rest' := (B, hb) :: r) (by simp) (by simp) (by simp) rfl HZ.out.1.undrew (ok_turn hoA mm)
            obtain ⟨W1, hW1⟩ : ∃ W1, W1 = W.setCell ⟨R, 0, none⟩ (.slice (some ⟨G, 0, none⟩) q gc) := ⟨_, rfl⟩
            have hcut := hrw.cut HPUT.out.2.2.2.1 hW1
            obtain ⟨W2, hW2⟩ : ∃ W2, W2 = W1.setCell ⟨H, o, none⟩ (.pointer (some ⟨B, 0, none⟩)) := ⟨_, rfl⟩
            have hend : Hid (ShoC w0 R l w (.returned (.bool true)) W2) := Lib.hid (by
              refine ⟨by rw [honce], _, _, _, _, _, g0, (B, hb) :: r, hcut.first (p' := (B, hb)) rfl hcut.held hW2, by rw [honce, h3]; simp [sfs], hno.left, hb2 _ (fun x hx1 hx2 => ?_) ⟨by rw [hW2, hW1]; rfl, by rw [hW2, hW1]; rfl, by rw [hW2, hW1]; rfl, by rw [hW2, hW1]; simp [World.setCell]⟩, fun p hp => ?_, by simp only [List.length_append, List.length_cons]; omega⟩
              · rw [hW2, Below.heap_setCell _ _ _ _ hx2, hW1, Below.heap_setCell _ _ _ _ hx1]
              · simp only [List.length_append, List.length_cons]
                rcases List.mem_append.1 hp with h | h
                · have := hfew p (List.mem_append_left _ h); omega
                · rcases List.mem_cons.1 h with rfl | h
                  · have := hfew (B, hb) (List.mem_append_right _ (List.mem_append_right _ (List.mem_cons_self ..))); omega
                  · have := hfew p (List.mem_append_right _ (List.mem_append_right _ (List.mem_cons_of_mem _ h))); omega)
            have HE := Lib.hid (And.intro hW1 hW2)
            clear hrw hcut hW1 hW2 honce hfew hlen hoA hwB hnr hlo hb2 hI hno hpt hln h3 h2 hcs2
            go_wp2_with fail
            rw [← HE.out.1, ← HE.out.2]
            go_ret
            exact hend.out
          · have hv : v = .pointer (some ⟨A, 0, none⟩) := by simpa [hptr] using h2
            subst hv
            have hfA := hfew (A, ha) (List.mem_append_right _ (List.mem_append_left _ (List.mem_singleton.2 rfl)))
            simp only at hfA
            have hrw := hI.row.turn (P := g0) (Q := (B, hb) :: r) (A := A) (ha := ha) (ha' := (ha.withM mm).withT hb.x ta tc) (gone' := g0 ++ [(A, (ha.withM mm).withT hb.x ta tc)]) (rest' := (B, hb) :: r) (by simp) (by simp) (by simp) rfl HZ.out.1.undrew (ok_text hoA hwB h4 (by omega))
            obtain ⟨W1, hW1⟩ : ∃ W1, W1 = W.setCell ⟨R, 0, none⟩ (.slice (some ⟨G, 0, none⟩) q gc) := ⟨_, rfl⟩
            have hcut := hrw.cut HPUT.out.2.2.2.1 hW1
            have hhr : HRow w0 W1 (g0 ++ (A, (ha.withM mm).withT hb.x ta tc) :: r) := by
              rw [hW1]
              refine HRow.far (hrw.held.sub ?_) hrw.obj (by decide) (by decide)
              rw [List.append_assoc]
              exact List.Sublist.append_left (List.Sublist.cons_cons _ (List.sublist_cons_self _ _)) _
            obtain ⟨W2, hW2⟩ : ∃ W2, W2 = W1.setCell ⟨H, o, none⟩ (.pointer (some ⟨A, 0, none⟩)) := ⟨_, rfl⟩
            have hend : Hid (ShoC w0 R l w (.returned (.bool true)) W2) := Lib.hid (by
              refine ⟨by rw [honce], _, _, _, _, _, g0, (A, (ha.withM mm).withT hb.x ta tc) :: r, hcut.first (p' := (A, (ha.withM mm).withT hb.x ta tc)) rfl hhr hW2, by rw [honce, h3]; simp [sfs], hno.left, hb2 _ (fun x hx1 hx2 => ?_) ⟨by rw [hW2, hW1]; rfl, by rw [hW2, hW1]; rfl, by rw [hW2, hW1]; rfl, by rw [hW2, hW1]; simp [World.setCell]⟩, fun p hp => ?_, by simp only [List.length_append, List.length_cons]; omega⟩
              · rw [hW2, Below.heap_setCell _ _ _ _ hx2, hW1, Below.heap_setCell _ _ _ _ hx1]
              · simp only [List.length_append, List.length_cons]
                rcases List.mem_append.1 hp with h | h
                · have := hfew p (List.mem_append_left _ h); omega
                · rcases List.mem_cons.1 h with rfl | h
                  · show (ha.ts ++ [hb.x]).length + _ ≤ _
                    rw [List.length_append, List.length_singleton]; omega
                  · have := hfew p (List.mem_append_right _ (List.mem_append_right _ (List.mem_cons_of_mem _ h))); omega)
            have HE := Lib.hid (And.intro hW1 hW2)
            clear hhr hfA hrw hcut hW1 hW2 honce hfew hlen hoA hwB hnr hlo hb2 hI hno hpt hln h3 h2 hcs2
            go_wp2_with fail
            rw [← HE.out.1, ← HE.out.2]
            go_ret
            exact hend.out
end Go.Proofs.Ytpbjncljecfaeaa
