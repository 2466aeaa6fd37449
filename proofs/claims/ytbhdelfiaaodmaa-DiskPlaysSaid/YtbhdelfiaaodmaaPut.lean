/-
  What put does.
-/
import Derived.Test.YtbhdelfiaaodmaaArm
import Derived.Test.YtbhdelfiaaodmaaBlk
import Derived.Deep.RegionHeld3
import Derived.Deep.RegionLaw
import Derived.Deep.DrawnRows
import Derived.Deep.DeepCutAuto
import Derived.Deep.AppendLies
namespace Go.Proofs.Ytbhdelfiaaodmaa
open Go.RowKit
open Extern.Stop (cell)

/-- Behind the append in 'put': the write is in the row of writes; the map is as it was. -/
def PutMid (w : World) (B db : Nat) (X : List Value) (mv : Value) (m : Nat) (xs : List Value) (a d : Bool) (k : Int) (wc : World) : Prop :=
  ∃ v2 : Value, Below B w wc ∧ Stays w wc ∧ w.heap.size < wc.heap.size ∧ wc.heap[db]? = some (.cells #[mv, v2, .bool a, .int .i64 k, .bool d] 49 (0, 0)) ∧
    wc.ownsRow B 54 65 v2 (m + 1) (xs ++ X) ∧ blk wc w.heap.size = X.toArray ∧ ∀ (mb : Nat) (es : Array MapEntry) (c : Nat), w.heap[mb]? = some (.map es c) → wc.heap[mb]? = some (.map es c)

theorem put_mid {w w1 : World} {B db : Nat} {X : List Value} {mv v : Value} {m : Nat} {xs : List Value} {a d : Bool} {k : Int} {gg cap : Nat}
    (hb : w.heap[db]? = some (.cells #[mv, v, .bool a, .int .i64 k, .bool d] 49 (0, 0))) (ho : w.ownsRow B 54 65 v m xs) (hB : B ≤ db)
    (hown1 : w1.ownsRow B 54 65 (.slice (some ⟨gg, 0, none⟩) (m + 1) cap) (m + 1) (xs ++ X))
    (hgrow : ((w.alloc (Obj.cells X.toArray 54)).alloc (Obj.cells X.toArray 54)).drew.grownBy w1 v.ownBlock) :
    PutMid w B db X mv m xs a d k (w1.setCell ⟨db, 1, none⟩ (.slice (some ⟨gg, 0, none⟩) (m + 1) cap)) := by
  have lg := lt_of_heap hb
  have hne : ∀ g cur, w.heap[g]? = some (.cells cur 54 (0, 0)) → g ≠ db := fun g cur hg e => by subst e; rw [hb] at hg; cases hg
  have hrow : ∀ g, v.ownBlock = some g → ∃ cur, w.heap[g]? = some (.cells cur 54 (0, 0)) := fun g hg => by
    rcases ho.2 with ⟨hv, _⟩ | ⟨g', cap', cur, hv, _, hh, _⟩
    · rw [hv] at hg; cases hg
    · rw [hv] at hg; cases hg; exact ⟨cur, hh⟩
  have old : ∀ b, b < w.heap.size → some b ≠ v.ownBlock → w1.heap[b]? = w.heap[b]? := fun b hb' hn => by
    rw [hgrow.block b (by simp; omega) hn, heap2_old w _ _ b hb']
  have hdb : w1.heap[db]? = some (.cells #[mv, v, .bool a, .int .i64 k, .bool d] 49 (0, 0)) := by
    rw [old db lg (fun e => by obtain ⟨cur, hc⟩ := hrow db e.symm; exact hne db cur hc rfl)]; exact hb
  have hsz : w.heap.size + 2 ≤ w1.heap.size := by have := hgrow.size; simp at this; omega
  have hgg : ∃ cur, w1.heap[gg]? = some (.cells cur 54 (0, 0)) := owns_block hown1
  have hgd : gg ≠ db := fun e => by subst e; obtain ⟨cur, hc⟩ := hgg; rw [hdb] at hc; cases hc
  refine ⟨.slice (some ⟨gg, 0, none⟩) (m + 1) cap, ?_, ?_, ?_, ?_, ?_, ?_, ?_⟩
  · have h1 : Below B w ((w.alloc (Obj.cells X.toArray 54)).alloc (Obj.cells X.toArray 54)).drew := (((Below.refl B w).alloc (by omega) _).alloc (by simp; omega) _).drew
    exact (h1.grown hgrow (by simp; omega) (fun g hg => (ho.lt g hg).1)).setCell hB _
  · have h1 : Stays w ((w.alloc (Obj.cells X.toArray 54)).alloc (Obj.cells X.toArray 54)).drew := (((Stays.refl w).alloc _).alloc _).drew
    exact (h1.grown hgrow (fun g hg => by obtain ⟨cur, hc⟩ := hrow g hg; exact ⟨_, (heap2_old w _ _ g (lt_of_heap hc)).trans hc, rfl⟩)).setCell ⟨_, hdb, rfl⟩ _
  · simp [World.setCell]; omega
  · rw [heap_setCell_same w1 db 1 _ _ _ hdb]; rfl
  · exact owns_kept hown1 (fun g cur hc _ => Below.heap_setCell _ _ _ _ (fun e => by subst e; rw [hdb] at hc; cases hc))
  · rw [blk_setCell_other _ _ _ _ (by show w.heap.size ≠ db; omega)]
    rw [blk_grown hgrow _ (by simp; omega) (fun e => by have := (ho.lt _ e.symm).2; omega)]
    rw [blk_drew, blk_alloc_old _ _ _ (by simp)]
    exact blk_alloc_new _ _ _ _ rfl
  · intro mb es c hm
    rw [Below.heap_setCell _ _ _ _ (show mb ≠ db from fun e => by subst e; rw [hb] at hm; cases hm)]
    rw [old mb (lt_of_heap hm) (fun e => by obtain ⟨cur, hc⟩ := hrow mb e.symm; rw [hm] at hc; cases hc)]
    exact hm

theorem step_delete {P : Program} {w : World} {ops : Array Oper} {o : Oper} {a : Act} {K : Act → World → Prop} {Q : Exit → Act → World → Prop} {E : Prop} (hgd : o.guard = none) (m x : Operand) (t k : TypeId)
    (hop : o.op = Op.call { callee := Callee.builtin Builtin.delete, args := #[m, x], argTypes := #[t, k] }) (mv key : Value) (hm : a.eval m = mv) (hx : a.eval x = key) (w' : World)
    (hr : (Builtin.delete_ #[t, k] o.type #[mv, key]).run P w = .ok (.tuple #[]) w') (hK : K (a.put o.dst (.tuple #[])) w') :
    if Region.wanted o (yielded ops a.tmps) = true then Oper.wp P o a w K Q else E := by
  have hw : Region.wanted o (yielded ops a.tmps) = true := by simp [Region.wanted, hgd]
  rw [if_pos hw]
  unfold Oper.wp
  simp [execOp, hop, resolve, invoke, builtin, hm, hx, hr, Result.andThen]
  exact hK

theorem sect_snoc (l : List Wr) (x : Wr) (n : Int) : sect (l ++ [x]) n = if x.n = n then x.d else sect l n := by simp [sect]
theorem rowOf_snoc (l : List Wr) (x : Wr) : rowOf (l ++ [x]) = rowOf l ++ x.cells := by simp [rowOf]
def St.add (s : St) (x : Wr) : St := { s with l := s.l ++ [x] }
theorem keyI (n : Int) (h0 : 0 ≤ n) (h1 : n < 2049) : keyOf Try.prog 3 (.int .i64 n) = some (.int .i64 n) := Maps.keyOf_int_mk Try.underlying3 (WalkArith.wf_i64 (by omega))
theorem keyedI : Maps.Keyed Try.prog 3 := Maps.int_keyed Try.underlying3

theorem oneCell_cells (x : Wr) : ∀ u ∈ x.cells, u.oneCell' = true := by
  intro u hu
  simp only [Wr.cells, List.mem_cons, List.mem_map] at hu
  rcases hu with rfl | ⟨b, _, rfl⟩ <;> rfl
theorem length_cells {x : Wr} (h : x.good) : x.cells.length = 65 := by simp [Wr.cells, h.1]

/-- What 'put' leaves. -/
def PutEnd (w : World) (B db : Nat) (s : St) (x : Wr) (w' : World) : Prop := DiskAt w' B db (s.add x) ∧ Below B w w' ∧ Stays w w'

section
variable {w wc : World} {B db : Nat} {s : St} {x : Wr} {mv : Value}
theorem end_map {w' : World} {mb : Nat} {D : DataW Value} (h : PutMid w B db x.cells mv s.l.length (rowOf s.l) s.armed s.down s.left wc) (hx : x.good) (hl : ∀ y ∈ s.l, y.good) (hB : B ≤ db)
    (mb0 : mv = .map (some mb)) (hBm : B ≤ mb) (hD : w'.ownsMap Try.prog 3 heldV mb (s.l.length + 1) D) (hat : ∀ n : Int, 0 ≤ n → n < 2049 → D.atKey (.int .i64 n) (.held (secV zeros)) = .held (secV (sect (s.l ++ [x]) n)))
    (ht : wc.drew.mapTurned w' mb) : PutEnd w B db s x w' := by
  subst mb0
  obtain ⟨v2, hBel, hSt, hsz, hdb, hown, hblk, hmaps⟩ := h
  have hg := ht.grown
  have hmo : ∃ es c, wc.heap[mb]? = some (.map es c) := by obtain ⟨es, c, _, _, hm, _⟩ := ht; exact ⟨es, c, hm⟩
  have hne : mb ≠ db := fun e => by obtain ⟨es, c, hm⟩ := hmo; subst e; rw [hdb] at hm; cases hm
  refine ⟨⟨hB, .map (some mb), v2, ?_, ?_, ?_, ?_⟩, ?_, ?_⟩
  · rw [hg.block db (lt_of_heap hdb) (fun e => hne (by cases e; rfl))]; exact hdb
  · simp only [St.add, List.length_append, List.length_cons, List.length_nil, rowOf_snoc]
    exact owns_kept hown (fun g cur hc _ => hg.block g (lt_of_heap hc) (fun e => by obtain ⟨es, c, hm⟩ := hmo; cases e; rw [hc] at hm; cases hm))
  · intro y hy; simp only [St.add, List.mem_append, List.mem_singleton] at hy; rcases hy with hy | rfl; exact hl y hy; exact hx
  · exact Or.inr ⟨mb, D, rfl, hBm, by simpa [St.add] using hD, hat⟩
  · exact hBel.drew.grown hg (by have := lt_of_heap hdb; rw [heap_drew]; omega) (fun j e => by cases e; exact hBm)
  · exact (Stays.drew hSt).grown hg (fun j e => by cases e; obtain ⟨es, c, hm⟩ := hmo; exact ⟨_, hm, rfl⟩)

theorem end_made {w' : World} {D : DataW Value} (h : PutMid w B db x.cells (.map none) s.l.length (rowOf s.l) s.armed s.down s.left wc) (hx : x.good) (hl : ∀ y ∈ s.l, y.good) (hB : B ≤ db)
    (hD : w'.ownsMap Try.prog 3 heldV wc.heap.size (s.l.length + 1) D) (hat : ∀ n : Int, 0 ≤ n → n < 2049 → D.atKey (.int .i64 n) (.held (secV zeros)) = .held (secV (sect (s.l ++ [x]) n)))
    (ht : ((wc.setCell ⟨db, 0, none⟩ (.map (some wc.heap.size))).alloc (.map #[] 0)).drew.mapTurned w' wc.heap.size) : PutEnd w B db s x w' := by
  obtain ⟨v2, hBel, hSt, hsz, hdb, hown, hblk, hmaps⟩ := h
  have hg := ht.grown
  have hlt := lt_of_heap hdb
  have hsz1 : (wc.setCell ⟨db, 0, none⟩ (.map (some wc.heap.size))).heap.size = wc.heap.size := by simp [World.setCell]
  have old : ∀ k, k < wc.heap.size → w'.heap[k]? = (wc.setCell ⟨db, 0, none⟩ (.map (some wc.heap.size))).heap[k]? := fun k hk => by
    rw [hg.block k (by rw [heap_drew]; simp [hsz1]; omega) (fun e => by cases e; omega), heap_drew, Below.heap_alloc _ _ _ (by rw [hsz1]; exact hk)]
  refine ⟨⟨hB, .map (some wc.heap.size), v2, ?_, ?_, ?_, ?_⟩, ?_, ?_⟩
  · rw [old db hlt, heap_setCell_same wc db 0 _ _ _ hdb]; rfl
  · simp only [St.add, List.length_append, List.length_cons, List.length_nil, rowOf_snoc]
    exact owns_kept hown (fun g cur hc _ => by rw [old g (lt_of_heap hc), Below.heap_setCell _ _ _ _ (show g ≠ db from fun e => by subst e; rw [hdb] at hc; cases hc)])
  · intro y hy; simp only [St.add, List.mem_append, List.mem_singleton] at hy; rcases hy with hy | rfl; exact hl y hy; exact hx
  · exact Or.inr ⟨wc.heap.size, D, rfl, by omega, by simpa [St.add] using hD, hat⟩
  · exact (((hBel.setCell hB _).alloc (by rw [hsz1]; omega) _).drew).grown hg (by rw [heap_drew]; simp [hsz1]; omega) (fun j e => by cases e; omega)
  · intro k o hk ho
    have h1 := hSt k o hk ho
    rw [old k (lt_of_heap h1), Below.heap_setCell _ _ _ _ (show k ≠ db from fun e => by subst e; rw [hdb] at h1; cases h1; cases ho)]
    exact h1

theorem key_ne {a b : Int} (h : a ≠ b) : (Lit.int .i64 a) ≠ Lit.int .i64 b := fun e => h (by cases e; rfl)
theorem end_put {D : DataW Value} {LA : Array Value} (hat : ∀ n : Int, 0 ≤ n → n < 2049 → D.atKey (.int .i64 n) (.held (secV zeros)) = .held (secV (sect s.l n))) (hLA : LA = (x.d.map cell).toArray) (hD : Maps.IsMap D) :
    ∀ n : Int, 0 ≤ n → n < 2049 → (D.put (.int .i64 x.n) (.held (.agg LA))).atKey (.int .i64 n) (.held (secV zeros)) = .held (secV (sect (s.l ++ [x]) n)) := fun n h0 h1 => by
  rw [sect_snoc]
  by_cases e : x.n = n
  · subst e; rw [if_pos rfl, Maps.atKey_put_same hD (show WideAt.IsKeyLit (.int .i64 _) from trivial), hLA]; rfl
  · rw [if_neg e, Maps.atKey_put_other (key_ne (Ne.symm e))]; exact hat n h0 h1
theorem end_del {D : DataW Value} (hat : ∀ n : Int, 0 ≤ n → n < 2049 → D.atKey (.int .i64 n) (.held (secV zeros)) = .held (secV (sect s.l n))) (hz : x.d = zeros) :
    ∀ n : Int, 0 ≤ n → n < 2049 → (D.del (.int .i64 x.n)).atKey (.int .i64 n) (.held (secV zeros)) = .held (secV (sect (s.l ++ [x]) n)) := fun n h0 h1 => by
  rw [sect_snoc]
  by_cases e : x.n = n
  · subst e; rw [if_pos rfl, Maps.atKey_del_same, hz]
  · rw [if_neg e, Maps.atKey_del_other (key_ne (Ne.symm e))]; exact hat n h0 h1
/-- no map, a sector of 0s -/
theorem end_nil_zero (h : PutMid w B db x.cells mv s.l.length (rowOf s.l) s.armed s.down s.left wc) (hx : x.good) (hl : ∀ y ∈ s.l, y.good) (hB : B ≤ db) (hz : x.d = zeros) (hm : mv = .map none) (hsec : ∀ n, sect s.l n = zeros) : PutEnd w B db s x wc.drew := by
  subst hm
  obtain ⟨v2, hBel, hSt, hsz, hdb, hown, hblk, hmaps⟩ := h
  refine ⟨⟨hB, .map none, v2, hdb, ?_, ?_, ?_⟩, hBel.drew, hSt.drew⟩
  · simp only [St.add, List.length_append, List.length_cons, List.length_nil, rowOf_snoc]; exact hown
  · intro y hy; simp only [St.add, List.mem_append, List.mem_singleton] at hy; rcases hy with hy | rfl; exact hl y hy; exact hx
  · refine Or.inl ⟨rfl, fun n => ?_⟩
    simp only [St.add, sect_snoc, hsec, hz]; split <;> rfl
end

attribute [local go_sem ↓] Go.wp_at_zero Go.wp_at_succ loadW loadS loadWS wpLoadW wpLoadS wpLoadWS buildWs wpBuildWs buildS0 wpBuildS0 headB_ptr isAt_ptr aggC_agg isAggOf_agg

set_option maxRecDepth 100000 in
set_option maxHeartbeats 2000000 in
theorem put_any (w : World) (B db : Nat) (s : St) (x : Wr) (h : DiskAt w B db s) (hx : x.good) (hm : s.l.length ≤ 100000) :
    Calls Try.prog 24 #[.pointer (some ⟨db, 0, none⟩), .agg x.cells.toArray] w fun e w' => e = .returned (.tuple #[]) ∧ PutEnd w B db s x w' := by
  obtain ⟨mv, v, hmap, ho, c0, c1, c2, c3, c4, hf⟩ := h.cells
  have hb := h.cellsAt c0 c1
  have hgood : ∀ y ∈ s.l, y.good := by obtain ⟨_, _, _, _, _, hg, _⟩ := h; exact hg
  have hBd : B ≤ db := h.1
  have f1 := hf 1
  clear h c0 c2 c3 c4 hf
  have hB : B ≤ w.heap.size := Nat.le_trans hBd (Nat.le_of_lt (lt_of_heap hb))
  have lg := lt_of_heap hb
  have hne : v.ownBlock ≠ some db := fun e => by
    rcases ho.2 with ⟨hv, _⟩ | ⟨g', cap', cur, hv, _, hh, _⟩
    · rw [hv] at e; cases e
    · rw [hv] at e; cases e; rw [hb] at hh; cases hh
  have HB := Lib.hid hb
  clear hb
  obtain ⟨i0, z0, hi0, hz0, hz1, hz2, hz3⟩ := info_wide Try.infoW
  obtain ⟨X, hX⟩ : ∃ X, X = x.cells := ⟨_, rfl⟩
  have hXl : X.length = 65 := by rw [hX]; exact length_cells hx
  have hX1 : ∀ u ∈ X, u.oneCell' = true := by rw [hX]; exact oneCell_cells x
  obtain ⟨m, hmm⟩ : ∃ m, m = s.l.length := ⟨_, rfl⟩
  obtain ⟨xs, hxs⟩ : ∃ xs, xs = rowOf s.l := ⟨_, rfl⟩
  rw [← hX]
  rw [← hmm, ← hxs] at ho
  rw [← hmm] at hm
  have HX := Lib.hid hX; clear hX
  have HM := Lib.hid hmm; clear hmm
  have HXS := Lib.hid hxs; clear hxs
  have HGOOD := Lib.hid hgood; clear hgood
  have HMAP := Lib.hid hmap; clear hmap
  have hvw : some w.heap.size ≠ v.ownBlock := fun e => by have := (ho.lt _ e.symm).2; omega
  go_enter Try.func24, Try.ntmps24
  go_upto_region 1 with fail
  go_cut [] (fun wc => PutMid w B db X mv m xs s.armed s.down s.left wc)
  case rest =>
    have HC := Lib.hid hcut
    obtain ⟨v2, hBel, hSt, hsz, hdb, hown, hblk, hmaps⟩ := hcut
    have c0 : wc.cell? ⟨db, 0, none⟩ = some mv := by simp [cell_of_row wc db _ _ _ _ hdb]
    have f0 : wc.frozen? ⟨db, 0, none⟩ = false := frozen_of_row wc db 0 _ _ hdb
    have hq : (blk wc w.heap.size)[0]? = some (.int .i64 x.n) := by rw [hblk, HX.out]; rfl
    have cn := blk_cell _ hq
    have hs65 : (blk wc w.heap.size).size = 65 := by rw [hblk]; simpa using hXl
    have hext : (blk wc w.heap.size).extract 1 65 = (x.d.map cell).toArray := by
      rw [hblk, HX.out]; simp [Wr.cells]; rw [List.take_of_length_le (by simp [hx.1])]
    have heq := fun (W : World) => run_eql_bytes (P := Try.prog) W 52 5 64 Try.underlying52 Try.underlying5 (fun W' => by kernel_rfl) x.d zeros hx.1 (by simp [zeros])
    obtain ⟨LA, hLA⟩ : ∃ LA, LA = (x.d.map cell).toArray := ⟨_, rfl⟩
    rw [← hLA] at hext heq
    have hqg := fun (W : World) (o1 o2 : Operand) => run_eqGuard_agg (P := Try.prog) (w := W) .eql 52 o1 o2 LA (zeros.map cell).toArray Try.eqGuardType52
    change ∀ (W : World), (binOp .eql 52 (.agg LA) (secV zeros)).run Try.prog W = .ok (.bool (x.d == zeros)) W at heq
    change ∀ (W : World) (o1 o2 : Operand), (eqGuard .eql 52 o1 o2 (.agg LA) (secV zeros)).run Try.prog W = .ok () W at hqg
    have HLA := Lib.hid hLA
    have HMS := Lib.hid hmaps
    have HDB := Lib.hid hdb
    have hlt : db < wc.heap.size := lt_of_heap hdb
    have HN0 := Lib.hid (And.intro hx.2.1 hx.2.2)
    have HGX := Lib.hid hx
    have HBD := Lib.hid hBd
    have HNE : Hid (w.heap.size ≠ db) := show w.heap.size ≠ db by omega
    clear hq hblk hLA hmaps hdb hown hBel hSt c1 f1 lg ho hne hvw hX1 hXl hi0 hz0 hz1 hz2 hz3 hx hBd hB
    have qm := fun (W : World) (r : Option Nat) => run_eql_map_nil (P := Try.prog) W _ _ _ r Try.underlying46
    have HG := Lib.hid (show PutMid w B db x.cells mv s.l.length (rowOf s.l) s.armed s.down s.left wc by have := HC.out; rw [HX.out, HM.out, HXS.out] at this; exact this)
    have HMW : ∀ mb D, MapIs w B mv s.l → w.ownsMap Try.prog 3 heldV mb m D → wc.ownsMap Try.prog 3 heldV mb m D := fun mb D _ ho' => by
      obtain ⟨es, clock, hb', F, hs', hD⟩ := ho'
      exact ⟨es, clock, HMS.out mb es clock hb', F, hs', hD⟩
    have HMW' := Lib.hid HMW
    clear HMW
    cases hzz : (x.d == zeros)
    · have HZ := Lib.hid hzz
      rw [hzz] at heq
      clear hzz
      rcases HMAP.out with ⟨rfl, hsec⟩ | ⟨mb, D, rfl, hBm, hmo, hat⟩
      · have HSEC := Lib.hid hsec
        clear hsec
        have hmk := @run_makeMap Try.prog
        have hsz1 : (wc.setCell ⟨db, 0, none⟩ (.map (some wc.heap.size))).heap.size = wc.heap.size := by simp [World.setCell]
        have hmo' := World.ownsMap_made (wc.setCell ⟨db, 0, none⟩ (.map (some wc.heap.size))) Try.prog 3 heldV
        rw [hsz1] at hmo'
        obtain ⟨w3, hup, hD3, ht3⟩ := World.ownsMap.store (w := ((wc.setCell ⟨db, 0, none⟩ (.map (some wc.heap.size))).alloc (.map #[] 0)).drew) (hmo'.drew) keyedI Try.underlying46 (by unfold maxLen; omega) (keyI x.n HN0.out.1 HN0.out.2) (val := .agg LA) rfl
        have HE := Lib.hid (And.intro hD3 ht3)
        have hbk : blk ((wc.setCell ⟨db, 0, none⟩ (.map (some wc.heap.size))).alloc (.map #[] 0)) w.heap.size = blk wc w.heap.size := by
          rw [blk_alloc_old _ _ _ (by rw [hsz1]; exact hsz), blk_setCell_other _ _ _ _ HNE.out]
        have hcn2 : (wc.setCell ⟨db, 0, none⟩ (.map (some wc.heap.size))).cell? ⟨w.heap.size, 0, none⟩ = some (.int .i64 x.n) := (World.cell?_of_block (Below.heap_setCell _ _ _ _ HNE.out)).trans cn
        clear hmo' hD3 ht3 hsz1
        go_wp2_with fail
        go_region
        all_goals go_wp2
        all_goals go_end0
        all_goals exact ⟨rfl, end_made HG.out HGX.out HGOOD.out HBD.out (HE.out.1.mono (by omega)) (end_put (fun n _ _ => by rw [HSEC.out n]; rfl) HLA.out Maps.isMap_empty) HE.out.2⟩
      · have HAT := Lib.hid hat
        have HBM := Lib.hid hBm
        have hmo' := HMW'.out mb D HMAP.out (by rw [HM.out]; exact hmo)
        obtain ⟨w3, hup, hD3, ht3⟩ := World.ownsMap.store (w := wc.drew) (hmo'.drew) keyedI Try.underlying46 (by unfold maxLen; omega) (keyI x.n HN0.out.1 HN0.out.2) (val := .agg LA) rfl
        have HE := Lib.hid (And.intro hD3 ht3)
        have HIM := Lib.hid hmo'.isMap
        clear hat hBm hmo hmo' hD3 ht3
        go_wp2_with fail
        go_region
        all_goals go_wp2
        all_goals go_end0
        all_goals exact ⟨rfl, end_map HG.out HGX.out HGOOD.out HBD.out rfl HBM.out (by have := HE.out.1; rw [HM.out] at this; exact this) (end_put HAT.out HLA.out HIM.out) HE.out.2⟩
    · have HZ := Lib.hid hzz
      rw [hzz] at heq
      clear hzz
      rcases HMAP.out with ⟨rfl, hsec⟩ | ⟨mb, D, rfl, hBm, hmo, hat⟩
      · have HSEC := Lib.hid hsec
        clear hsec
        have hdel : Hid ((Builtin.delete_ #[46, 3] 0 #[.map none, .int .i64 x.n]).run Try.prog wc.drew = .ok (.tuple #[]) wc.drew) := Maps.drop_nil keyedI Try.underlying46 (keyI x.n HN0.out.1 HN0.out.2) 0
        go_wp2_with fail
        go_region_law
          ((refine step_delete (by rfl) _ _ _ _ (by rfl) (.map none) (.int .i64 x.n) (by rfl) (by rfl) wc.drew hdel.out ?_))
        all_goals go_wp2
        all_goals exact bodyPost_ret (v := .tuple #[]) (results_none rfl _ _ _) rfl ⟨rfl, end_nil_zero HG.out HGX.out HGOOD.out HBD.out (by simpa using HZ.out) rfl HSEC.out⟩
      · have HAT := Lib.hid hat
        have HBM := Lib.hid hBm
        have hmo' := HMW'.out mb D HMAP.out (by rw [HM.out]; exact hmo)
        obtain ⟨w3, hdl, hD3, ht3⟩ := World.ownsMap.drop (w := wc.drew) (hmo'.drew) keyedI Try.underlying46 (keyI x.n HN0.out.1 HN0.out.2) 0
        have HE := Lib.hid (And.intro hdl (And.intro hD3 ht3))
        clear hat hBm hmo hmo' hdl hD3 ht3
        go_wp2_with fail
        go_region_law
          ((refine step_delete (by rfl) _ _ _ _ (by rfl) (.map (some mb)) (.int .i64 x.n) (by rfl) (by rfl) w3 HE.out.1 ?_))
        all_goals go_wp2
        all_goals exact bodyPost_ret (v := .tuple #[]) (results_none rfl _ _ _) rfl ⟨rfl, end_map HG.out HGX.out HGOOD.out HBD.out rfl HBM.out (by have := HE.out.2.1; rw [HM.out] at this; exact this.mono (Nat.le_succ _)) (end_del HAT.out (by simpa using HZ.out)) HE.out.2.2⟩
  have hr : blk (w.alloc (Obj.cells X.toArray 54)) w.heap.size = X.toArray := blk_alloc_new _ _ _ _ rfl
  have HN : Hid (((w.alloc (Obj.cells X.toArray 54)).alloc (Obj.cells X.toArray 54)).drew.heap[w.heap.size + 1]? = some (Obj.cells X.toArray 54 (0, 0))) := heap_alloc2_new w _ _
  have c1a : ((w.alloc (Obj.cells X.toArray 54)).alloc (Obj.cells X.toArray 54)).drew.cell? ⟨db, 1, none⟩ = some v := (cell2_old _ _ _ _ _ lg).trans c1
  have f1a : ((w.alloc (Obj.cells X.toArray 54)).alloc (Obj.cells X.toArray 54)).drew.frozen? ⟨db, 1, none⟩ = false := (frozen2_old _ _ _ _ _ lg).trans f1
  have hdb2 : (⟨db, 1, none⟩ : Addr).block < ((w.alloc (Obj.cells X.toArray 54)).alloc (Obj.cells X.toArray 54)).drew.heap.size := by simp; omega
  go_region_law
    ((refine step_append_lies _ (by rfl) _ _ _ (by rfl) B 54 i0 z0 65 72 Try.underlying47 hi0 hz0 hz1 hz2 hz3 (by omega) v m xs (by rfl) (((ho.alloc _).alloc _).drew)
        ⟨w.heap.size + 1, 0, none⟩ 1 1 X (by rfl) (by simpa using hXl) (World.news_of_block (cs := X.toArray) (t := 54) (fr := (0, 0)) HN.out) hX1
        (by omega) (by unfold maxLen; omega) (by omega) (by simp; omega) (w.heap.size + 2) (by simp) ?_; intro gg cap w1 hown1 hgrow hat hlt; have c1w := (hgrow.cell_far _ hdb2 (Ne.symm hne)).trans c1a; have f1w := (hgrow.frozen_far _ hdb2 (Ne.symm hne)).trans f1a))
  all_goals (go_wp2_with fail; go_meet; exact put_mid HB.out ho hBd hown1 hgrow)

end Go.Proofs.Ytbhdelfiaaodmaa
