/-
  What is written on a builder of a call's own: where the new row lies, and what else is as it was. No condition but that the text is not too long.
-/
import Derived.Test.YteccnekdmehloaaDoorEClone
import Derived.Test.YteccnekdmehloaaDoorShelf
import Derived.OwnWalk
namespace Go.Proofs.YteccnekdmehloaaDoor
open Go.RowKit Go.Shelf
attribute [local go_sem] Oper.semAt_some
set_option linter.unusedVariables false
set_option linter.unusedSimpArgs false

section
variable {P : Program}
theorem run_append_string_at (w : World) (base : Nat) (t u ty e : TypeId) (i : TypeInfo) (ht : P.underlying t = some (.slice e)) (hu : P.underlying u = some .string) (hi : P.info? e = some i) (hz : i.zero = some (.int .u8 0)) (hsize : i.size = 1) (hby : i.bytes = 1)
    (v : Value) (n : Nat) (xs : List Value) (hown : w.ownsRow base e 1 v n xs) (s : ByteArray) (h63 : n + s.size ≤ maxLen) (hbytes : n + s.size ≤ 140737488355328) (hbase : base ≤ w.heap.size) :
    ∃ v' w', (Builtin.append_ #[t, u] ty #[v, .string s]).run P w = .ok v' w' ∧ w'.ownsRow base e 1 v' (n + s.size) (xs ++ Lib.strCells s) ∧ w.grownBy w' v.ownBlock ∧ (v'.ownBlock = v.ownBlock ∨ ∀ g, v'.ownBlock = some g → w.heap.size ≤ g) := by
  obtain ⟨v', w', hr, h1, h2, _⟩ := Lib.run_append_own_string (P := P) w base t u ty e i ht hu hi hz hsize hby v n xs hown s h63 hbytes hbase
  refine ⟨v', w', hr, h1, h2, ?_⟩
  rcases hown.2 with ⟨rfl, rfl⟩ | ⟨g, cap, cur, rfl, hbg, hg, hnc, hcm, hcs, htake⟩
  · obtain ⟨v2, w2, hr2, k1, _, _⟩ := Lib.run_append_own_string (P := P) w w.heap.size t u ty e i ht hu hi hz hsize hby (.slice none 0 0) 0 [] (World.ownsRow_nil w _ e 1) s h63 hbytes (Nat.le_refl _)
    rw [hr] at hr2
    cases hr2
    right
    intro g hg
    rcases k1.2 with ⟨hv, _⟩ | ⟨g', cap, cur, hv, hb, _⟩
    · rw [hv] at hg; cases hg
    · rw [hv] at hg; cases hg; exact hb
  · by_cases hroom : n + s.size ≤ cap
    · have hr2 := Lib.run_append_room_string (P := P) w t u ty e i ht hu hi hsize g n cap cur hg s hroom (by omega)
      rw [hr] at hr2
      cases hr2
      left; rfl
    · have hxl : xs.length = n := by simpa using hown.1
      have hr2 := Lib.run_append_grow_string (P := P) w t u ty e i (.int .u8 0) ht hu hi hz ⟨g, 0, none⟩ n cap xs (by rw [hsize]; simpa using hxl) (hown.cells (g := g) rfl) s (by omega) (by simp only [maxLen] at h63; omega) (by rw [hby]; exact growslice_fits (by omega) (by omega))
      rw [hr] at hr2
      cases hr2
      right
      intro g' hg'
      cases hg'
      exact Nat.le_refl _
theorem wpList_string_at {w : World} {ops : Array Oper} {rest : List Oper} {o : Oper} {a : Act} {Q : Exit → Act → World → Prop} (hgd : o.guard = none) (sl x : Operand) (t u : TypeId)
    (ho : o.op = .call { callee := .builtin .append, args := #[sl, x], argTypes := #[t, u] })
    (base : Nat) (e : TypeId) (i : TypeInfo) (ht : P.underlying t = some (.slice e)) (hu : P.underlying u = some .string) (hi : P.info? e = some i) (hz : i.zero = some (.int .u8 0)) (hsize : i.size = 1) (hby : i.bytes = 1)
    (v : Value) (n : Nat) (xs : List Value) (hs : a.eval sl = v) (hown : w.ownsRow base e 1 v n xs) (s : ByteArray) (hx : a.eval x = .string s)
    (h63 : n + s.size ≤ maxLen) (hbytes : n + s.size ≤ 140737488355328) (hbase : base ≤ w.heap.size)
    (h : ∀ v' w', w'.ownsRow base e 1 v' (n + s.size) (xs ++ Lib.strCells s) → w.grownBy w' v.ownBlock → (v'.ownBlock = v.ownBlock ∨ ∀ g, v'.ownBlock = some g → w.heap.size ≤ g) → wpList P ops Q rest (a.put o.dst v') w') : wpList P ops Q (o :: rest) a w := by
  refine wpList_plain hgd fun K hK => ?_
  obtain ⟨v', w', hr, h2, h3, h4⟩ := run_append_string_at (P := P) w base t u o.type e i ht hu hi hz hsize hby v n xs hown s h63 hbytes hbase
  unfold Oper.wp execOp
  simp only [ho, resolve, invoke, builtin, Sem.run_bind, Sem.run_pure, Result.andThen_ok, List.map_toArray, List.map_cons, List.map_nil, hs, hx, hr]
  exact hK _ _ (h v' w' h2 h3 h4)
end

/-- A builder of a call's own: what it holds, and that its row is none of T. -/
structure Bld (B b : Nat) (T : Nat → Prop) (l : List UInt8) (w : World) : Prop where
  lo : B ≤ b
  at_ : ∃ p v, (p = .pointer none ∨ p = .pointer (some ⟨b, 0, none⟩)) ∧ w.heap[b]? = some (.cells #[p, v] 66 (0, 0)) ∧ w.ownsRow B 5 1 v l.length (Lib.byteCells l) ∧ ∀ g, v.ownBlock = some g → ¬ T g ∧ g < w.heap.size
theorem grownBy_touched {w w' : World} {r : Option Nat} (h : w.grownBy w' r) : Touched w w' (fun x => r = some x) := ⟨h.os, h.tape, h.output, h.size, fun k hk hn => h.block k hk (fun e => hn e.symm)⟩
theorem Bld.is {B b : Nat} {T : Nat → Prop} {l : List UInt8} {w : World} (h : Bld B b T l w) : Lib.IsBuilder 66 5 B b (Lib.byteCells l) w := by
  obtain ⟨p, v, hp, hb, ho, hT⟩ := h.at_
  have hl : (Lib.byteCells l).length = l.length := Lib.byteCells_length l
  have hne : v.ownBlock ≠ some b := fun e => by
    rcases ho.2 with ⟨hv, _⟩ | ⟨g, cap, cur, hv, _, hh, _⟩
    · rw [hv] at e; cases e
    · rw [hv] at e; cases e
      rw [hb] at hh; cases hh
  rcases hp with rfl | rfl
  · exact .inl ⟨h.lo, v, hb, by rw [hl]; exact ho, hne⟩
  · exact .inr ⟨h.lo, v, hb, by rw [hl]; exact ho, hne⟩
/-- Where the builder's own blocks are as they were. -/
theorem Bld.kept {B b : Nat} {T T' : Nat → Prop} {l : List UInt8} {w w' : World} (h : Bld B b T l w) (hs : w.heap.size ≤ w'.heap.size) (hb : w'.heap[b]? = w.heap[b]?) (hk : ∀ g cur fr, w.heap[g]? = some (.cells cur 5 fr) → ¬ T g → w'.heap[g]? = w.heap[g]?) (hT : ∀ x, T' x → T x ∨ w.heap.size ≤ x) : Bld B b T' l w' := by
  obtain ⟨p, v, hp, hb0, ho, hTg⟩ := h.at_
  exact ⟨h.lo, p, v, hp, hb.trans hb0, owns_kept ho (fun g cur hg hv => hk g cur _ hg (hTg g hv).1), fun g hg => ⟨fun e => by
    have := hTg g hg
    rcases hT g e with h1 | h1
    · exact this.1 h1
    · omega, by have := hTg g hg; omega⟩⟩
theorem copyCheck_at (b : Nat) (p v : Value) (w : World) (hp : p = .pointer none ∨ p = .pointer (some ⟨b, 0, none⟩)) (hb : w.heap[b]? = some (.cells #[p, v] 66 (0, 0))) :
    Calls Tryd.prog 53 #[.pointer (some ⟨b, 0, none⟩)] w fun e w' => e = .returned (.tuple #[]) ∧ w'.heap[b]? = some (.cells #[.pointer (some ⟨b, 0, none⟩), v] 66 (0, 0)) ∧ Touched w w' (fun x => x = b) := by
  rcases hp with rfl | rfl
  · refine (Any.Builder_copyCheck_fresh Tryd.lays240 Tryd.Builder_X72_240 b w (by rw [Lib.cell_of_heap hb]; rfl) (by simp [World.shape?, hb]; rfl) (Lib.frozen_of_heap hb 0)).mono ?_
    rintro e w' ⟨rfl, rfl⟩
    exact ⟨rfl, by simp [World.setCell, Array.getElem?_modify, hb], Touched.setCell (S := fun x => x = b) (a := ⟨b, 0, none⟩) rfl _⟩
  · refine (Any.Builder_copyCheck_used Tryd.lays240 Tryd.Builder_X72_240 b w (by rw [Lib.cell_of_heap hb]; rfl)).mono ?_
    rintro e w' ⟨rfl, rfl⟩
    exact ⟨rfl, hb, Touched.refl _ _⟩
set_option maxHeartbeats 2000000 in
set_option maxRecDepth 100000 in
theorem write_any (B b : Nat) (T : Nat → Prop) (l : List UInt8) (s : ByteArray) (w : World) (h : Bld B b T l w) (hT : ∀ x, T x → x < w.heap.size) (hlen : l.length + s.size ≤ 140737488355328) :
    Calls Tryd.prog 33 #[.pointer (some ⟨b, 0, none⟩), .string s] w fun e w' => e = .returned (.tuple #[.int .i64 s.size, .nilIface]) ∧ Bld B b T (l ++ s.data.toList) w' ∧ ∃ g, Touched w w' (fun x => x = b ∨ g = some x) ∧ ∀ x, g = some x → ¬ T x ∧ B ≤ x ∧ ∃ cur fr, w.heap[x]? = some (.cells cur 5 fr) := by
  obtain ⟨p, v, hp, hb, ho, hTg⟩ := h.at_
  have hlo := h.lo
  have hbl := lt_of_heap hb
  obtain ⟨i0, hi, hz0, hz1, hz2⟩ := info_parts Tryd.Builder_Extra_166.infoByte
  have hi' : Tryd.prog.info? 5 = some i0 := hi
  have hcc := copyCheck_at b p v w hp hb
  go_enter Tryd.func33, Tryd.ntmps33
  go_wp2_with (go_at_call 53; refine hcc.mono ?_)
  rintro e w1 ⟨rfl, hb1, ht1⟩
  have hgt : ∀ g, v.ownBlock = some g → ∃ cur fr, w.heap[g]? = some (.cells cur 5 fr) := fun g hg => by
    obtain ⟨cur, hc⟩ := own_typed ho hg; exact ⟨cur, _, hc⟩
  have hgb : ∀ g, v.ownBlock = some g → g ≠ b := fun g hg e => by
    obtain ⟨cur, fr, hc⟩ := hgt g hg
    rw [e, hb] at hc; cases hc
  have ho1 : w1.ownsRow B 5 1 v l.length (Lib.byteCells l) := owns_kept ho (fun g cur hg hv => ht1.block g (lt_of_heap hg) (hgb g hv))
  have c0 : w1.cell? ⟨b, 0, none⟩ = some (.pointer (some ⟨b, 0, none⟩)) := by rw [Lib.cell_of_heap hb1]; rfl
  have c1 : w1.cell? ⟨b, 1, none⟩ = some v := by rw [Lib.cell_of_heap hb1]; rfl
  go_wp2_with (at_builtin; refine wpList_string_at rfl _ _ 22 9 rfl B 5 i0 Tryd.underlying22 Tryd.underlying9 hi' hz0 hz1 hz2 _ _ _ rfl ho1 s rfl ?c3 ?c4 ?c5 ?_)
  case c3 => unfold maxLen; omega
  case c4 => omega
  case c5 => have := ht1.size; omega
  intro v' w2 hown' hgrow hwh
  have hb2 : w2.heap[b]? = some (.cells #[.pointer (some ⟨b, 0, none⟩), v] 66 (0, 0)) := by
    rw [hgrow.block b (lt_of_heap hb1) (fun e => hgb b e.symm rfl)]
    exact hb1
  have d0 : w2.cell? ⟨b, 0, none⟩ = some (.pointer (some ⟨b, 0, none⟩)) := by rw [Lib.cell_of_heap hb2]; rfl
  have d1 : w2.cell? ⟨b, 1, none⟩ = some v := by rw [Lib.cell_of_heap hb2]; rfl
  have f1 : w2.frozen? ⟨b, 1, none⟩ = false := Lib.frozen_of_heap hb2 1
  obtain ⟨ao, n', cap, rfl⟩ : ∃ ao n' cap, v' = .slice ao n' cap := by
    rcases hown'.2 with ⟨hv, _⟩ | ⟨g, cap, cur, hv, _⟩
    · exact ⟨_, _, _, hv⟩
    · exact ⟨_, _, _, hv⟩
  have hgl' : ∀ g, (Value.slice ao n' cap).ownBlock = some g → g < w2.heap.size ∧ g ≠ b := fun g hg => by
    obtain ⟨cur, hc⟩ := own_typed hown' hg
    exact ⟨lt_of_heap hc, fun e => by rw [e, hb2] at hc; cases hc⟩
  go_wp2
  go_ret2
  have hl : (l ++ s.data.toList).length = l.length + s.size := by simp
  refine ⟨rfl, ⟨hlo, _, .slice ao n' cap, .inr rfl, ?_, ?_, ?_⟩, v.ownBlock, ?_, ?_⟩
  · simp [World.setCell, Array.getElem?_modify, hb2]
  · rw [hl, show Lib.byteCells (l ++ s.data.toList) = Lib.byteCells l ++ Lib.strCells s by simp [Lib.byteCells, Lib.strCells]]
    exact owns_kept hown' (fun g cur hg hv => Below.heap_setCell _ _ _ _ (hgl' g hv).2)
  · intro g hg
    have h1 := (hgl' g hg).1
    refine ⟨fun hTx => ?_, by simpa [World.setCell] using h1⟩
    rcases hwh with hwh | hwh
    · exact (hTg g (hwh ▸ hg)).1 hTx
    · have := hwh g hg; have := hT g hTx; have := ht1.size; omega
  · refine ((ht1.mono (fun x hx => Or.inl hx)).trans (S' := fun x => x = b ∨ v.ownBlock = some x) ?_ (fun k hk => Or.inl hk))
    exact ((grownBy_touched hgrow).mono (fun x hx => Or.inr hx)).trans (Touched.setCell (S := fun x => x = b ∨ v.ownBlock = some x) (a := ⟨b, 1, none⟩) (Or.inl rfl) _) (fun k hk => Or.inl hk)
  · intro x hx
    refine ⟨(hTg x hx).1, ?_, hgt x hx⟩
    rcases ho.2 with ⟨hv, _⟩ | ⟨g, cap, cur, hv, hB, _⟩
    · rw [hv] at hx; cases hx
    · rw [hv] at hx; cases hx; exact hB
/-- What a builder holds is read. -/
theorem read_any (B b : Nat) (T : Nat → Prop) (l : List UInt8) (w : World) (h : Bld B b T l w) (hB : B ≤ w.heap.size) :
    Calls Tryd.prog 38 #[.pointer (some ⟨b, 0, none⟩)] w fun e w' => e = .returned (.string ⟨l.toArray⟩) ∧ Below B w w' ∧ Lib.OthersKept 5 (some b) w w' :=
  (Tryd.Builder_String_any_k B b l w (Lib.IsBuilderF.of h.is) hB).mono fun e w' h => ⟨h.1, h.2.2⟩
end Go.Proofs.YteccnekdmehloaaDoor
