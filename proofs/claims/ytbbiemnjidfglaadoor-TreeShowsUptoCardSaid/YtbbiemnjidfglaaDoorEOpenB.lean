/-
  What came in as trees: its numbers fit, and its texts together are no longer than its bulk. No condition.
-/
import Derived.Test.YtbbiemnjidfglaaDoorEOpen
import Derived.Test.YtbbiemnjidfglaaDoorRShowW
namespace Go.Proofs.YtbbiemnjidfglaaDoor
open Go.ChangeShapes Go.WideShapes Go.ChangeAt Go.RowKit
set_option linter.unusedVariables false

/-- The bytes of all texts. -/
def foTxt : Fo → Nat
  | .nil => 0
  | .node _ _ k l r => k.2.2.size + foTxt l + foTxt r
def trTxt (t : Tr) : Nat := t.text.size + foTxt t.kids
theorem txt_of {H : Type} : ∀ (l : List Tr) (ds : List (DataW H)), List.length l = ds.length → (∀ (i : Nat) (u : Tr) (d : DataW H), l[i]? = some u → ds[i]? = some d → trTxt u ≤ Rows.uptoBulk d) → foTxt (foOf l) ≤ Rows.uptoBulkAll ds
  | [], [], _, _ => Nat.zero_le _
  | t :: l, d :: ds, hl, h => by
    have h0 := h 0 t d rfl rfl
    have h1 := txt_of l ds (by simpa using hl) (fun i u e hu he => h (i + 1) u e (by simpa using hu) (by simpa using he))
    simp only [foOf, foTxt, Rows.uptoBulkAll]
    unfold trTxt at h0
    omega
  | [], _ :: _, hl, _ => by simp at hl
  | _ :: _, [], hl, _ => by simp at hl
theorem i64F_of : ∀ l : List Tr, (∀ t ∈ l, i64T t) → i64F (foOf l)
  | [], _ => True.intro
  | t :: l, h => ⟨(h t (List.mem_cons_self ..)).1, (h t (List.mem_cons_self ..)).2, i64F_of l fun u hu => h u (List.mem_cons_of_mem _ hu)⟩
theorem wf_i64 {n : Int} (h : (Lit.int .i64 n).wf = true) : I64 n := by
  simp only [Lit.wf, Bool.and_eq_true, decide_eq_true_eq] at h
  have e1 : IntKind.i64.min = -9223372036854775808 := rfl
  have e2 : IntKind.i64.max = 9223372036854775807 := rfl
  unfold I64
  omega

section
variable {H : Type} {enc : TypeId × Value → H} {w : World} {base : Nat} {spare : Nat → Bool} {held : Bool}

set_option maxRecDepth 100000 in
set_option maxHeartbeats 1000000 in
theorem open_nodeB : ∀ (fuel : Nat) (cs : List Value) (x : DataW H × List MemPlace), DataW.trod enc Tryd.prog w base spare held fuel 24 cs = some x →
    ∃ (t : Tr) (ka : Option Addr) (cap : Nat), cs = [.int .i64 t.id, .int .i64 t.kind, .string t.text, .slice ka (foLen t.kids) cap] ∧ foLen t.kids ≤ cap ∧ FoAt w (Old w) t.kids ka ∧ Fits t ∧ i64T t ∧ trTxt t ≤ Rows.uptoBulk x.1 := by
  intro fuel
  induction fuel using Nat.strongRecOn with
  | ind fuel ih =>
    intro cs x h
    obtain ⟨xs, n, hn, hx, hl, hlen, hf⟩ := DataW.trod_struct Tryd.underlying24 h
    have h4 : Tryd.prog.cellsOf 24 = 4 := by kernel_rfl
    rw [h4] at hl
    match cs, hl with
    | [c0, c1, c2, c3], _ =>
      have k1 : Tryd.prog.cellsOf 3 = 1 := by kernel_rfl
      have k2 : Tryd.prog.cellsOf 9 = 1 := by kernel_rfl
      have k3 : Tryd.prog.cellsOf 22 = 1 := by kernel_rfl
      match xs, hlen with
      | [y0, y1, y2, y3], _ =>
        have t0 : DataW.trod enc Tryd.prog w base spare held n 3 (([c0, c1, c2, c3].drop 0).take (Tryd.prog.cellsOf 3)) = some y0 := hf 0 _ rfl
        have t1 : DataW.trod enc Tryd.prog w base spare held n 3 (([c0, c1, c2, c3].drop 1).take (Tryd.prog.cellsOf 3)) = some y1 := hf 1 _ rfl
        have t2 : DataW.trod enc Tryd.prog w base spare held n 9 (([c0, c1, c2, c3].drop 2).take (Tryd.prog.cellsOf 9)) = some y2 := hf 2 _ rfl
        have t3 : DataW.trod enc Tryd.prog w base spare held n 22 (([c0, c1, c2, c3].drop 3).take (Tryd.prog.cellsOf 22)) = some y3 := hf 3 _ rfl
        simp only [k1, k2, k3, List.drop_zero, List.take_succ_cons, List.take_zero, List.drop_succ_cons] at t0 t1 t2 t3
        obtain ⟨id, e0, _, wf0⟩ := DataW.trod_int Tryd.underlying3 t0
        obtain ⟨kd, e1, _, wf1⟩ := DataW.trod_int Tryd.underlying3 t1
        obtain ⟨tx, e2, eb2, _⟩ := DataW.trod_string Tryd.underlying9 t2
        simp only [List.cons.injEq, and_true] at e0 e1 e2
        subst e0; subst e1; subst e2
        have hbulk : tx.size + Rows.uptoBulk y3.1 ≤ Rows.uptoBulk x.1 := by
          rw [hx]
          simp only [List.map_cons, List.map_nil, Rows.uptoBulk, Rows.uptoBulkAll]
          rw [eb2]
          simp only [Rows.uptoBulk, Array.length_toList]
          show tx.size + _ ≤ _
          have : tx.data.size = tx.size := rfl
          omega
        have w0 := wf_i64 wf0
        have w1 := wf_i64 wf1
        rcases DataW.trod_slice Tryd.underlying22 t3 with ⟨e3, _⟩ | ⟨ad, len, cap, elems, rest, m, hm, e3, ey3, _, hlc, hcm, hel, hi, _⟩
        · simp only [List.cons.injEq, and_true] at e3
          subst e3
          exact ⟨⟨id, kd, tx, .nil⟩, none, 0, rfl, Nat.le_refl _, True.intro, ⟨Nat.zero_le _, True.intro⟩, ⟨⟨w0, w1⟩, True.intro⟩, by show tx.size + 0 ≤ _; omega⟩
        · simp only [List.cons.injEq, and_true] at e3
          subst e3
          rw [h4] at hi
          have each : ∀ i, i < len → ∃ (u : Tr), ∃ (ka : Option Addr) (kcap : Nat), w.cell? (ad.add (i * 4)) = some (.int .i64 u.id) ∧ w.cell? (ad.add (i * 4 + 1)) = some (.int .i64 u.kind) ∧ w.cell? (ad.add (i * 4 + 2)) = some (.string u.text) ∧
              w.cell? (ad.add (i * 4 + 3)) = some (.slice ka (foLen u.kids) kcap) ∧ foLen u.kids ≤ kcap ∧ FoAt w (Old w) u.kids ka ∧ Fits u ∧ i64T u ∧ ∀ d, (elems.map (·.1))[i]? = some d → trTxt u ≤ Rows.uptoBulk d := fun i hil => by
            have h1 := hi i hil
            obtain ⟨y, hy⟩ : ∃ y, elems[i]? = some y := ⟨elems[i]'(by omega), List.getElem?_eq_getElem _⟩
            rw [hy, Option.bind_eq_some_iff] at h1
            obtain ⟨cs', hc, ht⟩ := h1
            obtain ⟨_, _, hat⟩ := World.cells?_some hc
            obtain ⟨u, ka, kcap, rfl, hcp, hfo, hft, h64, hbk⟩ := ih m (by omega) cs' y ht
            have a0 := hat 0 (by omega)
            have a1 := hat 1 (by omega)
            have a2 := hat 2 (by omega)
            have a3 := hat 3 (by omega)
            rw [Deep.add_add] at a0 a1 a2 a3
            exact ⟨u, ka, kcap, a0, a1, a2, a3, hcp, hfo, hft, h64, fun d hd => by
              rw [List.getElem?_map, hy] at hd
              cases hd; exact hbk⟩
          obtain ⟨f, hff⟩ := Deep.choose_lt each
          have hls : foLen (foOf ((List.range len).map f)) = len := by rw [foLen_of]; simp
          refine ⟨⟨id, kd, tx, foOf ((List.range len).map f)⟩, some ad, cap, by rw [hls], by rw [hls]; exact hlc, ?_, ⟨?_, ?_⟩, ⟨⟨w0, w1⟩, i64F_of _ fun u hu => ?_⟩, ?_⟩
          · cases hl0 : len with
            | zero => exact True.intro
            | succ len' =>
              rw [← hl0]
              obtain ⟨b, off, spot⟩ := ad
              obtain ⟨_, _, hz, _⟩ := hff 0 (by omega)
              have hsp : spot = none := by simpa [Addr.add] using World.cell?_spot hz
              subst hsp
              have hlt := cell_lt hz
              rw [add_block] at hlt
              refine foAt_of (show Old w b from hlt) _ off fun i u hu => ?_
              rw [List.getElem?_map, Option.map_eq_some_iff] at hu
              obtain ⟨j, hj, rfl⟩ := hu
              obtain ⟨hlt', rfl⟩ := List.getElem?_eq_some_iff.1 hj
              simp only [List.length_range] at hlt'
              simp only [List.getElem_range]
              obtain ⟨ka, kcap, h0, h1, h2, h3, hcp, hfo, _, _⟩ := hff i hlt'
              rw [Addr.add_mid] at h0 h1 h2 h3
              exact ⟨ka, kcap, h0, by rw [Nat.add_assoc]; exact h1, by rw [Nat.add_assoc]; exact h2, by rw [Nat.add_assoc]; exact h3, hcp, hfo⟩
          · show foLen (foOf ((List.range len).map f)) ≤ _
            rw [hls]; unfold maxLen at hcm; omega
          · refine foFit_of _ fun u hu => ?_
            simp only [List.mem_map, List.mem_range] at hu
            obtain ⟨i, hil, rfl⟩ := hu
            obtain ⟨_, _, _, _, _, _, _, _, hft, _⟩ := hff i hil
            exact hft
          · simp only [List.mem_map, List.mem_range] at hu
            obtain ⟨i, hil, rfl⟩ := hu
            obtain ⟨_, _, _, _, _, _, _, _, _, h64, _⟩ := hff i hil
            exact h64
          · have hs := txt_of ((List.range len).map f) (elems.map (·.1)) (by simp [hel]) (fun i u d hu hd => by
              rw [List.getElem?_map, Option.map_eq_some_iff] at hu
              obtain ⟨j, hj, rfl⟩ := hu
              obtain ⟨hlt', rfl⟩ := List.getElem?_eq_some_iff.1 hj
              simp only [List.length_range] at hlt'
              simp only [List.getElem_range]
              obtain ⟨_, _, _, _, _, _, _, _, _, _, hbk⟩ := hff i hlt'
              exact hbk d hd)
            rw [ey3] at hbulk
            simp only [Rows.uptoBulk] at hbulk
            show tx.size + foTxt (foOf ((List.range len).map f)) ≤ _
            omega
end
end Go.Proofs.YtbbiemnjidfglaaDoor
