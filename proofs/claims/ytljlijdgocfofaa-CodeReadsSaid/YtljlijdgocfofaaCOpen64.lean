/-
  Trees and steps that came in: what is in them are numbers. No condition.
-/
import Derived.Test.YtljlijdgocfofaaCFwdS
namespace Go.Proofs.Ytljlijdgocfofaa
open Go.ChangeShapes Go.WideShapes Go.ChangeAt Go.RowKit
open Extern.Stop (cell)

def foNum : Fo → Prop
  | .nil => True
  | .node _ _ k l r => (inI64 k.1 ∧ inI64 k.2.1) ∧ foNum l ∧ foNum r
def numT (t : Tr) : Prop := (inI64 t.id ∧ inI64 t.kind) ∧ foNum t.kids
def Fit64 (t : Tr) : Prop := Fits t ∧ numT t
def FitS64 (s : Stp) : Prop := Fits s.sub ∧ (-128 ≤ s.op ∧ s.op ≤ 127) ∧ inI64 s.id ∧ inI64 s.parent ∧ inI64 s.place ∧ numT s.sub
theorem foNum_of : ∀ l : List Tr, (∀ t ∈ l, numT t) → foNum (foOf l)
  | [], _ => True.intro
  | t :: l, h => ⟨(h t (List.mem_cons_self ..)).1, (h t (List.mem_cons_self ..)).2, foNum_of l fun u hu => h u (List.mem_cons_of_mem _ hu)⟩
theorem foIn_of : ∀ {f : Fo}, foNum f → foFit f → foText f ≤ 9223372036854775807 → foIn f
  | .nil, _, _, _ => True.intro
  | .node _ _ _ _ _, h, g, t => by
    simp only [foText] at t
    exact ⟨⟨h.1.1, h.1.2, by omega, g.1⟩, foIn_of h.2.1 g.2.1 (by omega), foIn_of h.2.2 g.2.2 (by omega)⟩
theorem Fit64.in64 {t : Tr} (h : Fit64 t) (ht : trText t ≤ 9223372036854775807) : t.in64 := by
  unfold trText at ht
  exact ⟨⟨h.2.1.1, h.2.1.2, by omega, h.1.1⟩, foIn_of h.2.2 h.1.2 (by omega)⟩
theorem FitS64.in64 {s : Stp} (h : FitS64 s) (hs : s.text.size ≤ 9223372036854775807) (ht : trText s.sub ≤ 9223372036854775807) : s.in64 :=
  ⟨h.2.1, h.2.2.1, h.2.2.2.1, h.2.2.2.2.1, hs, Fit64.in64 ⟨h.1, h.2.2.2.2.2⟩ ht⟩

section
variable {H : Type} {enc : TypeId × Value → H} {w : World} {base : Nat} {spare : Nat → Bool} {held : Bool}

theorem open_node64 : ∀ (fuel : Nat) (cs : List Value) (x : DataW H × List MemPlace), DataW.trod enc Try.prog w base spare held fuel 25 cs = some x →
    ∃ (t : Tr) (ka : Option Addr) (cap : Nat), cs = [.int .i64 t.id, .int .i64 t.kind, .string t.text, .slice ka (foLen t.kids) cap] ∧ foLen t.kids ≤ cap ∧ FoAt w (Old w) t.kids ka ∧ Fit64 t := by
  intro fuel
  induction fuel using Nat.strongRecOn with
  | ind fuel ih =>
    intro cs x h
    obtain ⟨xs, n, hn, _, hl, hlen, hf⟩ := DataW.trod_struct Try.underlying25 h
    have h4 : Try.prog.cellsOf 25 = 4 := by kernel_rfl
    rw [h4] at hl
    match cs, hl with
    | [c0, c1, c2, c3], _ =>
      have k1 : Try.prog.cellsOf 3 = 1 := by kernel_rfl
      have k2 : Try.prog.cellsOf 9 = 1 := by kernel_rfl
      have k3 : Try.prog.cellsOf 23 = 1 := by kernel_rfl
      match xs, hlen with
      | [y0, y1, y2, y3], _ =>
        have t0 : DataW.trod enc Try.prog w base spare held n 3 (([c0, c1, c2, c3].drop 0).take (Try.prog.cellsOf 3)) = some y0 := hf 0 _ rfl
        have t1 : DataW.trod enc Try.prog w base spare held n 3 (([c0, c1, c2, c3].drop 1).take (Try.prog.cellsOf 3)) = some y1 := hf 1 _ rfl
        have t2 : DataW.trod enc Try.prog w base spare held n 9 (([c0, c1, c2, c3].drop 2).take (Try.prog.cellsOf 9)) = some y2 := hf 2 _ rfl
        have t3 : DataW.trod enc Try.prog w base spare held n 23 (([c0, c1, c2, c3].drop 3).take (Try.prog.cellsOf 23)) = some y3 := hf 3 _ rfl
        simp only [k1, k2, k3, List.drop_zero, List.take_succ_cons, List.take_zero, List.drop_succ_cons] at t0 t1 t2 t3
        obtain ⟨id, e0, _, b0⟩ := DataW.trod_int Try.underlying3 t0
        obtain ⟨kd, e1, _, b1⟩ := DataW.trod_int Try.underlying3 t1
        obtain ⟨tx, e2, _, _⟩ := DataW.trod_string Try.underlying9 t2
        simp only [List.cons.injEq, and_true] at e0 e1 e2
        subst e0; subst e1; subst e2
        rcases DataW.trod_slice Try.underlying23 t3 with ⟨e3, _⟩ | ⟨ad, len, cap, elems, rest, m, hm, e3, _, _, hlc, hcm, _, hi, _⟩
        · simp only [List.cons.injEq, and_true] at e3
          subst e3
          exact ⟨⟨id, kd, tx, .nil⟩, none, 0, rfl, Nat.le_refl _, True.intro, ⟨Nat.zero_le _, True.intro⟩, ⟨bounds_i64 b0, bounds_i64 b1⟩, True.intro⟩
        · simp only [List.cons.injEq, and_true] at e3
          subst e3
          rw [h4] at hi
          have each : ∀ i, i < len → ∃ (u : Tr), ∃ (ka : Option Addr) (kcap : Nat), w.cell? (ad.add (i * 4)) = some (.int .i64 u.id) ∧ w.cell? (ad.add (i * 4 + 1)) = some (.int .i64 u.kind) ∧ w.cell? (ad.add (i * 4 + 2)) = some (.string u.text) ∧
              w.cell? (ad.add (i * 4 + 3)) = some (.slice ka (foLen u.kids) kcap) ∧ foLen u.kids ≤ kcap ∧ FoAt w (Old w) u.kids ka ∧ Fit64 u := fun i hil => by
            have h1 := hi i hil
            obtain ⟨y, hy⟩ : ∃ y, elems[i]? = some y := ⟨elems[i]'(by omega), List.getElem?_eq_getElem _⟩
            rw [hy, Option.bind_eq_some_iff] at h1
            obtain ⟨cs', hc, ht⟩ := h1
            obtain ⟨_, _, hat⟩ := World.cells?_some hc
            obtain ⟨u, ka, kcap, rfl, hcp, hfo, hft⟩ := ih m (by omega) cs' y ht
            have a0 := hat 0 (by omega)
            have a1 := hat 1 (by omega)
            have a2 := hat 2 (by omega)
            have a3 := hat 3 (by omega)
            rw [Deep.add_add] at a0 a1 a2 a3
            exact ⟨u, ka, kcap, a0, a1, a2, a3, hcp, hfo, hft⟩
          obtain ⟨f, hff⟩ := Deep.choose_lt each
          have hls : foLen (foOf ((List.range len).map f)) = len := by rw [foLen_of]; simp
          refine ⟨⟨id, kd, tx, foOf ((List.range len).map f)⟩, some ad, cap, by rw [hls], by rw [hls]; exact hlc, ?_, ⟨?_, ?_⟩, ⟨bounds_i64 b0, bounds_i64 b1⟩, ?_⟩
          · cases hl0 : len with
            | zero => exact True.intro
            | succ len' =>
              rw [← hl0]
              obtain ⟨b, off, spot⟩ := ad
              obtain ⟨_, _, hz, _⟩ := hff 0 (by omega)
              have hsp : spot = none := by simpa [Addr.add] using World.cell?_spot hz
              subst hsp
              have hlt := cell_lt hz
              rw [add_block] at hlt
              refine foAt_of (show Old w b from hlt) _ off fun i u hu => ?_
              rw [List.getElem?_map, Option.map_eq_some_iff] at hu
              obtain ⟨j, hj, rfl⟩ := hu
              obtain ⟨hlt', rfl⟩ := List.getElem?_eq_some_iff.1 hj
              simp only [List.length_range] at hlt'
              simp only [List.getElem_range]
              obtain ⟨ka, kcap, h0, h1, h2, h3, hcp, hfo, _⟩ := hff i hlt'
              rw [Addr.add_mid] at h0 h1 h2 h3
              exact ⟨ka, kcap, h0, by rw [Nat.add_assoc]; exact h1, by rw [Nat.add_assoc]; exact h2, by rw [Nat.add_assoc]; exact h3, hcp, hfo⟩
          · show foLen (foOf ((List.range len).map f)) ≤ _
            rw [hls]; unfold maxLen at hcm; omega
          · refine foFit_of _ fun u hu => ?_
            simp only [List.mem_map, List.mem_range] at hu
            obtain ⟨i, hil, rfl⟩ := hu
            obtain ⟨_, _, _, _, _, _, _, _, hft⟩ := hff i hil
            exact hft.1
          · refine foNum_of _ fun u hu => ?_
            simp only [List.mem_map, List.mem_range] at hu
            obtain ⟨i, hil, rfl⟩ := hu
            obtain ⟨_, _, _, _, _, _, _, _, hft⟩ := hff i hil
            exact hft.2
theorem open_step64 (fuel : Nat) (cs : List Value) (x : DataW H × List MemPlace) (h : DataW.trod enc Try.prog w base spare held fuel 54 cs = some x) :
    ∃ (s : Stp) (ka : Option Addr) (cap : Nat), cs = stepCells s ka cap ∧ foLen s.sub.kids ≤ cap ∧ FoAt w (Old w) s.sub.kids ka ∧ FitS64 s := by
  obtain ⟨xs, n, _, _, hl, hlen, hf⟩ := DataW.trod_struct Try.underlying54 h
  have h9 : Try.prog.cellsOf 54 = 9 := by kernel_rfl
  rw [h9] at hl
  match cs, hl with
  | [c0, c1, c2, c3, c4, c5, c6, c7, c8], _ =>
    have k1 : Try.prog.cellsOf 3 = 1 := by kernel_rfl
    have k2 : Try.prog.cellsOf 9 = 1 := by kernel_rfl
    have k3 : Try.prog.cellsOf 25 = 4 := by kernel_rfl
    have k4 : Try.prog.cellsOf 41 = 1 := by kernel_rfl
    match xs, hlen with
    | [y0, y1, y2, y3, y4, y5], _ =>
      have t0 : DataW.trod enc Try.prog w base spare held n 41 (([c0, c1, c2, c3, c4, c5, c6, c7, c8].drop 0).take (Try.prog.cellsOf 41)) = some y0 := hf 0 _ rfl
      have t1 : DataW.trod enc Try.prog w base spare held n 3 (([c0, c1, c2, c3, c4, c5, c6, c7, c8].drop 1).take (Try.prog.cellsOf 3)) = some y1 := hf 1 _ rfl
      have t2 : DataW.trod enc Try.prog w base spare held n 3 (([c0, c1, c2, c3, c4, c5, c6, c7, c8].drop 2).take (Try.prog.cellsOf 3)) = some y2 := hf 2 _ rfl
      have t3 : DataW.trod enc Try.prog w base spare held n 3 (([c0, c1, c2, c3, c4, c5, c6, c7, c8].drop 3).take (Try.prog.cellsOf 3)) = some y3 := hf 3 _ rfl
      have t4 : DataW.trod enc Try.prog w base spare held n 9 (([c0, c1, c2, c3, c4, c5, c6, c7, c8].drop 4).take (Try.prog.cellsOf 9)) = some y4 := hf 4 _ rfl
      have t5 : DataW.trod enc Try.prog w base spare held n 25 (([c0, c1, c2, c3, c4, c5, c6, c7, c8].drop 5).take (Try.prog.cellsOf 25)) = some y5 := hf 5 _ rfl
      simp only [k1, k2, k3, k4, List.drop_zero, List.take_succ_cons, List.take_zero, List.drop_succ_cons] at t0 t1 t2 t3 t4 t5
      obtain ⟨op, e0, _, b0⟩ := DataW.trod_int Try.underlying41 t0
      obtain ⟨id, e1, _, b1⟩ := DataW.trod_int Try.underlying3 t1
      obtain ⟨pa, e2, _, b2⟩ := DataW.trod_int Try.underlying3 t2
      obtain ⟨pl, e3, _, b3⟩ := DataW.trod_int Try.underlying3 t3
      obtain ⟨tx, e4, _, _⟩ := DataW.trod_string Try.underlying9 t4
      obtain ⟨u, ka, cap, e5, hcp, hfo, hft⟩ := open_node64 n _ y5 t5
      simp only [List.cons.injEq, and_true] at e0 e1 e2 e3 e4 e5
      obtain ⟨rfl, rfl, rfl, rfl⟩ := e5
      subst e0; subst e1; subst e2; subst e3; subst e4
      exact ⟨⟨op, id, pa, pl, tx, u⟩, ka, cap, rfl, hcp, hfo, hft.1, bounds_i8 b0, bounds_i64 b1, bounds_i64 b2, bounds_i64 b3, hft.2⟩


theorem open_steps64 (fuel : Nat) (v : Value) (x : DataW H × List MemPlace) (h : DataW.trod enc Try.prog w base spare held fuel 26 [v] = some x) :
    ∃ (l : List Stp) (a : Option Addr) (cap : Nat), v = .slice a l.length cap ∧ l.length ≤ 9223372036854775807 ∧ StepsAt w (Old w) a l ∧ ∀ s ∈ l, FitS64 s := by
  rcases Deep.open_slice Try.underlying26 h with ⟨hcs, _⟩ | ⟨ad, len, cap, m, n, D, Pl, hcs, _, hl, hm, hmm, _, hi⟩
  · simp only [List.cons.injEq, and_true] at hcs
    subst hcs
    exact ⟨[], none, 0, rfl, Nat.zero_le _, fun h0 => by simp at h0, fun s hs => by cases hs⟩
  · simp only [List.cons.injEq, and_true] at hcs
    subst hcs
    have h9 : Try.prog.cellsOf 54 = 9 := by kernel_rfl
    have hle : len ≤ m := by rw [hmm]; split <;> omega
    rw [h9] at hi
    have each : ∀ i, i < len → ∃ (s : Stp), ∃ (ka : Option Addr) (kcap : Nat), (∀ j u, (stepCells s ka kcap)[j]? = some u → w.cell? (ad.add (i * 9 + j)) = some u) ∧ foLen s.sub.kids ≤ kcap ∧ FoAt w (Old w) s.sub.kids ka ∧ FitS64 s := fun i hil => by
      obtain ⟨cs', hc, ht⟩ := hi i (by omega)
      obtain ⟨_, _, hat⟩ := World.cells?_some hc
      obtain ⟨s, ka, kcap, rfl, hcp, hfo, hft⟩ := open_step64 n cs' _ ht
      refine ⟨s, ka, kcap, fun j u hj => ?_, hcp, hfo, hft⟩
      have hj9 : j < 9 := (List.getElem?_eq_some_iff.1 hj).1
      have := hat j hj9
      rw [Deep.add_add, hj] at this
      exact this
    obtain ⟨f, hff⟩ := Deep.choose_lt each
    refine ⟨(List.range len).map f, some ad, cap, by simp, by simp only [List.length_map, List.length_range]; unfold maxLen at hm; omega, fun h0 => ?_, fun s hs => ?_⟩
    · have h0' : 0 < len := by simpa using h0
      obtain ⟨b, off, spot⟩ := ad
      obtain ⟨_, _, hz, _⟩ := hff 0 h0'
      have hz0 := hz 0 _ rfl
      have hsp : spot = none := by simpa [Addr.add] using World.cell?_spot hz0
      subst hsp
      have hlt := cell_lt hz0
      rw [add_block] at hlt
      refine ⟨b, off, rfl, hlt, fun i u hu => ?_⟩
      rw [List.getElem?_map, Option.map_eq_some_iff] at hu
      obtain ⟨j, hj, rfl⟩ := hu
      obtain ⟨hlt', rfl⟩ := List.getElem?_eq_some_iff.1 hj
      simp only [List.length_range] at hlt'
      simp only [List.getElem_range]
      obtain ⟨ka, kcap, hz, hcp, hfo, _⟩ := hff i hlt'
      simp only [Addr.add_mid, ← Nat.add_assoc] at hz
      exact ⟨ka, kcap, hz 0 _ rfl, hz 1 _ rfl, hz 2 _ rfl, hz 3 _ rfl, hz 4 _ rfl, hz 5 _ rfl, hz 6 _ rfl, hz 7 _ rfl, hz 8 _ rfl, hcp, hfo⟩
    · simp only [List.mem_map, List.mem_range] at hs
      obtain ⟨i, hil, rfl⟩ := hs
      obtain ⟨_, _, _, _, _, hft⟩ := hff i hil
      exact hft
end

end Go.Proofs.Ytljlijdgocfofaa
