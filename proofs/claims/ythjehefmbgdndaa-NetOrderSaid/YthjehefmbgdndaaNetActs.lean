/-
  A row of acts on a net that came in, read out of memory; what 'great' answers of it: where it answers false the acts are few and their trees small. No condition.
-/
import Derived.Test.YthjehefmbgdndaaOpenMsg
namespace Go.Proofs.Ythjehefmbgdndaa
open Go.ChangeShapes Go.WideShapes Go.ChangeAt Go.RowKit

structure NAct where
  act : Int
  k : Int
  m : Msg
instance : Inhabited NAct := ⟨⟨0, 0, default⟩⟩
def nactCells (x : NAct) (sa : Option Addr) (sc : Nat) (ka : Option Addr) (cap : Nat) : List Value := [.int .i64 x.act, .int .i64 x.k] ++ msgCells x.m sa sc ka cap
def NActsAt (w : World) (S : Nat → Prop) (a : Option Addr) (l : List NAct) : Prop :=
  0 < l.length → ∃ b off, a = some ⟨b, off, none⟩ ∧ S b ∧ ∀ k x, l[k]? = some x → ∃ sa sc ka cap, (∀ j u, (nactCells x sa sc ka cap)[j]? = some u → w.cell? ⟨b, off + k * 18 + j, none⟩ = some u) ∧ MsgIn w S x.m sa ka
theorem NActsAt.kept {w w' : World} {S S' : Nat → Prop} {a : Option Addr} {l : List NAct} (h : NActsAt w S a l) (hS : ∀ k, S k → S' k ∧ w'.heap[k]? = w.heap[k]?) : NActsAt w' S' a l := fun h0 => by
  obtain ⟨b, off, e, hb, hc⟩ := h h0
  refine ⟨b, off, e, (hS b hb).1, fun k x hx => ?_⟩
  obtain ⟨sa, sc, ka, cap, h1, h2⟩ := hc k x hx
  exact ⟨sa, sc, ka, cap, fun j u hj => (World.cell?_of_block (hS b hb).2).trans (h1 j u hj), h2.kept hS⟩

section
variable {H : Type} {enc : TypeId × Value → H} {w : World} {base : Nat} {spare : Nat → Bool} {held : Bool}
theorem open_nact (fuel : Nat) (cs : List Value) (x : DataW H × List MemPlace) (h : DataW.trod enc Try.prog w base spare held fuel 42 cs = some x) :
    ∃ (y : NAct) (sa : Option Addr) (sc : Nat) (ka : Option Addr) (cap : Nat), cs = nactCells y sa sc ka cap ∧ MsgIn w (Old w) y.m sa ka ∧ y.m.fits := by
  obtain ⟨y0, y1, y2, n, _, hl, t0, t1, t2⟩ := Deep.trod_struct3 Try.underlying42 h
  have h18 : Try.prog.cellsOf 42 = 18 := by kernel_rfl
  rw [h18] at hl
  have k1 : Try.prog.cellsOf 3 = 1 := by kernel_rfl
  have k2 : Try.prog.cellsOf 40 = 16 := by kernel_rfl
  match cs, hl with
  | c0 :: c1 :: cs', hl =>
    have hl' : cs'.length = 16 := by simpa using hl
    simp only [k1, k2, List.drop_zero, List.take_succ_cons, List.take_zero, List.drop_succ_cons] at t0 t1 t2
    rw [List.take_of_length_le (by omega)] at t2
    obtain ⟨n0, e0, _, _⟩ := DataW.trod_int Try.underlying3 t0
    obtain ⟨n1, e1, _, _⟩ := DataW.trod_int Try.underlying3 t1
    obtain ⟨m, sa, sc, ka, cap, e2, hin, hft⟩ := open_msg n _ y2 t2
    simp only [List.cons.injEq, and_true] at e0 e1
    subst e0; subst e1; subst e2
    exact ⟨⟨n0, n1, m⟩, sa, sc, ka, cap, rfl, hin, hft⟩

theorem open_nacts {a : Option Addr} {len cap : Nat} {d : DataW H} {ps : List MemPlace} (h : DataW.Trod enc Try.prog w base spare held 22 (.slice a len cap) d ps) :
    ∃ l : List NAct, l.length = len ∧ NActsAt w (Old w) a l ∧ ∀ x ∈ l, x.m.fits := by
  obtain ⟨fuel, hf⟩ := h
  rcases Deep.open_slice Try.underlying22 hf with ⟨hcs, _⟩ | ⟨ad, len', cap', m, n, D, Pl, hcs, _, hl, hm, hmm, _, hi⟩
  · simp [Value.cells] at hcs
    obtain ⟨rfl, rfl, rfl⟩ := hcs
    exact ⟨[], rfl, fun h => by simp at h, fun x hx => by cases hx⟩
  · simp [Value.cells] at hcs
    obtain ⟨rfl, rfl, rfl⟩ := hcs
    have hle : len ≤ m := by rw [hmm]; split <;> omega
    have h18 : Try.prog.cellsOf 42 = 18 := by kernel_rfl
    rw [h18] at hi
    have each : ∀ i, i < len → ∃ (y : NAct), ∃ (sa : Option Addr) (sc : Nat) (ka : Option Addr) (kcap : Nat), (∀ j u, (nactCells y sa sc ka kcap)[j]? = some u → w.cell? (ad.add (i * 18 + j)) = some u) ∧ MsgIn w (Old w) y.m sa ka ∧ y.m.fits := fun i hil => by
      obtain ⟨cs', hc, ht⟩ := hi i (by omega)
      obtain ⟨_, _, hat⟩ := World.cells?_some hc
      obtain ⟨y, sa, sc, ka, kcap, rfl, hfo, hft⟩ := open_nact n cs' _ ht
      refine ⟨y, sa, sc, ka, kcap, fun j u hj => ?_, hfo, hft⟩
      have hj9 : j < 18 := (List.getElem?_eq_some_iff.1 hj).1
      have := hat j hj9
      rw [Deep.add_add, hj] at this
      exact this
    obtain ⟨f, hff⟩ := Deep.choose_lt each
    refine ⟨(List.range len).map f, by simp, fun h0 => ?_, fun s hs => ?_⟩
    · have h0' : 0 < len := by simpa using h0
      obtain ⟨b, off, spot⟩ := ad
      obtain ⟨_, _, _, _, hz, _⟩ := hff 0 h0'
      have hz0 := hz 0 _ rfl
      have hsp : spot = none := by simpa [Addr.add] using World.cell?_spot hz0
      subst hsp
      have hlt := cell_lt hz0
      rw [add_block] at hlt
      refine ⟨b, off, rfl, hlt, fun i u hu => ?_⟩
      rw [List.getElem?_map, Option.map_eq_some_iff] at hu
      obtain ⟨j, hj, rfl⟩ := hu
      obtain ⟨hlt', rfl⟩ := List.getElem?_eq_some_iff.1 hj
      simp only [List.length_range] at hlt'
      simp only [List.getElem_range]
      obtain ⟨sa, sc, ka, kcap, hz, hfo, _⟩ := hff i hlt'
      simp only [Addr.add_mid, ← Nat.add_assoc] at hz
      exact ⟨sa, sc, ka, kcap, hz, hfo⟩
    · simp only [List.mem_map, List.mem_range] at hs
      obtain ⟨i, hil, rfl⟩ := hs
      obtain ⟨_, _, _, _, _, _, hft⟩ := hff i hil
      exact hft
end

end Go.Proofs.Ythjehefmbgdndaa
