/-
  A net of messages that bear a number each, beside a row of these numbers; rows of ints that came in. No condition.
-/
import Derived.Test.YthjehefmbgdndaaPFull
import Derived.Maps.AppendAt
namespace Go.Proofs.Ythjehefmbgdndaa
open Go.RowKit

def nl (its : List (Int × Bool)) : List PI := its.map fun p => (bmsg 0 3 p.1, p.2)
def iv (its : List (Int × Bool)) : List Value := its.map fun p => .int .i64 p.1
theorem nl_length (its : List (Int × Bool)) : (nl its).length = its.length := by simp [nl]
theorem nl_append (a b : List (Int × Bool)) : nl (a ++ b) = nl a ++ nl b := by simp [nl]
theorem iv_append (a b : List (Int × Bool)) : iv (a ++ b) = iv a ++ iv b := by simp [iv]
theorem iv_at {its : List (Int × Bool)} {k : Nat} {x : Int × Bool} (h : its[k]? = some x) : (iv its)[k]? = some (.int .i64 x.1) := by simp [iv, h]
theorem nl_at {its : List (Int × Bool)} {k : Nat} {x : Int × Bool} (h : its[k]? = some x) : (nl its)[k]? = some (bmsg 0 3 x.1, x.2) := by simp [nl, h]
def itsMark (its : List (Int × Bool)) (k : Nat) : List (Int × Bool) := its.modify k fun p => (p.1, true)
theorem itsMark_iv (its : List (Int × Bool)) (k : Nat) : iv (itsMark its k) = iv its := by
  apply List.ext_getElem?
  intro j
  simp only [iv, itsMark, List.getElem?_map, List.getElem?_modify]
  by_cases h : k = j
  · subst h; cases its[k]? <;> simp
  · simp [h]
theorem itsMark_nl (its : List (Int × Bool)) (k : Nat) : nl (itsMark its k) = setMark (nl its) k true := by
  apply List.ext_getElem?
  intro j
  simp only [nl, itsMark, setMark, List.getElem?_map, List.getElem?_modify]
  by_cases h : k = j
  · subst h; cases its[k]? <;> simp
  · simp [h]
theorem itsMark_length (its : List (Int × Bool)) (k : Nat) : (itsMark its k).length = its.length := by simp [itsMark]
theorem iv_length (its : List (Int × Bool)) : (iv its).length = its.length := by simp [iv]
theorem iv_one (its : List (Int × Bool)) : ∀ u ∈ iv its, u.oneCell' = true := fun u hu => by
  obtain ⟨p, _, rfl⟩ := List.mem_map.1 hu
  rfl
theorem its_split {its : List (Int × Bool)} {k : Nat} {x : Int × Bool} (h : its[k]? = some x) : its = its.take k ++ x :: its.drop (k + 1) := by
  obtain ⟨hk, rfl⟩ := List.getElem?_eq_some_iff.1 h
  rw [← List.drop_eq_getElem_cons hk, List.take_append_drop]

/-- A row of ints that came in. -/
def IntsAt (w : World) (a : Option Addr) (l : List Int) : Prop :=
  0 < l.length → ∃ b off, a = some ⟨b, off, none⟩ ∧ b < w.heap.size ∧ ∀ k x, l[k]? = some x → w.cell? ⟨b, off + k, none⟩ = some (.int .i64 x)
section
variable {H : Type} {enc : TypeId × Value → H} {w : World} {base : Nat} {spare : Nat → Bool} {held : Bool}
theorem open_ints' {a : Option Addr} {len cap : Nat} {d : DataW H} {ps : List MemPlace} (h : DataW.Trod enc Try.prog w base spare held 51 (.slice a len cap) d ps) : ∃ l : List Int, l.length = len ∧ IntsAt w a l := by
  obtain ⟨fuel, hf⟩ := h
  rcases Deep.open_slice Try.underlying51 hf with ⟨hcs, _⟩ | ⟨ad, len', cap', m, n, D, Pl, hcs, _, hl, hm, hmm, _, hi⟩
  · simp [Value.cells] at hcs
    obtain ⟨rfl, rfl, rfl⟩ := hcs
    exact ⟨[], rfl, fun h => by simp at h⟩
  · simp [Value.cells] at hcs
    obtain ⟨rfl, rfl, rfl⟩ := hcs
    have hle : len ≤ m := by rw [hmm]; split <;> omega
    have each : ∀ i, i < len → ∃ x : Int, w.cell? (ad.add i) = some (.int .i64 x) := fun i hil => by
      obtain ⟨cs', hc, ht⟩ := hi i (by omega)
      have h3 : Try.prog.cellsOf 3 = 1 := by kernel_rfl
      rw [h3, Nat.mul_one] at hc
      obtain ⟨_, hcl, hat⟩ := World.cells?_some hc
      match cs', hcl with
      | [c0], _ =>
        obtain ⟨x0, e0, _, _⟩ := DataW.trod_int Try.underlying3 ht
        have a0 := hat 0 (by omega)
        rw [Deep.add_add] at a0
        simp only [List.cons.injEq, and_true] at e0
        subst e0
        exact ⟨x0, by simpa using a0⟩
    obtain ⟨f, hf⟩ := Deep.choose_lt each
    refine ⟨(List.range len).map f, by simp, fun h0 => ?_⟩
    have h0' : 0 < len := by simpa using h0
    obtain ⟨b, off, spot⟩ := ad
    have hsp := World.cell?_spot (hf 0 h0')
    have : spot = none := by simpa [Addr.add] using hsp
    subst this
    have hlt := World.block_lt_of_cell? w _ (hf 0 h0')
    rw [Addr.add_mid] at hlt
    refine ⟨b, off, rfl, hlt, fun i x hi => ?_⟩
    rw [List.getElem?_map, Option.map_eq_some_iff] at hi
    obtain ⟨j, hj, rfl⟩ := hi
    obtain ⟨hlt, rfl⟩ := List.getElem?_eq_some_iff.1 hj
    simp only [List.length_range] at hlt
    simp only [List.getElem_range]
    have h1 := hf i hlt
    rw [Addr.add_mid] at h1
    exact h1
end

theorem NetAt.turn {w0 w : World} {Q Q' : Nat → Prop} {nb : Nat} {l : List PI} (h : NetAt w0 w Q nb l) (hQ : ∀ x, Q' x → Q x) : NetAt w0 w Q' nb l := by
  obtain ⟨h0, S, p1, p2, p3⟩ := h
  exact ⟨fun x hx => h0 x (hQ x hx), S, p1, fun x hx => ⟨(p2 x hx).1, fun hq => (p2 x hx).2 (hQ x hq)⟩, p3⟩
/-- Behind an append to a row beside the net. -/
theorem NetAt.grown {w wr W0 w1 : World} {P : Nat → Prop} {v v' : Value} {nb n : Nat} {l : List PI} {xs : List Value} (h : NetAt w wr (fun x => P x ∨ v.ownBlock = some x) nb l) (hb : Below wr.heap.size wr W0) (hv : wr.ownsRow w.heap.size 3 1 v n xs) (hgrow : W0.grownBy w1 v.ownBlock) (hat : v'.ownBlock = v.ownBlock ∨ v'.ownBlock = some W0.heap.size) (hlt : ∀ g, v'.ownBlock = some g → g < w1.heap.size) :
    NetAt w w1 (fun x => P x ∨ v'.ownBlock = some x) nb l := by
  obtain ⟨h0, S, p1, p2, p3⟩ := h
  have hs := hb.size
  have hg := hgrow.size
  have hown : ∀ g, v.ownBlock = some g → w.heap.size ≤ g := fun g hgo => (hv.lt g hgo).1
  refine ⟨fun x hx => ?_, S, p1.kept (by omega) (fun x hx => ?_), fun x hx => ⟨(p2 x hx).1, fun hq => ?_⟩, ⟨hgrow.os.trans (hb.os.trans p3.os), hgrow.tape.trans (hb.tape.trans p3.tape), hgrow.output.trans (hb.output.trans p3.output), by have := p3.size; omega, fun x hx => ?_⟩⟩
  · rcases hx with hx | hx
    · have := h0 x (Or.inl hx); omega
    · exact hlt x hx
  · have hxw := p1.1 x hx
    rw [hgrow.block x (by omega) (fun e => (p2 x hx).2 (Or.inr e.symm)), hb.block x hxw]
  · rcases hq with hq | hq
    · exact (p2 x hx).2 (Or.inl hq)
    · rcases hat with hat | hat
      · exact (p2 x hx).2 (Or.inr (by rw [← hat]; exact hq))
      · rw [hat] at hq
        simp only [Option.some.injEq] at hq
        have := p1.1 x hx; omega
  · have := p3.size
    rw [hgrow.block x (by omega) (fun e => by have := hown x e.symm; omega), hb.block x (by omega), p3.block x hx]

theorem pfreed_ffree (l : List PI) : ffree (pfreed l l.length) 0 = if l.length = 0 then none else some 0 := by
  cases l with
  | nil => rfl
  | cons p l =>
    have : pfreed (p :: l) (p :: l).length = (p.1, false) :: pfreed l l.length := by simp [pfreed]
    rw [this]
    rfl

theorem Try.infoI : (Try.prog.info? 3).map (fun i => (i.size, i.bytes, i.zero.map (fun z => z.cells.size))) = some (1, 8, some 1) := by kernel_rfl

end Go.Proofs.Ythjehefmbgdndaa
