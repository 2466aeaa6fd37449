/-
  A tree that came in, read out of memory. No condition.
  What came in as a tree: it has no more nodes and bytes of text than its bulk, so its bytes are not too many. No condition.
-/
import Derived.Test.YteccnekdmehloaaDoorECopyW
import Derived.ProofKit
import Derived.OpenShut
import Derived.Deep.Slices
import Derived.Deep.Strs
import Derived.Lib.SmallJoins
import Derived.Laws.BytesArg
import Derived.Test.YteccnekdmehloaaDoorCPutNode
namespace Go.Proofs.YteccnekdmehloaaDoor
open Go.ChangeShapes Go.WideShapes Go.ChangeAt Go.RowKit
open Extern.Stop (cell)

theorem cell_lt {w : World} {a : Addr} {v : Value} (h : w.cell? a = some v) : a.block < w.heap.size := block_lt_of_cell h

theorem add_block (a : Addr) (j : Nat) : (a.add j).block = a.block := by unfold Addr.add; split <;> rfl

def foOf : List Tr → Fo
  | [] => .nil
  | t :: l => .node 0 0 (t.id, t.kind, t.text) t.kids (foOf l)
theorem foLen_of : ∀ l : List Tr, foLen (foOf l) = l.length
  | [] => rfl
  | _ :: l => by simp [foOf, foLen, foLen_of l]
theorem foFit_of : ∀ l : List Tr, (∀ t ∈ l, foLen t.kids ≤ 9223372036854775807 ∧ foFit t.kids) → foFit (foOf l)
  | [], _ => True.intro
  | t :: l, h => ⟨(h t (List.mem_cons_self ..)).1, (h t (List.mem_cons_self ..)).2, foFit_of l fun u hu => h u (List.mem_cons_of_mem _ hu)⟩
theorem foAt_of {w : World} {S : Nat → Prop} {b : Nat} (hb : S b) : ∀ (l : List Tr) (off : Nat), (∀ i t, l[i]? = some t → ∃ ka cap, w.cell? ⟨b, off + i * 4, none⟩ = some (.int .i64 t.id) ∧ w.cell? ⟨b, off + i * 4 + 1, none⟩ = some (.int .i64 t.kind) ∧
    w.cell? ⟨b, off + i * 4 + 2, none⟩ = some (.string t.text) ∧ w.cell? ⟨b, off + i * 4 + 3, none⟩ = some (.slice ka (foLen t.kids) cap) ∧ foLen t.kids ≤ cap ∧ FoAt w S t.kids ka) → FoAt w S (foOf l) (some ⟨b, off, none⟩)
  | [], _, _ => True.intro
  | t :: l, off, h => by
    obtain ⟨ka, cap, h0, h1, h2, h3, hcp, hf⟩ := h 0 t rfl
    refine ⟨b, off, ka, cap, rfl, hb, by simpa using h0, by simpa using h1, by simpa using h2, by simpa using h3, hcp, hf, foAt_of hb l (off + 4) fun i u hu => ?_⟩
    obtain ⟨ka, cap, h0, h1, h2, h3, hcp, hf⟩ := h (i + 1) u (by simpa using hu)
    rw [show off + (i + 1) * 4 = off + 4 + i * 4 by omega] at h0 h1 h2 h3
    exact ⟨ka, cap, h0, h1, h2, h3, hcp, hf⟩

/-- What lies in memory that was there. -/
def Old (w : World) : Nat → Prop := fun k => k < w.heap.size
def Fits (t : Tr) : Prop := foLen t.kids ≤ 9223372036854775807 ∧ foFit t.kids

section
variable {H : Type} {enc : TypeId × Value → H} {w : World} {base : Nat} {spare : Nat → Bool} {held : Bool}

end
theorem foAt_cells {w : World} {S : Nat → Prop} : ∀ {f : Fo} {a : Option Addr}, FoAt w S f a → FoAt w (fun x => CellsB w x ∧ S x) f a
  | .nil, _, _ => True.intro
  | .node _ _ _ _ _, _, h => by
    obtain ⟨b, off, ka, cap, e, hb, h0, h1, h2, h3, hc, hl, hr⟩ := h
    have hcb : CellsB w b := by
      unfold World.cell? at h0
      cases hh : w.heap[b]? with
      | none => simp [hh] at h0
      | some o =>
        cases o with
        | cells cs t fr => exact ⟨cs, t, fr, hh⟩
        | _ => simp [hh] at h0
    exact ⟨b, off, ka, cap, e, ⟨hcb, hb⟩, h0, h1, h2, h3, hc, foAt_cells hl, foAt_cells hr⟩
end Go.Proofs.YteccnekdmehloaaDoor
namespace Go.Proofs.YteccnekdmehloaaDoor
open Go.ChangeShapes Go.WideShapes Go.ChangeAt Go.RowKit
set_option linter.unusedVariables false

/-- The nodes and the bytes of all texts. -/
def foBk : Fo → Nat
  | .nil => 0
  | .node _ _ k l r => 1 + k.2.2.size + foBk l + foBk r
def trBk (t : Tr) : Nat := 1 + t.text.size + foBk t.kids
theorem foBk_eq : ∀ f : Fo, foBk f = foSize f + foText f
  | .nil => rfl
  | .node _ _ k l r => by simp only [foBk, foSize, foText, foBk_eq l, foBk_eq r]; omega
theorem enc_bulk (t : Tr) : (encT t).length ≤ 32 * trBk t := by
  rw [encT_length]
  unfold trBk trText
  rw [foBk_eq]
  omega
/-- Numbers of a machine. -/
def n64 (n : Int) : Prop := -9223372036854775808 ≤ n ∧ n ≤ 9223372036854775807
def foN : Fo → Prop
  | .nil => True
  | .node _ _ k l r => (n64 k.1 ∧ n64 k.2.1) ∧ foN l ∧ foN r
def trN (t : Tr) : Prop := (n64 t.id ∧ n64 t.kind) ∧ foN t.kids
theorem n64_of {n : Int} (h : (Lit.int .i64 n).wf = true) : n64 n := by
  simp only [Lit.wf, Bool.and_eq_true, decide_eq_true_eq] at h
  have e1 : IntKind.i64.min = -9223372036854775808 := rfl
  have e2 : IntKind.i64.max = 9223372036854775807 := rfl
  unfold n64
  omega
theorem foN_of : ∀ l : List Tr, (∀ t ∈ l, trN t) → foN (foOf l)
  | [], _ => True.intro
  | t :: l, h => ⟨(h t (List.mem_cons_self ..)).1, (h t (List.mem_cons_self ..)).2, foN_of l fun u hu => h u (List.mem_cons_of_mem _ hu)⟩
theorem bk_of {H : Type} : ∀ (l : List Tr) (ds : List (DataW H)), List.length l = ds.length → (∀ (i : Nat) (u : Tr) (d : DataW H), l[i]? = some u → ds[i]? = some d → trBk u ≤ Rows.uptoBulk d) → foBk (foOf l) ≤ Rows.uptoBulkAll ds
  | [], [], _, _ => Nat.zero_le _
  | t :: l, d :: ds, hl, h => by
    have h0 := h 0 t d rfl rfl
    have h1 := bk_of l ds (by simpa using hl) (fun i u e hu he => h (i + 1) u e (by simpa using hu) (by simpa using he))
    simp only [foOf, foBk, Rows.uptoBulkAll]
    unfold trBk at h0
    omega
  | [], _ :: _, hl, _ => by simp at hl
  | _ :: _, [], hl, _ => by simp at hl

section
variable {H : Type} {enc : TypeId × Value → H} {w : World} {base : Nat} {spare : Nat → Bool} {held : Bool}

set_option maxRecDepth 100000 in
set_option maxHeartbeats 1000000 in
theorem open_nodeK : ∀ (fuel : Nat) (cs : List Value) (x : DataW H × List MemPlace), DataW.trod enc Tryd.prog w base spare held fuel 25 cs = some x →
    ∃ (t : Tr) (ka : Option Addr) (cap : Nat), cs = [.int .i64 t.id, .int .i64 t.kind, .string t.text, .slice ka (foLen t.kids) cap] ∧ foLen t.kids ≤ cap ∧ FoAt w (Old w) t.kids ka ∧ Fits t ∧ trN t ∧ trBk t ≤ Rows.uptoBulk x.1 := by
  intro fuel
  induction fuel using Nat.strongRecOn with
  | ind fuel ih =>
    intro cs x h
    obtain ⟨xs, n, hn, hx, hl, hlen, hf⟩ := DataW.trod_struct Tryd.underlying25 h
    have h4 : Tryd.prog.cellsOf 25 = 4 := by kernel_rfl
    rw [h4] at hl
    match cs, hl with
    | [c0, c1, c2, c3], _ =>
      have k1 : Tryd.prog.cellsOf 3 = 1 := by kernel_rfl
      have k2 : Tryd.prog.cellsOf 9 = 1 := by kernel_rfl
      have k3 : Tryd.prog.cellsOf 23 = 1 := by kernel_rfl
      match xs, hlen with
      | [y0, y1, y2, y3], _ =>
        have t0 : DataW.trod enc Tryd.prog w base spare held n 3 (([c0, c1, c2, c3].drop 0).take (Tryd.prog.cellsOf 3)) = some y0 := hf 0 _ rfl
        have t1 : DataW.trod enc Tryd.prog w base spare held n 3 (([c0, c1, c2, c3].drop 1).take (Tryd.prog.cellsOf 3)) = some y1 := hf 1 _ rfl
        have t2 : DataW.trod enc Tryd.prog w base spare held n 9 (([c0, c1, c2, c3].drop 2).take (Tryd.prog.cellsOf 9)) = some y2 := hf 2 _ rfl
        have t3 : DataW.trod enc Tryd.prog w base spare held n 23 (([c0, c1, c2, c3].drop 3).take (Tryd.prog.cellsOf 23)) = some y3 := hf 3 _ rfl
        simp only [k1, k2, k3, List.drop_zero, List.take_succ_cons, List.take_zero, List.drop_succ_cons] at t0 t1 t2 t3
        obtain ⟨id, e0, eb0, wf0⟩ := DataW.trod_int Tryd.underlying3 t0
        obtain ⟨kd, e1, eb1, wf1⟩ := DataW.trod_int Tryd.underlying3 t1
        obtain ⟨tx, e2, eb2, _⟩ := DataW.trod_string Tryd.underlying9 t2
        simp only [List.cons.injEq, and_true] at e0 e1 e2
        subst e0; subst e1; subst e2
        have hbulk : 1 + tx.size + Rows.uptoBulk y3.1 ≤ Rows.uptoBulk x.1 := by
          rw [hx]
          simp only [List.map_cons, List.map_nil, Rows.uptoBulk, Rows.uptoBulkAll]
          rw [eb2]
          simp only [Rows.uptoBulk, Array.length_toList]
          show 1 + tx.size + _ ≤ _
          have : tx.data.size = tx.size := rfl
          omega
        rcases DataW.trod_slice Tryd.underlying23 t3 with ⟨e3, _⟩ | ⟨ad, len, cap, elems, rest, m, hm, e3, ey3, _, hlc, hcm, hel, hi, _⟩
        · simp only [List.cons.injEq, and_true] at e3
          subst e3
          exact ⟨⟨id, kd, tx, .nil⟩, none, 0, rfl, Nat.le_refl _, True.intro, ⟨Nat.zero_le _, True.intro⟩, ⟨⟨n64_of wf0, n64_of wf1⟩, True.intro⟩, by show 1 + tx.size + 0 ≤ _; omega⟩
        · simp only [List.cons.injEq, and_true] at e3
          subst e3
          rw [h4] at hi
          have each : ∀ i, i < len → ∃ (u : Tr), ∃ (ka : Option Addr) (kcap : Nat), w.cell? (ad.add (i * 4)) = some (.int .i64 u.id) ∧ w.cell? (ad.add (i * 4 + 1)) = some (.int .i64 u.kind) ∧ w.cell? (ad.add (i * 4 + 2)) = some (.string u.text) ∧
              w.cell? (ad.add (i * 4 + 3)) = some (.slice ka (foLen u.kids) kcap) ∧ foLen u.kids ≤ kcap ∧ FoAt w (Old w) u.kids ka ∧ Fits u ∧ trN u ∧ ∀ d, (elems.map (·.1))[i]? = some d → trBk u ≤ Rows.uptoBulk d := fun i hil => by
            have h1 := hi i hil
            obtain ⟨y, hy⟩ : ∃ y, elems[i]? = some y := ⟨elems[i]'(by omega), List.getElem?_eq_getElem _⟩
            rw [hy, Option.bind_eq_some_iff] at h1
            obtain ⟨cs', hc, ht⟩ := h1
            obtain ⟨_, _, hat⟩ := World.cells?_some hc
            obtain ⟨u, ka, kcap, rfl, hcp, hfo, hft, h64, hbk⟩ := ih m (by omega) cs' y ht
            have a0 := hat 0 (by omega)
            have a1 := hat 1 (by omega)
            have a2 := hat 2 (by omega)
            have a3 := hat 3 (by omega)
            rw [Deep.add_add] at a0 a1 a2 a3
            exact ⟨u, ka, kcap, a0, a1, a2, a3, hcp, hfo, hft, h64, fun d hd => by
              rw [List.getElem?_map, hy] at hd
              cases hd; exact hbk⟩
          obtain ⟨f, hff⟩ := Deep.choose_lt each
          have hls : foLen (foOf ((List.range len).map f)) = len := by rw [foLen_of]; simp
          refine ⟨⟨id, kd, tx, foOf ((List.range len).map f)⟩, some ad, cap, by rw [hls], by rw [hls]; exact hlc, ?_, ⟨?_, ?_⟩, ⟨⟨n64_of wf0, n64_of wf1⟩, foN_of _ fun u hu => ?_⟩, ?_⟩
          · cases hl0 : len with
            | zero => exact True.intro
            | succ len' =>
              rw [← hl0]
              obtain ⟨b, off, spot⟩ := ad
              obtain ⟨_, _, hz, _⟩ := hff 0 (by omega)
              have hsp : spot = none := by simpa [Addr.add] using World.cell?_spot hz
              subst hsp
              have hlt := cell_lt hz
              rw [add_block] at hlt
              refine foAt_of (show Old w b from hlt) _ off fun i u hu => ?_
              rw [List.getElem?_map, Option.map_eq_some_iff] at hu
              obtain ⟨j, hj, rfl⟩ := hu
              obtain ⟨hlt', rfl⟩ := List.getElem?_eq_some_iff.1 hj
              simp only [List.length_range] at hlt'
              simp only [List.getElem_range]
              obtain ⟨ka, kcap, h0, h1, h2, h3, hcp, hfo, _, _⟩ := hff i hlt'
              rw [Addr.add_mid] at h0 h1 h2 h3
              exact ⟨ka, kcap, h0, by rw [Nat.add_assoc]; exact h1, by rw [Nat.add_assoc]; exact h2, by rw [Nat.add_assoc]; exact h3, hcp, hfo⟩
          · show foLen (foOf ((List.range len).map f)) ≤ _
            rw [hls]; unfold maxLen at hcm; omega
          · refine foFit_of _ fun u hu => ?_
            simp only [List.mem_map, List.mem_range] at hu
            obtain ⟨i, hil, rfl⟩ := hu
            obtain ⟨_, _, _, _, _, _, _, _, hft, _⟩ := hff i hil
            exact hft
          · simp only [List.mem_map, List.mem_range] at hu
            obtain ⟨i, hil, rfl⟩ := hu
            obtain ⟨_, _, _, _, _, _, _, _, _, h64, _⟩ := hff i hil
            exact h64
          · have hs := bk_of ((List.range len).map f) (elems.map (·.1)) (by simp [hel]) (fun i u d hu hd => by
              rw [List.getElem?_map, Option.map_eq_some_iff] at hu
              obtain ⟨j, hj, rfl⟩ := hu
              obtain ⟨hlt', rfl⟩ := List.getElem?_eq_some_iff.1 hj
              simp only [List.length_range] at hlt'
              simp only [List.getElem_range]
              obtain ⟨_, _, _, _, _, _, _, _, _, _, hbk⟩ := hff i hlt'
              exact hbk d hd)
            rw [ey3] at hbulk
            simp only [Rows.uptoBulk] at hbulk
            show 1 + tx.size + foBk (foOf ((List.range len).map f)) ≤ _
            omega
/-- A slice of bytes that came in. -/
theorem open_bytesK {fuel : Nat} {v : Value} {x : DataW H × List MemPlace} (h : DataW.trod enc Tryd.prog w base spare held fuel 22 [v] = some x) : ∃ (bs : List UInt8) (a : Option Addr) (cap : Nat), v = .slice a bs.length cap ∧ ByAt w a bs ∧ bs.length ≤ cap ∧ (cap : Int) ≤ 9223372036854775807 := by
  have cell_num : ∀ {n : Int}, (Lit.int .u8 n).wf = true → Extern.Stop.cell (UInt8.ofNat n.toNat) = .int .u8 n := fun {n} h => by
    have hb := bounds_u8 h
    have e : n % 256 = n := by omega
    have h3 := opByte_cell n
    unfold opByte at h3
    rw [e] at h3
    exact h3
  rcases open_ints Tryd.underlying22 Tryd.underlying5 (by kernel_rfl) h with ⟨hcs, _⟩ | ⟨a, len, cap, zs, hcs, _, hl, hm, hz, _, hcell, hwz⟩
  · simp only [List.cons.injEq, and_true] at hcs
    subst hcs
    exact ⟨[], none, 0, rfl, ⟨fun _ => rfl, fun ad e => (by cases e)⟩, Nat.le_refl _, (by omega)⟩
  · simp only [List.cons.injEq, and_true] at hcs
    subst hcs
    have hlz : len ≤ zs.length := by rw [hz]; split <;> omega
    have hlen : ((zs.take len).map fun n => UInt8.ofNat n.toNat).length = len := by simp [Nat.min_eq_left hlz]
    refine ⟨(zs.take len).map fun n => UInt8.ofNat n.toNat, some a, cap, by rw [hlen], ⟨fun e => (by cases e), fun ad e j u hj => ?_⟩, (by rw [hlen]; omega), (by unfold maxLen at hm; omega)⟩
    cases e
    rw [List.getElem?_map, Option.map_eq_some_iff] at hj
    obtain ⟨n, hn, rfl⟩ := hj
    rw [List.getElem?_take] at hn
    split at hn
    · have hj' : j < zs.length := (List.getElem?_eq_some_iff.1 hn).1
      rw [hcell j hj', List.getD_eq_getElem?_getD, hn]
      exact congrArg some (cell_num (hwz n (List.mem_of_getElem? hn))).symm
    · cases hn
end
end Go.Proofs.YteccnekdmehloaaDoor
