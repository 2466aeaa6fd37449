/-
  A row of acts on a net that came in, read out of memory; what 'great' answers of it: where it answers false the acts are few and their trees small. No condition.
  What 'great' answers of a row of acts on a net: where it answers false the acts are at most 1100, their steps at most 60, their trees of at most 2000 nodes. No condition.
-/
import Derived.Test.YtklpafognbodhaaOpenMsg
namespace Go.Proofs.Ytklpafognbodhaa
open Go.ChangeShapes Go.WideShapes Go.ChangeAt Go.RowKit

structure NAct where
  act : Int
  k : Int
  m : Msg
instance : Inhabited NAct := ⟨⟨0, 0, default⟩⟩
def nactCells (x : NAct) (sa : Option Addr) (sc : Nat) (ka : Option Addr) (cap : Nat) : List Value := [.int .i64 x.act, .int .i64 x.k] ++ msgCells x.m sa sc ka cap
def NActsAt (w : World) (S : Nat → Prop) (a : Option Addr) (l : List NAct) : Prop :=
  0 < l.length → ∃ b off, a = some ⟨b, off, none⟩ ∧ S b ∧ ∀ k x, l[k]? = some x → ∃ sa sc ka cap, (∀ j u, (nactCells x sa sc ka cap)[j]? = some u → w.cell? ⟨b, off + k * 18 + j, none⟩ = some u) ∧ MsgIn w S x.m sa ka
theorem NActsAt.kept {w w' : World} {S S' : Nat → Prop} {a : Option Addr} {l : List NAct} (h : NActsAt w S a l) (hS : ∀ k, S k → S' k ∧ w'.heap[k]? = w.heap[k]?) : NActsAt w' S' a l := fun h0 => by
  obtain ⟨b, off, e, hb, hc⟩ := h h0
  refine ⟨b, off, e, (hS b hb).1, fun k x hx => ?_⟩
  obtain ⟨sa, sc, ka, cap, h1, h2⟩ := hc k x hx
  exact ⟨sa, sc, ka, cap, fun j u hj => (World.cell?_of_block (hS b hb).2).trans (h1 j u hj), h2.kept hS⟩

section
variable {H : Type} {enc : TypeId × Value → H} {w : World} {base : Nat} {spare : Nat → Bool} {held : Bool}
theorem open_nact (fuel : Nat) (cs : List Value) (x : DataW H × List MemPlace) (h : DataW.trod enc Try.prog w base spare held fuel 42 cs = some x) :
    ∃ (y : NAct) (sa : Option Addr) (sc : Nat) (ka : Option Addr) (cap : Nat), cs = nactCells y sa sc ka cap ∧ MsgIn w (Old w) y.m sa ka ∧ y.m.fits := by
  obtain ⟨y0, y1, y2, n, _, hl, t0, t1, t2⟩ := Deep.trod_struct3 Try.underlying42 h
  have h18 : Try.prog.cellsOf 42 = 18 := by kernel_rfl
  rw [h18] at hl
  have k1 : Try.prog.cellsOf 3 = 1 := by kernel_rfl
  have k2 : Try.prog.cellsOf 40 = 16 := by kernel_rfl
  match cs, hl with
  | c0 :: c1 :: cs', hl =>
    have hl' : cs'.length = 16 := by simpa using hl
    simp only [k1, k2, List.drop_zero, List.take_succ_cons, List.take_zero, List.drop_succ_cons] at t0 t1 t2
    rw [List.take_of_length_le (by omega)] at t2
    obtain ⟨n0, e0, _, _⟩ := DataW.trod_int Try.underlying3 t0
    obtain ⟨n1, e1, _, _⟩ := DataW.trod_int Try.underlying3 t1
    obtain ⟨m, sa, sc, ka, cap, e2, hin, hft⟩ := open_msg n _ y2 t2
    simp only [List.cons.injEq, and_true] at e0 e1
    subst e0; subst e1; subst e2
    exact ⟨⟨n0, n1, m⟩, sa, sc, ka, cap, rfl, hin, hft⟩

theorem open_nacts {a : Option Addr} {len cap : Nat} {d : DataW H} {ps : List MemPlace} (h : DataW.Trod enc Try.prog w base spare held 22 (.slice a len cap) d ps) :
    ∃ l : List NAct, l.length = len ∧ NActsAt w (Old w) a l ∧ ∀ x ∈ l, x.m.fits := by
  obtain ⟨fuel, hf⟩ := h
  rcases Deep.open_slice Try.underlying22 hf with ⟨hcs, _⟩ | ⟨ad, len', cap', m, n, D, Pl, hcs, _, hl, hm, hmm, _, hi⟩
  · simp [Value.cells] at hcs
    obtain ⟨rfl, rfl, rfl⟩ := hcs
    exact ⟨[], rfl, fun h => by simp at h, fun x hx => by cases hx⟩
  · simp [Value.cells] at hcs
    obtain ⟨rfl, rfl, rfl⟩ := hcs
    have hle : len ≤ m := by rw [hmm]; split <;> omega
    have h18 : Try.prog.cellsOf 42 = 18 := by kernel_rfl
    rw [h18] at hi
    have each : ∀ i, i < len → ∃ (y : NAct), ∃ (sa : Option Addr) (sc : Nat) (ka : Option Addr) (kcap : Nat), (∀ j u, (nactCells y sa sc ka kcap)[j]? = some u → w.cell? (ad.add (i * 18 + j)) = some u) ∧ MsgIn w (Old w) y.m sa ka ∧ y.m.fits := fun i hil => by
      obtain ⟨cs', hc, ht⟩ := hi i (by omega)
      obtain ⟨_, _, hat⟩ := World.cells?_some hc
      obtain ⟨y, sa, sc, ka, kcap, rfl, hfo, hft⟩ := open_nact n cs' _ ht
      refine ⟨y, sa, sc, ka, kcap, fun j u hj => ?_, hfo, hft⟩
      have hj9 : j < 18 := (List.getElem?_eq_some_iff.1 hj).1
      have := hat j hj9
      rw [Deep.add_add, hj] at this
      exact this
    obtain ⟨f, hff⟩ := Deep.choose_lt each
    refine ⟨(List.range len).map f, by simp, fun h0 => ?_, fun s hs => ?_⟩
    · have h0' : 0 < len := by simpa using h0
      obtain ⟨b, off, spot⟩ := ad
      obtain ⟨_, _, _, _, hz, _⟩ := hff 0 h0'
      have hz0 := hz 0 _ rfl
      have hsp : spot = none := by simpa [Addr.add] using World.cell?_spot hz0
      subst hsp
      have hlt := cell_lt hz0
      rw [add_block] at hlt
      refine ⟨b, off, rfl, hlt, fun i u hu => ?_⟩
      rw [List.getElem?_map, Option.map_eq_some_iff] at hu
      obtain ⟨j, hj, rfl⟩ := hu
      obtain ⟨hlt', rfl⟩ := List.getElem?_eq_some_iff.1 hj
      simp only [List.length_range] at hlt'
      simp only [List.getElem_range]
      obtain ⟨sa, sc, ka, kcap, hz, hfo, _⟩ := hff i hlt'
      simp only [Addr.add_mid, ← Nat.add_assoc] at hz
      exact ⟨sa, sc, ka, kcap, hz, hfo⟩
    · simp only [List.mem_map, List.mem_range] at hs
      obtain ⟨i, hil, rfl⟩ := hs
      obtain ⟨_, _, _, _, _, _, hft⟩ := hff i hil
      exact hft
end

end Go.Proofs.Ytklpafognbodhaa
namespace Go.Proofs.Ytklpafognbodhaa
open Go.RowKit

def Msg.tiny (m : Msg) : Prop := m.steps.length ≤ 60 ∧ (∀ s ∈ m.steps, foSize s.sub.kids ≤ 2000) ∧ foSize m.tree.kids ≤ 2000
def NGreatC (w : World) (l : List NAct) (e : Ending) (w' : World) : Prop := ∃ b, e = .returned (.bool b) ∧ (b = false → l.length ≤ 1100 ∧ ∀ x ∈ l, x.m.tiny) ∧ Below w.heap.size w w'
theorem NGreatC.yes {w w' : World} {l : List NAct} (h : Below w.heap.size w w') : NGreatC w l (.returned (.bool true)) w' := ⟨true, rfl, (fun e => by cases e), h⟩

set_option maxRecDepth 100000 in
set_option maxHeartbeats 2000000 in
theorem ngreat_any (w : World) (a : Option Addr) (cap : Nat) (l : List NAct) (hlen : l.length ≤ 9223372036854775807) (h : NActsAt w (Old w) a l) (hft : ∀ x ∈ l, x.m.fits) :
    Calls Try.prog 4 #[.slice a l.length cap] w (NGreatC w l) := by
  obtain ⟨len, hl⟩ : ∃ len, len = l.length := ⟨_, rfl⟩
  rw [← hl]
  rw [← hl] at hlen
  have HL := Lib.hid hl
  have HA := Lib.hid (And.intro h hft)
  clear hl h hft
  by_cases hmany : 1100 < len
  · have hm2 : (1100 : Int) < (len : Int) := by omega
    go_enter Try.func4, Try.ntmps4
    go_wp2_with fail
    go_ret
    exact NGreatC.yes (Below.refl _ _)
  · have hm2 : ¬ (1100 : Int) < (len : Int) := by omega
    have hm3 : len ≤ 1100 := by omega
    clear hlen hmany
    go_enter Try.func4, Try.ntmps4
    go_wp2_with fail
    go_loopw [3] (fun i wr => ∃ k : Nat, k ≤ len ∧ i = .int .i64 k ∧ Below w.heap.size w wr ∧ ∀ x ∈ l.take k, x.m.tiny) (fun i _ => len - (intOf i).toNat)
    case atStart => exact ⟨0, Nat.zero_le _, rfl, Below.refl _ _, fun x hx => by simp at hx⟩
    case round =>
      obtain ⟨wo, rfl⟩ : ∃ wo, wo = wr := ⟨_, rfl⟩
      obtain ⟨k, hk, rfl, hbel, htiny⟩ := hrel
      have HB := Lib.hid hbel
      have HT := Lib.hid htiny
      clear hbel htiny
      by_cases hlt : k < len
      · obtain ⟨x, hx⟩ : ∃ x, l[k]? = some x := ⟨l[k]'(by have := HL.out; omega), List.getElem?_eq_getElem _⟩
        have hfit := HA.out.2 x (List.mem_of_getElem? hx)
        obtain ⟨b, off, rfl, hSb, hc⟩ := (HA.out.1.kept (w' := wo) (S' := Old w) fun y hy => ⟨hy, HB.out.block y hy⟩) (by have := HL.out; omega)
        obtain ⟨sa, sc, ka, kcap, hcells, hin⟩ := hc k x hx
        obtain ⟨sl, hsl⟩ : ∃ y, y = x.m.steps.length := ⟨_, rfl⟩
        obtain ⟨tl, htl⟩ : ∃ y, y = foLen x.m.tree.kids := ⟨_, rfl⟩
        have hrange : wo.rangeAt b (off + k * 18 + 2) [.int .i8 x.m.kind, .int .i64 x.m.frm, .int .i64 x.m.to, .int .i64 x.m.boot, .int .i64 x.m.server, .int .i64 x.m.number, .int .i64 x.m.node, .int .i64 x.m.lease, .int .i64 x.m.epoch, .int .i64 x.m.version, .int .i64 x.m.e, .slice sa sl sc, .int .i64 x.m.tree.id, .int .i64 x.m.tree.kind, .string x.m.tree.text, .slice ka tl kcap] := fun j u hj => by
          rw [hsl, htl] at hj
          have := hcells (j + 2) u (by simpa [nactCells, msgCells] using hj)
          rw [show off + k * 18 + 2 + j = off + k * 18 + (j + 2) by omega]; exact this
        have HX := Lib.hid (And.intro hx (And.intro hfit (And.intro hin (And.intro hsl htl))))
        have HR := Lib.hid hrange
        have hkl : (k : Int) < (len : Int) := by omega
        clear hx hfit hin hsl htl hrange hc hcells hSb
        have hb1 : Below w.heap.size w (wo.alloc (.cells #[.int .i8 x.m.kind, .int .i64 x.m.frm, .int .i64 x.m.to, .int .i64 x.m.boot, .int .i64 x.m.server, .int .i64 x.m.number, .int .i64 x.m.node, .int .i64 x.m.lease, .int .i64 x.m.epoch, .int .i64 x.m.version, .int .i64 x.m.e, .slice sa sl sc, .int .i64 x.m.tree.id, .int .i64 x.m.tree.kind, .string x.m.tree.text, .slice ka tl kcap] 40)) := HB.out.alloc HB.out.size _
        have htr := great_tree (wo.alloc (.cells #[.int .i8 x.m.kind, .int .i64 x.m.frm, .int .i64 x.m.to, .int .i64 x.m.boot, .int .i64 x.m.server, .int .i64 x.m.number, .int .i64 x.m.node, .int .i64 x.m.lease, .int .i64 x.m.epoch, .int .i64 x.m.version, .int .i64 x.m.e, .slice sa sl sc, .int .i64 x.m.tree.id, .int .i64 x.m.tree.kind, .string x.m.tree.text, .slice ka tl kcap] 40)) (Old w) (.agg #[.int .i64 x.m.tree.id, .int .i64 x.m.tree.kind, .string x.m.tree.text, .slice ka (foLen x.m.tree.kids) kcap]) x.m.tree HX.out.2.1.2.2.1 HX.out.2.1.2.2.2 (fun y hy => Nat.lt_of_lt_of_le hy hb1.size) ⟨ka, kcap, rfl, HX.out.2.2.1.2.kept fun y hy => ⟨hy, Below.heap_alloc wo _ y (Nat.lt_of_lt_of_le hy HB.out.size)⟩⟩
        rw [← HX.out.2.2.2.2] at htr
        have HTR := Lib.hid htr
        have HB1 := Lib.hid hb1
        clear htr hb1
        by_cases hs60 : 60 < sl
        · have hs61 : (60 : Int) < (sl : Int) := by omega
          go_wp2_with (with_reducible refine wpList_load_mid rfl 40 (.tmp 18) rfl b (off + k * 18 + 2) rfl _ _ HR.out Try.underlying40 rfl (by kernel_rfl) ?_)
          go_ret
          exact NGreatC.yes HB1.out
        · have hs61 : ¬ (60 : Int) < (sl : Int) := by omega
          go_wp2_with (with_reducible refine wpList_load_mid rfl 40 (.tmp 18) rfl b (off + k * 18 + 2) rfl _ _ HR.out Try.underlying40 rfl (by kernel_rfl) ?_)
          refine HTR.out.mono ?_
          rintro e w2 ⟨bt, rfl, hbt, hb2⟩
          have HB2 := Lib.hid (HB1.out.trans (hb2.mono HB1.out.size))
          cases bt
          · have hp : w2.heap[wo.heap.size]? = some (.cells #[.int .i8 x.m.kind, .int .i64 x.m.frm, .int .i64 x.m.to, .int .i64 x.m.boot, .int .i64 x.m.server, .int .i64 x.m.number, .int .i64 x.m.node, .int .i64 x.m.lease, .int .i64 x.m.epoch, .int .i64 x.m.version, .int .i64 x.m.e, .slice sa sl sc, .int .i64 x.m.tree.id, .int .i64 x.m.tree.kind, .string x.m.tree.text, .slice ka tl kcap] 40 (0, 0)) := (hb2.block _ (by simp)).trans (heap_alloc_new wo _)
            have hsz2 : wo.heap.size < w2.heap.size := lt_of_some hp
            have htree : foSize x.m.tree.kids ≤ 2000 := by have := hbt rfl; omega
            have p11 : w2.cell? ⟨wo.heap.size, 11, none⟩ = some (.slice sa sl sc) := by rw [cell_of_row w2 _ 11 _ _ _ hp]; rfl
            have HP := Lib.hid (And.intro hp (And.intro hsz2 htree))
            clear hbt hb2 hp hsz2 htree
            go_wp2_with fail
            go_loopw [5] (fun i wq => ∃ q : Nat, q ≤ sl ∧ i = .int .i64 q ∧ Below w2.heap.size w2 wq ∧ ∀ s ∈ x.m.steps.take q, foSize s.sub.kids ≤ 2000) (fun i _ => sl - (intOf i).toNat)
            case atStart => exact ⟨0, Nat.zero_le _, rfl, Below.refl _ _, fun s hs => by simp at hs⟩
            case round =>
              obtain ⟨q, hq, rfl, hbq, hsm⟩ := hrel
              have hsz3 := HP.out.2.1
              have r11 : wr.cell? ⟨wo.heap.size, 11, none⟩ = some (.slice sa sl sc) := (hbq.cell (p := ⟨wo.heap.size, 11, none⟩) hsz3).trans p11
              have HBQ := Lib.hid (HB2.out.trans (hbq.mono HB2.out.size))
              have HQ := Lib.hid (And.intro hbq hsm)
              clear hbq hsm hsz3
              by_cases hqs : q < sl
              · obtain ⟨s, hs⟩ : ∃ s, x.m.steps[q]? = some s := ⟨x.m.steps[q]'(by have := HX.out.2.2.2.1; omega), List.getElem?_eq_getElem _⟩
                have hsf := HX.out.2.1.2.1 s (List.mem_of_getElem? hs)
                have hin : StepsAt wo (Old w) sa x.m.steps := HX.out.2.2.1.1
                obtain ⟨b', off', rfl, _, hc'⟩ := (hin.kept (w' := wr) (S' := Old w) fun y hy => ⟨hy, (HBQ.out.block y hy).trans (HB.out.block y hy).symm⟩) (by have := HX.out.2.2.2.1; omega)
                obtain ⟨ka', cap', _, _, _, _, _, c5, c6, c7, c8, hfo'⟩ := hc' q s hs
                have htr := great_tree wr (Old w) (.agg #[.int .i64 s.sub.id, .int .i64 s.sub.kind, .string s.sub.text, .slice ka' (foLen s.sub.kids) cap']) s.sub hsf.1 hsf.2 (fun y hy => Nat.lt_of_lt_of_le hy HBQ.out.size) ⟨ka', cap', rfl, hfo'⟩
                obtain ⟨ml, hml⟩ : ∃ y, y = foLen s.sub.kids := ⟨_, rfl⟩
                rw [← hml] at htr c8
                have HTS := Lib.hid htr
                have HS := Lib.hid hs
                have hql : (q : Int) < (sl : Int) := by omega
                clear htr hml hfo' hc' hin hsf hs
                go_wp2_with fail
                refine HTS.out.mono ?_
                rintro e w3 ⟨bs, rfl, hbs, hb3⟩
                have HB3 := Lib.hid (HBQ.out.trans (hb3.mono HBQ.out.size))
                cases bs
                · have HT3 := Lib.hid (And.intro (show foSize s.sub.kids ≤ 2000 by have := hbs rfl; omega) (HQ.out.1.trans (hb3.mono HQ.out.1.size)))
                  clear hbs hb3
                  go_wp2_with fail
                  refine ⟨⟨q + 1, by omega, by go_num, HT3.out.2, fun y hy => ?_⟩, by simp [intOf]; omega⟩
                  have he : x.m.steps.take (q + 1) = x.m.steps.take q ++ [s] := by
                    obtain ⟨hk, rfl⟩ := List.getElem?_eq_some_iff.1 HS.out
                    rw [List.take_add_one, List.getElem?_eq_getElem hk]; rfl
                  rw [he, List.mem_append, List.mem_singleton] at hy
                  rcases hy with hy | rfl
                  · exact HQ.out.2 y hy
                  · exact HT3.out.1
                · clear hbs hb3
                  go_wp2_with fail
                  go_ret
                  exact NGreatC.yes HB3.out
              · have hql : ¬ (q : Int) < (sl : Int) := by omega
                have hqq : q = sl := by omega
                have HTT : Hid (∀ s ∈ x.m.steps, foSize s.sub.kids ≤ 2000) := by
                  have := HQ.out.2
                  rw [hqq, HX.out.2.2.2.1, List.take_length] at this
                  exact this
                have HLEN := Lib.hid (show x.m.steps.length ≤ 60 by have := HX.out.2.2.2.1; omega)
                clear hqq
                go_wp2_with fail
                refine ⟨⟨k + 1, by omega, by go_num, HBQ.out, fun y hy => ?_⟩, by simp [intOf]; omega⟩
                have he : l.take (k + 1) = l.take k ++ [x] := by
                  obtain ⟨hk, rfl⟩ := List.getElem?_eq_some_iff.1 HX.out.1
                  rw [List.take_add_one, List.getElem?_eq_getElem hk]; rfl
                rw [he, List.mem_append, List.mem_singleton] at hy
                rcases hy with hy | rfl
                · exact HT.out y hy
                · exact ⟨HLEN.out, HTT.out, HP.out.2.2⟩
          · clear hbt hb2
            go_wp2_with fail
            go_ret
            exact NGreatC.yes HB2.out
      · have hkk : k = len := by omega
        have hkl : ¬ (k : Int) < (len : Int) := by omega
        have HR : Hid (∀ x ∈ l, x.m.tiny) := by
          have := HT.out
          rw [hkk, HL.out, List.take_length] at this
          exact this
        clear hkk
        go_wp2_with fail
        go_ret
        exact ⟨false, rfl, fun _ => ⟨by rw [← HL.out]; exact hm3, HR.out⟩, HB.out⟩

end Go.Proofs.Ytklpafognbodhaa
