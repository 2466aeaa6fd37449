/-
  .
-/
import Derived.Test.YtgkmmnihaiopaaaRows
import Derived.WalkKit
import Derived.WalkSpells
import Derived.WalkLawsBesides
import Derived.Lib.Hide
import Derived.Test.YtgkmmnihaiopaaaHPathQa
import Derived.Deep.RegionHeld3
import Derived.StillTailTactics
import Derived.ProofKit
import Derived.OpenShut
import Derived.Deep.Slices
import Derived.Deep.Strs
import Derived.Lib.SmallJoins
import Derived.Laws.BytesArg
import Derived.Test.YtgkmmnihaiopaaaJPgQa
set_option maxRecDepth 100000
set_option maxHeartbeats 40000000

namespace Go.Proofs.Ytgkmmnihaiopaaa
open Go.RowKit
structure Sl where
 kinds : List Int
 least : Int
 most : Int
structure Kd where
 name : ByteArray
 text : Bool
 slots : List Sl
structure Gr where
 kinds : List Kd
 root : Int
instance : Inhabited Sl := ⟨⟨[], 0, 0⟩⟩
instance : Inhabited Kd := ⟨⟨⟨#[]⟩, false, []⟩⟩
def yK (w : World) (a : Option Addr) (l : List Int) : Prop :=
 0 < l.length → ∃ b off, a = some ⟨b, off, none⟩ ∧ b < w.heap.size ∧ ∀ k x, l[k]? = some x → w.cell? ⟨b, off + k, none⟩ = some (.int .i64 x)
def JO (w : World) (b o : Nat) (s : Sl) : Prop :=
 ∃ ka kc, w.cell? ⟨b, o, none⟩ = some (.slice ka s.kinds.length kc) ∧ w.cell? ⟨b, o + 1, none⟩ = some (.int .i64 s.least) ∧ w.cell? ⟨b, o + 2, none⟩ = some (.int .i64 s.most) ∧ yK w ka s.kinds
def qp (w : World) (a : Option Addr) (l : List Sl) : Prop :=
 0 < l.length → ∃ b off, a = some ⟨b, off, none⟩ ∧ b < w.heap.size ∧ ∀ k s, l[k]? = some s → JO w b (off + k * 3) s
def JK (w : World) (b o : Nat) (k : Kd) : Prop :=
 ∃ sa sc, w.cell? ⟨b, o, none⟩ = some (.string k.name) ∧ w.cell? ⟨b, o + 1, none⟩ = some (.bool k.text) ∧ w.cell? ⟨b, o + 2, none⟩ = some (.slice sa k.slots.length sc) ∧ qp w sa k.slots
def jd (w : World) (a : Option Addr) (l : List Kd) : Prop :=
 0 < l.length → ∃ b off, a = some ⟨b, off, none⟩ ∧ b < w.heap.size ∧ ∀ k x, l[k]? = some x → JK w b (off + k * 3) x
theorem yK.below {w w' : World} {a : Option Addr} {l : List Int} (h : yK w a l) (hb : Below w.heap.size w w') : yK w' a l := fun h0 => by
 obtain ⟨b, off, e, hlt, hc⟩ := h h0
 exact ⟨b, off, e, nL hlt hb.size, fun k x hx => (World.cell?_of_block (hb.block _ hlt)).trans (hc k x hx)⟩
theorem JO.below {w w' : World} {b o : Nat} {s : Sl} (h : JO w b o s) (hlt : b < w.heap.size) (hb : Below w.heap.size w w') : JO w' b o s := by
 obtain ⟨ka, kc, h0, h1, h2, h3⟩ := h
 have e : ∀ j, w'.cell? ⟨b, j, none⟩ = w.cell? ⟨b, j, none⟩ := fun j => World.cell?_of_block (hb.block _ hlt)
 exact ⟨ka, kc, (e _).trans h0, (e _).trans h1, (e _).trans h2, h3.below hb⟩
theorem qp.below {w w' : World} {a : Option Addr} {l : List Sl} (h : qp w a l) (hb : Below w.heap.size w w') : qp w' a l := fun h0 => by
 obtain ⟨b, off, e, hlt, hc⟩ := h h0
 exact ⟨b, off, e, nL hlt hb.size, fun k x hx => (hc k x hx).below hlt hb⟩
theorem JK.below {w w' : World} {b o : Nat} {k : Kd} (h : JK w b o k) (hlt : b < w.heap.size) (hb : Below w.heap.size w w') : JK w' b o k := by
 obtain ⟨sa, sc, h0, h1, h2, h3⟩ := h
 have e : ∀ j, w'.cell? ⟨b, j, none⟩ = w.cell? ⟨b, j, none⟩ := fun j => World.cell?_of_block (hb.block _ hlt)
 exact ⟨sa, sc, (e _).trans h0, (e _).trans h1, (e _).trans h2, h3.below hb⟩
theorem jd.below {w w' : World} {a : Option Addr} {l : List Kd} (h : jd w a l) (hb : Below w.heap.size w w') : jd w' a l := fun h0 => by
 obtain ⟨b, off, e, hlt, hc⟩ := h h0
 exact ⟨b, off, e, nL hlt hb.size, fun k x hx => (hc k x hx).below hlt hb⟩
def Yy (w : World) (v : Value) (s : Sl) : Prop := ∃ ka kc, v = .agg #[.slice ka s.kinds.length kc, .int .i64 s.least, .int .i64 s.most] ∧ yK w ka s.kinds
def zas (w : World) (v : Value) (k : Kd) : Prop := ∃ sa sc, v = .agg #[.string k.name, .bool k.text, .slice sa k.slots.length sc] ∧ qp w sa k.slots
def GrV (w : World) (v : Value) (g : Gr) : Prop := ∃ ka kc, v = .agg #[.slice ka g.kinds.length kc, .int .i64 g.root] ∧ jd w ka g.kinds
theorem Yy.below {w w' : World} {v : Value} {s : Sl} (h : Yy w v s) (hb : Below w.heap.size w w') : Yy w' v s := by obtain ⟨ka, kc, e, h1⟩ := h; exact ⟨ka, kc, e, h1.below hb⟩
theorem zas.below {w w' : World} {v : Value} {k : Kd} (h : zas w v k) (hb : Below w.heap.size w w') : zas w' v k := by obtain ⟨ka, kc, e, h1⟩ := h; exact ⟨ka, kc, e, h1.below hb⟩
theorem GrV.below {w w' : World} {v : Value} {g : Gr} (h : GrV w v g) (hb : Below w.heap.size w w') : GrV w' v g := by obtain ⟨ka, kc, e, h1⟩ := h; exact ⟨ka, kc, e, h1.below hb⟩
theorem Q6 {w : World} {s : Sl} {ka : Option Addr} {kc : Nat} (h : yK w ka s.kinds) : Yy w (.agg #[.slice ka s.kinds.length kc, .int .i64 s.least, .int .i64 s.most]) s := ⟨ka, kc, rfl, h⟩
theorem zge {w : World} {k : Kd} {sa : Option Addr} {sc : Nat} (h : qp w sa k.slots) : zas w (.agg #[.string k.name, .bool k.text, .slice sa k.slots.length sc]) k := ⟨sa, sc, rfl, h⟩
theorem grV {w : World} {l : List Kd} {root : Int} {ka : Option Addr} {kc : Nat} (h : jd w ka l) : GrV w (.agg #[.slice ka l.length kc, .int .i64 root]) ⟨l, root⟩ := ⟨ka, kc, rfl, h⟩
def Sl.fits (s : Sl) : Prop := (s.kinds.length : Int) ≤ 9223372036854775807
def Kd.fits (k : Kd) : Prop := (k.name.size : Int) ≤ 9223372036854775807 ∧ (k.slots.length : Int) ≤ 9223372036854775807 ∧ ∀ s ∈ k.slots, s.fits
def Gr.fits (g : Gr) : Prop := (g.kinds.length : Int) ≤ 9223372036854775807 ∧ ∀ k ∈ g.kinds, k.fits
def Sl.few (s : Sl) : Prop := s.kinds.length ≤ 1000000
def Kd.few (k : Kd) : Prop := k.name.size ≤ 1000000 ∧ k.slots.length ≤ 1000000 ∧ ∀ s ∈ k.slots, s.few
def Gr.few (g : Gr) : Prop := g.kinds.length ≤ 1000000 ∧ ∀ k ∈ g.kinds, k.few
def Says (b : Bool) (w : World) (e : Ending) (w' : World) : Prop := e = .returned (.bool b) ∧ Below w.heap.size w w'
theorem Says.mk {b c : Bool} {w w' : World} (h : b = c) (hb : Below w.heap.size w w') : Says b w (.returned (.bool c)) w' := ⟨by rw [h], hb⟩
def yB (n : Int) (w : World) (e : Ending) (w' : World) : Prop := e = .returned (.int .i64 n) ∧ Below w.heap.size w w'
theorem yB.mk {b c : Int} {w w' : World} (h : b = c) (hb : Below w.heap.size w w') : yB b w (.returned (.int .i64 c)) w' := ⟨by rw [h], hb⟩
def Zr (s : Sl) : Bool := decide (40 < s.kinds.length)
def jP (k : Kd) : Bool := decide (200 < k.name.size) || decide (20 < k.slots.length) || k.slots.any Zr
def kG (g : Gr) : Bool := decide (40 < g.kinds.length) || g.kinds.any jP
theorem Yj {α : Type} {l : List α} {k : Nat} {x : α} (h : l[k]? = some x) : l.drop k = x :: l.drop (k + 1) := by
 obtain ⟨hk, rfl⟩ := List.getElem?_eq_some_iff.1 h
 exact List.drop_eq_getElem_cons hk
theorem Qm {α : Type} {f : α → Bool} {l : List α} {k : Nat} {x : α} {r : Bool} (hr : r = (l.drop k).any f) (h : l[k]? = some x) : r = (f x || (l.drop (k + 1)).any f) := by rw [hr, Yj h]; rfl
theorem Y3 {α : Type} {f : α → Bool} {l : List α} {k : Nat} {r : Bool} (hr : r = (l.drop k).any f) (h : l.length ≤ k) : r = false := by rw [hr, List.drop_eq_nil_of_le h]; rfl
def zgq (w : World) (c : Array Value) (l : List Kd) (i : Value) (wr : World) : Prop :=
 ∃ k : Nat, k ≤ l.length ∧ i = .int .i64 k ∧ wr.heap[w.heap.size]? = some (.cells c 24 (0, 0)) ∧ Below w.heap.size w wr ∧ l.any jP = (l.drop k).any jP
def zfC (W : World) (l : List Sl) (j : Value) (wr : World) : Prop :=
 ∃ k : Nat, k ≤ l.length ∧ j = .int .i64 k ∧ W = wr ∧ l.any Zr = (l.drop k).any Zr
theorem zcd (w : World) (v : Value) (g : Gr) (hv : GrV w v g) (hf : g.fits) : Calls Try.prog 13 #[v] w (Says (kG g) w) := by
 obtain ⟨ka, kc, rfl, hk⟩ := hv
 obtain ⟨l, root⟩ := g
 simp only at hk hf ⊢
 have hfl : (l.length : Int) ≤ 9223372036854775807 := hf.1
 have HF := hH hf.2
 have HK := hH hk
 clear hf hk
 by_cases h40 : 40 < l.length
 · have h40' : (40 : Int) < (l.length : Int) := by omega
   have HG := hH (show kG ⟨l, root⟩ = true by simp [kG, h40])
   go_enter Try.func13, Try.ntmps13
   go_wp2_with fail
   go_ret
   exact Says.mk HG.out (zh _ _)
 · have h40' : ¬ (40 : Int) < (l.length : Int) := by omega
   have HG := hH (show kG ⟨l, root⟩ = l.any jP by simp [kG, h40])
   go_enter Try.func13, Try.ntmps13
   go_wp2_with fail
   go_loopw [12] (fun i wr => zgq w #[.slice ka l.length kc, .int .i64 root] l i wr) (fun i _ => l.length - (intOf i).toNat)
   case atStart => exact ⟨0, Nat.zero_le _, rfl, heap_alloc_new w _, zh _ _, rfl⟩
   case round =>
    obtain ⟨k, hkl, rfl, hb, hbel, hany⟩ := hrel
    have p0 : wr.cell? ⟨w.heap.size, 0, none⟩ = some (.slice ka l.length kc) := by rw [cell_of_row wr _ 0 _ _ _ hb]; rfl
    have HB := hH (aN hb hbel)
    have HA := hH hany
    clear hb hbel hany
    by_cases hlt : k < l.length
    · obtain ⟨x, hx⟩ : ∃ x, l[k]? = some x := ⟨l[k], List.getElem?_eq_getElem hlt⟩
      have hfx := HF.out x (List.mem_of_getElem? hx)
      obtain ⟨b, off, rfl, hblt, hc⟩ := (HK.out.below HB.out.2) (by omega)
      obtain ⟨sa, sc, c0, c1, c2, hs⟩ := hc k x hx
      have HX := hH (Qm HA.out hx)
      have hs1 : (x.name.size : Int) ≤ 9223372036854775807 := hfx.1
      have hs2 : (x.slots.length : Int) ≤ 9223372036854775807 := hfx.2.1
      have HFX := hH hfx.2.2
      have HS := hH hs
      have hkl2 : (k : Int) < (l.length : Int) := by omega
      clear hx hc hs hfx
      by_cases h200 : 200 < x.name.size
      · have h200' : (200 : Int) < (x.name.size : Int) := by omega
        go_wp2_with fail
        go_ret
        exact Says.mk (by rw [HG.out, HX.out]; simp [jP, h200]) HB.out.2
      · have h200' : ¬ (200 : Int) < (x.name.size : Int) := by omega
        by_cases h20 : 20 < x.slots.length
        · have h20' : (20 : Int) < (x.slots.length : Int) := by omega
          go_wp2_with fail
          go_ret
          exact Says.mk (by rw [HG.out, HX.out]; simp [jP, h20]) HB.out.2
        · have h20' : ¬ (20 : Int) < (x.slots.length : Int) := by omega
          have HKX := hH (show jP x = x.slots.any Zr by simp [jP, h200, h20])
          go_wp2_with fail
          obtain ⟨wo, rfl⟩ : ∃ wo, wo = wr := ⟨_, rfl⟩
          go_loopw [40] (fun j wr => zfC wo x.slots j wr) (fun j _ => x.slots.length - (intOf j).toNat)
          case atStart => exact ⟨0, Nat.zero_le _, rfl, rfl, rfl⟩
          case round =>
           obtain ⟨m, hm, rfl, rfl, hany2⟩ := hrel
           have HA2 := hH hany2
           clear hany2
           by_cases hlt2 : m < x.slots.length
           · obtain ⟨s, hsx⟩ : ∃ s, x.slots[m]? = some s := ⟨x.slots[m], List.getElem?_eq_getElem hlt2⟩
             have hfs : (s.kinds.length : Int) ≤ 9223372036854775807 := HFX.out s (List.mem_of_getElem? hsx)
             obtain ⟨b2, off2, rfl, hblt2, hc2⟩ := HS.out (by omega)
             obtain ⟨ka2, kc2, d0, d1, d2, hi⟩ := hc2 m s hsx
             have HX2 := hH (Qm HA2.out hsx)
             have hm2 : (m : Int) < (x.slots.length : Int) := by omega
             clear hsx hc2 hi
             by_cases h4 : 40 < s.kinds.length
             · have h4' : (40 : Int) < (s.kinds.length : Int) := by omega
               go_wp2_with fail
               go_ret
               exact Says.mk (by rw [HG.out, HX.out, HKX.out, HX2.out]; simp [Zr, h4]) HB.out.2
             · have h4' : ¬ (40 : Int) < (s.kinds.length : Int) := by omega
               go_wp2_with fail
               exact ⟨⟨m + 1, by omega, by go_num, rfl, by rw [HX2.out]; simp [Zr, h4]⟩, by simp [intOf]; omega⟩
           · have he := Y3 HA2.out (by omega)
             have HE := hH he
             clear he
             have hm2 : ¬ (m : Int) < (x.slots.length : Int) := by omega
             go_wp2_with fail
             exact ⟨⟨k + 1, by omega, by go_num, HB.out.1, HB.out.2, by rw [HX.out, HKX.out, HE.out]; rfl⟩, by simp [intOf]; omega⟩
    · have he := Y3 HA.out (by omega)
      have HE := hH he
      clear he
      have hkl2 : ¬ (k : Int) < (l.length : Int) := by omega
      go_wp2_with fail
      go_ret
      exact Says.mk (by rw [HG.out, HE.out]) HB.out.2
theorem zM {w : World} {k : Nat} {o : Obj} (h : w.heap[k]? = some o) : k < w.heap.size := (Array.getElem?_eq_some_iff.1 h).1
end Go.Proofs.Ytgkmmnihaiopaaa
namespace Go.Proofs.Ytgkmmnihaiopaaa
open Go.ChangeShapes Go.WideShapes Go.ChangeAt Go.RowKit
section
variable {H : Type} {enc : TypeId × Value → H} {w : World} {base : Nat} {spare : Nat → Bool} {held : Bool}
theorem add_block (a : Addr) (j : Nat) : (a.add j).block = a.block := by unfold Addr.add; split <;> rfl
theorem zco {fuel : Nat} {v : Value} {x : DataW H × List MemPlace} (h : DataW.trod enc Try.prog w base spare held fuel 65 [v] = some x) :
 ∃ (l : List Int) (a : Option Addr) (cap : Nat), v = .slice a l.length cap ∧ yK w a l ∧ (l.length : Int) ≤ 9223372036854775807 := by
 rcases Deep.open_slice Try.underlying65 h with ⟨hcs, _⟩ | ⟨ad, len, cap, m, n, D, Pl, hcs, _, hl, hm, hmm, _, hi⟩
 · simp only [List.cons.injEq, and_true] at hcs
   subst hcs
   exact ⟨[], none, 0, rfl, fun h => by simp at h, by simp⟩
 · simp only [List.cons.injEq, and_true] at hcs
   subst hcs
   have hle : len ≤ m := by rw [hmm]; split <;> omega
   have each : ∀ i, i < len → ∃ x : Int, w.cell? (ad.add i) = some (.int .i64 x) := fun i hil => by
    obtain ⟨cs', hc, ht⟩ := hi i (by omega)
    have h3 : Try.prog.cellsOf 3 = 1 := by kernel_rfl
    rw [h3, Nat.mul_one] at hc
    obtain ⟨_, hcl, hat⟩ := World.cells?_some hc
    match cs', hcl with
    | [c0], _ =>
      obtain ⟨x0, e0, _, _⟩ := DataW.trod_int Try.underlying3 ht
      have a0 := hat 0 (by omega)
      rw [Deep.add_add] at a0
      simp only [List.cons.injEq, and_true] at e0
      subst e0
      exact ⟨x0, by simpa using a0⟩
   obtain ⟨f, hf⟩ := Deep.choose_lt each
   refine ⟨(List.range len).map f, some ad, cap, by simp, fun h0 => ?_, by simp only [List.length_map, List.length_range]; unfold maxLen at hm; omega⟩
   have h0' : 0 < len := by simpa using h0
   obtain ⟨b, off, spot⟩ := ad
   have hsp := World.cell?_spot (hf 0 h0')
   have : spot = none := by simpa [Addr.add] using hsp
   subst this
   have hlt := World.block_lt_of_cell? w _ (hf 0 h0')
   rw [Addr.add_mid] at hlt
   refine ⟨b, off, rfl, hlt, fun i x hi => ?_⟩
   rw [List.getElem?_map, Option.map_eq_some_iff] at hi
   obtain ⟨j, hj, rfl⟩ := hi
   obtain ⟨hlt, rfl⟩ := List.getElem?_eq_some_iff.1 hj
   simp only [List.length_range] at hlt
   simp only [List.getElem_range]
   have h1 := hf i hlt
   rw [Addr.add_mid] at h1
   exact h1
theorem zdR (fuel : Nat) (cs : List Value) (x : DataW H × List MemPlace) (h : DataW.trod enc Try.prog w base spare held fuel 67 cs = some x) :
 ∃ (s : Sl) (ka : Option Addr) (kc : Nat), cs = [.slice ka s.kinds.length kc, .int .i64 s.least, .int .i64 s.most] ∧ yK w ka s.kinds ∧ s.fits := by
 obtain ⟨xs, n, _, _, hl, hlen, hf⟩ := DataW.trod_struct Try.underlying67 h
 have h3 : Try.prog.cellsOf 67 = 3 := by kernel_rfl
 rw [h3] at hl
 match cs, hl with
 | [c0, c1, c2], _ =>
   have k1 : Try.prog.cellsOf 3 = 1 := by kernel_rfl
   have k2 : Try.prog.cellsOf 65 = 1 := by kernel_rfl
   match xs, hlen with
   | [y0, y1, y2], _ =>
     have t0 : DataW.trod enc Try.prog w base spare held n 65 (([c0, c1, c2].drop 0).take (Try.prog.cellsOf 65)) = some y0 := hf 0 _ rfl
     have t1 : DataW.trod enc Try.prog w base spare held n 3 (([c0, c1, c2].drop 1).take (Try.prog.cellsOf 3)) = some y1 := hf 1 _ rfl
     have t2 : DataW.trod enc Try.prog w base spare held n 3 (([c0, c1, c2].drop 2).take (Try.prog.cellsOf 3)) = some y2 := hf 2 _ rfl
     simp only [k1, k2, List.drop_zero, List.take_succ_cons, List.take_zero, List.drop_succ_cons] at t0 t1 t2
     obtain ⟨l, ka, kc, rfl, hi, hle⟩ := zco t0
     obtain ⟨lo, e1, _, _⟩ := DataW.trod_int Try.underlying3 t1
     obtain ⟨hi2, e2, _, _⟩ := DataW.trod_int Try.underlying3 t2
     simp only [List.cons.injEq, and_true] at e1 e2
     subst e1; subst e2
     exact ⟨⟨l, lo, hi2⟩, ka, kc, rfl, hi, hle⟩
theorem zbm {fuel : Nat} {v : Value} {x : DataW H × List MemPlace} (h : DataW.trod enc Try.prog w base spare held fuel 62 [v] = some x) :
 ∃ (l : List Sl) (a : Option Addr) (cap : Nat), v = .slice a l.length cap ∧ qp w a l ∧ (l.length : Int) ≤ 9223372036854775807 ∧ ∀ s ∈ l, s.fits := by
 rcases Deep.open_slice Try.underlying62 h with ⟨hcs, _⟩ | ⟨ad, len, cap, m, n, D, Pl, hcs, _, hl, hm, hmm, _, hi⟩
 · simp only [List.cons.injEq, and_true] at hcs
   subst hcs
   exact ⟨[], none, 0, rfl, fun h => by simp at h, by simp, fun s hs => by cases hs⟩
 · simp only [List.cons.injEq, and_true] at hcs
   subst hcs
   have hle : len ≤ m := by rw [hmm]; split <;> omega
   have h3 : Try.prog.cellsOf 67 = 3 := by kernel_rfl
   rw [h3] at hi
   have each : ∀ i, i < len → ∃ (s : Sl), ∃ (ka : Option Addr) (kc : Nat), w.cell? (ad.add (i * 3)) = some (.slice ka s.kinds.length kc) ∧ w.cell? (ad.add (i * 3 + 1)) = some (.int .i64 s.least) ∧ w.cell? (ad.add (i * 3 + 2)) = some (.int .i64 s.most) ∧ yK w ka s.kinds ∧ s.fits := fun i hil => by
    obtain ⟨cs', hc, ht⟩ := hi i (by omega)
    obtain ⟨_, _, hat⟩ := World.cells?_some hc
    obtain ⟨s, ka, kc, rfl, hia, hfi⟩ := zdR n cs' _ ht
    have a0 := hat 0 (by omega)
    have a1 := hat 1 (by omega)
    have a2 := hat 2 (by omega)
    rw [Deep.add_add] at a0 a1 a2
    exact ⟨s, ka, kc, a0, a1, a2, hia, hfi⟩
   obtain ⟨f, hff⟩ := Deep.choose_lt each
   refine ⟨(List.range len).map f, some ad, cap, by simp, fun h0 => ?_, by simp only [List.length_map, List.length_range]; unfold maxLen at hm; omega, fun s hs => ?_⟩
   · have h0' : 0 < len := by simpa using h0
     obtain ⟨b, off, spot⟩ := ad
     obtain ⟨_, _, hz, _⟩ := hff 0 h0'
     have hsp : spot = none := by simpa [Addr.add] using World.cell?_spot hz
     subst hsp
     have hlt := World.block_lt_of_cell? w _ hz
     rw [add_block] at hlt
     refine ⟨b, off, rfl, hlt, fun i u hu => ?_⟩
     rw [List.getElem?_map, Option.map_eq_some_iff] at hu
     obtain ⟨j, hj, rfl⟩ := hu
     obtain ⟨hlt', rfl⟩ := List.getElem?_eq_some_iff.1 hj
     simp only [List.length_range] at hlt'
     simp only [List.getElem_range]
     obtain ⟨ka, kc, z0, z1, z2, hia, _⟩ := hff i hlt'
     simp only [Addr.add_mid, ← Nat.add_assoc] at z0 z1 z2
     exact ⟨ka, kc, z0, z1, z2, hia⟩
   · simp only [List.mem_map, List.mem_range] at hs
     obtain ⟨i, hil, rfl⟩ := hs
     obtain ⟨_, _, _, _, _, _, hft⟩ := hff i hil
     exact hft
theorem zdQ (fuel : Nat) (cs : List Value) (x : DataW H × List MemPlace) (h : DataW.trod enc Try.prog w base spare held fuel 64 cs = some x) :
 ∃ (k : Kd) (sa : Option Addr) (sc : Nat), cs = [.string k.name, .bool k.text, .slice sa k.slots.length sc] ∧ qp w sa k.slots ∧ k.fits := by
 obtain ⟨xs, n, _, _, hl, hlen, hf⟩ := DataW.trod_struct Try.underlying64 h
 have h3 : Try.prog.cellsOf 64 = 3 := by kernel_rfl
 rw [h3] at hl
 match cs, hl with
 | [c0, c1, c2], _ =>
   have k1 : Try.prog.cellsOf 9 = 1 := by kernel_rfl
   have k2 : Try.prog.cellsOf 4 = 1 := by kernel_rfl
   have k3 : Try.prog.cellsOf 62 = 1 := by kernel_rfl
   match xs, hlen with
   | [y0, y1, y2], _ =>
     have t0 : DataW.trod enc Try.prog w base spare held n 9 (([c0, c1, c2].drop 0).take (Try.prog.cellsOf 9)) = some y0 := hf 0 _ rfl
     have t1 : DataW.trod enc Try.prog w base spare held n 4 (([c0, c1, c2].drop 1).take (Try.prog.cellsOf 4)) = some y1 := hf 1 _ rfl
     have t2 : DataW.trod enc Try.prog w base spare held n 62 (([c0, c1, c2].drop 2).take (Try.prog.cellsOf 62)) = some y2 := hf 2 _ rfl
     simp only [k1, k2, k3, List.drop_zero, List.take_succ_cons, List.take_zero, List.drop_succ_cons] at t0 t1 t2
     obtain ⟨nm, e0, _, hns⟩ := DataW.trod_string Try.underlying9 t0
     obtain ⟨tx, e1, _⟩ := DataW.trod_bool Try.underlying4 t1
     obtain ⟨l, sa, sc, rfl, hs, hle, hfs⟩ := zbm t2
     simp only [List.cons.injEq, and_true] at e0 e1
     subst e0; subst e1
     exact ⟨⟨nm, tx, l⟩, sa, sc, rfl, hs, by show (nm.size : Int) ≤ _; unfold maxLen at hns; omega, hle, hfs⟩
theorem zbl {fuel : Nat} {v : Value} {x : DataW H × List MemPlace} (h : DataW.trod enc Try.prog w base spare held fuel 22 [v] = some x) :
 ∃ (l : List Kd) (a : Option Addr) (cap : Nat), v = .slice a l.length cap ∧ jd w a l ∧ (l.length : Int) ≤ 9223372036854775807 ∧ ∀ s ∈ l, s.fits := by
 rcases Deep.open_slice Try.underlying22 h with ⟨hcs, _⟩ | ⟨ad, len, cap, m, n, D, Pl, hcs, _, hl, hm, hmm, _, hi⟩
 · simp only [List.cons.injEq, and_true] at hcs
   subst hcs
   exact ⟨[], none, 0, rfl, fun h => by simp at h, by simp, fun s hs => by cases hs⟩
 · simp only [List.cons.injEq, and_true] at hcs
   subst hcs
   have hle : len ≤ m := by rw [hmm]; split <;> omega
   have h3 : Try.prog.cellsOf 64 = 3 := by kernel_rfl
   rw [h3] at hi
   have each : ∀ i, i < len → ∃ (k : Kd), ∃ (sa : Option Addr) (sc : Nat), w.cell? (ad.add (i * 3)) = some (.string k.name) ∧ w.cell? (ad.add (i * 3 + 1)) = some (.bool k.text) ∧ w.cell? (ad.add (i * 3 + 2)) = some (.slice sa k.slots.length sc) ∧ qp w sa k.slots ∧ k.fits := fun i hil => by
    obtain ⟨cs', hc, ht⟩ := hi i (by omega)
    obtain ⟨_, _, hat⟩ := World.cells?_some hc
    obtain ⟨s, ka, kc, rfl, hia, hfi⟩ := zdQ n cs' _ ht
    have a0 := hat 0 (by omega)
    have a1 := hat 1 (by omega)
    have a2 := hat 2 (by omega)
    rw [Deep.add_add] at a0 a1 a2
    exact ⟨s, ka, kc, a0, a1, a2, hia, hfi⟩
   obtain ⟨f, hff⟩ := Deep.choose_lt each
   refine ⟨(List.range len).map f, some ad, cap, by simp, fun h0 => ?_, by simp only [List.length_map, List.length_range]; unfold maxLen at hm; omega, fun s hs => ?_⟩
   · have h0' : 0 < len := by simpa using h0
     obtain ⟨b, off, spot⟩ := ad
     obtain ⟨_, _, hz, _⟩ := hff 0 h0'
     have hsp : spot = none := by simpa [Addr.add] using World.cell?_spot hz
     subst hsp
     have hlt := World.block_lt_of_cell? w _ hz
     rw [add_block] at hlt
     refine ⟨b, off, rfl, hlt, fun i u hu => ?_⟩
     rw [List.getElem?_map, Option.map_eq_some_iff] at hu
     obtain ⟨j, hj, rfl⟩ := hu
     obtain ⟨hlt', rfl⟩ := List.getElem?_eq_some_iff.1 hj
     simp only [List.length_range] at hlt'
     simp only [List.getElem_range]
     obtain ⟨ka, kc, z0, z1, z2, hia, _⟩ := hff i hlt'
     simp only [Addr.add_mid, ← Nat.add_assoc] at z0 z1 z2
     exact ⟨ka, kc, z0, z1, z2, hia⟩
   · simp only [List.mem_map, List.mem_range] at hs
     obtain ⟨i, hil, rfl⟩ := hs
     obtain ⟨_, _, _, _, _, _, hft⟩ := hff i hil
     exact hft
theorem zfZ {fuel : Nat} {cs : List Value} {x : DataW H × List MemPlace} (h : DataW.trod enc Try.prog w base spare held fuel 24 cs = some x) :
 ∃ (g : Gr) (ka : Option Addr) (kc : Nat), cs = [.slice ka g.kinds.length kc, .int .i64 g.root] ∧ jd w ka g.kinds ∧ g.fits := by
 obtain ⟨xs, n, _, _, hl, hlen, hf⟩ := DataW.trod_struct Try.underlying24 h
 have h3 : Try.prog.cellsOf 24 = 2 := by kernel_rfl
 rw [h3] at hl
 match cs, hl with
 | [c0, c1], _ =>
   have k1 : Try.prog.cellsOf 3 = 1 := by kernel_rfl
   have k2 : Try.prog.cellsOf 22 = 1 := by kernel_rfl
   match xs, hlen with
   | [y0, y1], _ =>
     have t0 : DataW.trod enc Try.prog w base spare held n 22 (([c0, c1].drop 0).take (Try.prog.cellsOf 22)) = some y0 := hf 0 _ rfl
     have t1 : DataW.trod enc Try.prog w base spare held n 3 (([c0, c1].drop 1).take (Try.prog.cellsOf 3)) = some y1 := hf 1 _ rfl
     simp only [k1, k2, List.drop_zero, List.take_succ_cons, List.take_zero, List.drop_succ_cons] at t0 t1
     obtain ⟨l, ka, kc, rfl, hk, hle, hfk⟩ := zbl t0
     obtain ⟨r, e1, _, _⟩ := DataW.trod_int Try.underlying3 t1
     simp only [List.cons.injEq, and_true] at e1
     subst e1
     exact ⟨⟨l, r⟩, ka, kc, rfl, hk, hle, hfk⟩
theorem open_grV {v : Value} {d : DataW H} {ps : List MemPlace} {cs : Array Value} (hv : v = .agg cs) (h : DataW.Trod enc Try.prog w base spare held 24 v d ps) : ∃ g, GrV w v g ∧ g.fits := by
 subst hv
 obtain ⟨fuel, hf⟩ := h
 obtain ⟨g, ka, kc, e, hk, hfit⟩ := zfZ hf
 refine ⟨g, ⟨ka, kc, ?_, hk⟩, hfit⟩
 have e2 : cs.toList = [.slice ka g.kinds.length kc, .int .i64 g.root] := by simpa [Value.cells] using e
 rw [show cs = cs.toList.toArray by simp, e2]
end
end Go.Proofs.Ytgkmmnihaiopaaa
