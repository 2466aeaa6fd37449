/-
  Rows of steps that lie in memory; a row of the call's own out of such. No condition but that there are not too many nodes.
  Great of a row: where it answers false there are at most 60 steps, and no step's tree has more than 200 nodes. No condition but that no row is longer than a slice may be.
-/
import Derived.Deep.Cut
import Derived.Laws.AppendOwnNone
import Derived.Test.YtpbjncljecfaeaaRSameQf
import Derived.Test.YtpbjncljecfaeaaNSetQf
import Derived.Test.YtpbjncljecfaeaaVWalkQf
namespace Go.Proofs.Ytpbjncljecfaeaa
open Go.RowKit
set_option linter.unusedVariables false
set_option linter.unusedSimpArgs false

/-- A step. -/
structure Sf where
  op : Int
  id : Int
  par : Int
  at_ : Int
  tx : ByteArray
  sub : Tr
/-- A step, and where its subtree's kids lie. -/
structure SV where
  s : Sf
  a : Option Addr
  c : Nat
def stepC (s : Sf) (a : Option Addr) (c : Nat) : List Value := [.int .i8 s.op, .int .i64 s.id, .int .i64 s.par, .int .i64 s.at_, .string s.tx, .int .i64 s.sub.id, .int .i64 s.sub.kind, .string s.sub.text, .slice a (foLen s.sub.kids) c]
def LiesI (W : World) (f : Fo) (a : Option Addr) (c : Nat) : Prop := foLen f ≤ c ∧ FoAt W (fun q => q < W.heap.size) f a
theorem LiesI.at {W X : World} {t : Tr} {a : Option Addr} {c : Nat} (h : LiesI W t.kids a c) (hb : Below W.heap.size W X) : TrAt X (fun q => q < W.heap.size) (.agg #[.int .i64 t.id, .int .i64 t.kind, .string t.text, .slice a (foLen t.kids) c]) t := ⟨a, c, rfl, h.1, h.2.kept fun q hq => ⟨hq, hb.block q hq⟩⟩
theorem LiesI.on {W X : World} {f : Fo} {a : Option Addr} {c : Nat} (h : LiesI W f a c) (hb : Below W.heap.size W X) : LiesI X f a c := ⟨h.1, h.2.kept fun q hq => ⟨Nat.lt_of_lt_of_le hq hb.size, hb.block q hq⟩⟩
def steps (vs : List SV) : List Sf := vs.map SV.s
theorem steps_at {vs : List SV} {k : Nat} {x : SV} (h : vs[k]? = some x) : (steps vs)[k]? = some x.s := by rw [steps, List.getElem?_map, h]; rfl
theorem steps_len (vs : List SV) : (steps vs).length = vs.length := by simp [steps]
/-- A row of steps that lies in memory. -/
structure Row (w : World) (a : Option Addr) (vs : List SV) : Prop where
  cells : ∀ (k : Nat) (x : SV), vs[k]? = some x → ∃ b off, a = some ⟨b, off, none⟩ ∧ b < w.heap.size ∧ ∀ (j : Nat) (u : Value), (stepC x.s x.a x.c)[j]? = some u → w.cell? ⟨b, off + k * 9 + j, none⟩ = some u
  lies : ∀ x ∈ vs, LiesI w x.s.sub.kids x.a x.c
  fit : ∀ x ∈ vs, foSize x.s.sub.kids + 1 ≤ 100000
  len : vs.length ≤ 1000000
theorem Row.on {w X : World} {a : Option Addr} {vs : List SV} (h : Row w a vs) (hb : Below w.heap.size w X) : Row X a vs :=
  ⟨fun k x hx => by
    obtain ⟨b, off, e, h1, h2⟩ := h.cells k x hx
    exact ⟨b, off, e, Nat.lt_of_lt_of_le h1 hb.size, fun j u hj => (World.cell?_of_block (a := ⟨b, off + k * 9 + j, none⟩) (hb.block b h1)).trans (h2 j u hj)⟩, fun x hx => (h.lies x hx).on hb, h.fit, h.len⟩
theorem Row.take {w : World} {a : Option Addr} {vs : List SV} (h : Row w a vs) (k : Nat) : Row w a (vs.take k) :=
  ⟨fun j x hx => h.cells j x (by rw [List.getElem?_take] at hx; split at hx; exact hx; cases hx), fun x hx => h.lies x (List.mem_of_mem_take hx), fun x hx => h.fit x (List.mem_of_mem_take hx), by have := h.len; rw [List.length_take]; omega⟩
/-- A step's cells out of its row. -/
theorem Row.at {w X : World} {a : Option Addr} {vs : List SV} (h : Row w a vs) (hb : Below w.heap.size w X) {k : Nat} {x : SV} (hx : vs[k]? = some x) : ∃ b off, a = some ⟨b, off, none⟩ ∧ X.cell? ⟨b, off + k * 9, none⟩ = some (.int .i8 x.s.op) ∧ X.cell? ⟨b, off + k * 9 + 1, none⟩ = some (.int .i64 x.s.id) ∧ X.cell? ⟨b, off + k * 9 + 2, none⟩ = some (.int .i64 x.s.par) ∧ X.cell? ⟨b, off + k * 9 + 3, none⟩ = some (.int .i64 x.s.at_) ∧ X.cell? ⟨b, off + k * 9 + 4, none⟩ = some (.string x.s.tx) ∧ X.cell? ⟨b, off + k * 9 + 5, none⟩ = some (.int .i64 x.s.sub.id) ∧ X.cell? ⟨b, off + k * 9 + 6, none⟩ = some (.int .i64 x.s.sub.kind) ∧ X.cell? ⟨b, off + k * 9 + 7, none⟩ = some (.string x.s.sub.text) ∧ X.cell? ⟨b, off + k * 9 + 8, none⟩ = some (.slice x.a (foLen x.s.sub.kids) x.c) := by
  obtain ⟨b, off, e, hbl, hc⟩ := h.cells k x hx
  have hg := fun j u hj => (World.cell?_of_block (a := ⟨b, off + k * 9 + j, none⟩) (hb.block b hbl)).trans (hc j u hj)
  exact ⟨b, off, e, hg 0 _ rfl, hg 1 _ rfl, hg 2 _ rfl, hg 3 _ rfl, hg 4 _ rfl, hg 5 _ rfl, hg 6 _ rfl, hg 7 _ rfl, hg 8 _ rfl⟩
theorem foFit_szN : ∀ f : Fo, foSize f ≤ 9223372036854775807 → foFit f
  | .nil, _ => True.intro
  | .node _ _ _ l r, h => by
    simp only [foSize] at h
    have h1 := foLen_le l
    exact ⟨by omega, foFit_szN l (by omega), foFit_szN r (by omega)⟩
def YesR (w : World) (e : Ending) (w' : World) : Prop := e = .returned (.bool true) ∧ Below w.heap.size w w'
end Go.Proofs.Ytpbjncljecfaeaa
namespace Go.Proofs.Ytpbjncljecfaeaa
open Go.RowKit
set_option linter.unusedVariables false
set_option linter.unusedSimpArgs false

/-- A row of steps that came in. -/
structure RowG (w : World) (a : Option Addr) (vs : List SV) : Prop where
  cells : ∀ (k : Nat) (x : SV), vs[k]? = some x → ∃ b off, a = some ⟨b, off, none⟩ ∧ b < w.heap.size ∧ ∀ (j : Nat) (u : Value), (stepC x.s x.a x.c)[j]? = some u → w.cell? ⟨b, off + k * 9 + j, none⟩ = some u
  lies : ∀ x ∈ vs, LiesI w x.s.sub.kids x.a x.c
  inn : ∀ x ∈ vs, foLen x.s.sub.kids ≤ 9223372036854775807 ∧ foFit x.s.sub.kids
def SmallN (vs : List SV) : Prop := vs.length ≤ 60 ∧ ∀ x ∈ vs, foSize x.s.sub.kids + 1 ≤ 200
theorem RowG.row {w : World} {a : Option Addr} {vs : List SV} (h : RowG w a vs) (hs : SmallN vs) : Row w a vs :=
  ⟨h.cells, h.lies, fun x hx => by have := hs.2 x hx; omega, by have := hs.1; omega⟩
def GreatN (w : World) (vs : List SV) (e : Ending) (w' : World) : Prop := ∃ b, e = .returned (.bool b) ∧ (b = false → SmallN vs) ∧ Below w.heap.size w w'
set_option maxRecDepth 100000 in
set_option maxHeartbeats 8000000 in
theorem great12_any (w : World) (la : Option Addr) (n c : Nat) (vs : List SV) (hn : n = vs.length) (h : RowG w la vs) :
    Calls Try.prog 6 #[.slice la n c] w (GreatN w vs) := by
  have HR := Lib.hid h
  have HN := Lib.hid hn
  clear h hn
  go_enter Try.func6, Try.ntmps6
  by_cases h60 : 60 < n
  · have h60i : (60 : Int) < (n : Int) := by omega
    go_wp2_with fail
    go_ret
    exact ⟨true, rfl, (fun h => by cases h), Below.refl _ _⟩
  · have h60i : ¬ (60 : Int) < (n : Int) := by omega
    have HN60 := Lib.hid (show n ≤ 60 by omega)
    have hn60 := HN60.out
    clear h60
    go_wp2_with fail
    clear h60i
    go_loopw [3] (fun i wr => ∃ k : Nat, k ≤ n ∧ i = .int .i64 (k : Int) ∧ Hid (Below w.heap.size w wr ∧ ∀ j x, j < k → vs[j]? = some x → foSize x.s.sub.kids + 1 ≤ 200)) (fun i _ => n - (intOf i).toNat)
    case atStart => exact ⟨0, Nat.zero_le _, rfl, Lib.hid ⟨Below.refl _ _, fun j x h => by omega⟩⟩
    case round =>
      obtain ⟨k, hk, rfl, hh⟩ := hrel
      obtain ⟨wo, hwo⟩ : ∃ wo, wo = wr := ⟨_, rfl⟩
      subst hwo
      by_cases hlt : k < n
      · have hkl : (k : Int) < (n : Int) := by omega
        obtain ⟨x, hx⟩ : ∃ x, vs[k]? = some x := ⟨_, List.getElem?_eq_getElem (by rw [← HN.out]; exact hlt)⟩
        have hxm := List.mem_of_getElem? hx
        obtain ⟨b, off, rfl, hbl, hcs⟩ := HR.out.cells k x hx
        have hin := HR.out.inn x hxm
        have hly := HR.out.lies x hxm
        obtain ⟨xs, xa, xc⟩ := x
        simp only at hin hly hcs
        obtain ⟨sn, hsn⟩ : ∃ sn, sn = foLen xs.sub.kids := ⟨_, rfl⟩
        have hce : wo.cell? ⟨b, off + k * 9 + 5, none⟩ = some (.int .i64 xs.sub.id) ∧ wo.cell? ⟨b, off + k * 9 + 6, none⟩ = some (.int .i64 xs.sub.kind) ∧ wo.cell? ⟨b, off + k * 9 + 7, none⟩ = some (.string xs.sub.text) ∧ wo.cell? ⟨b, off + k * 9 + 8, none⟩ = some (.slice xa sn xc) := by
          have h := fun j u hj => (World.cell?_of_block (a := ⟨b, off + k * 9 + j, none⟩) (hh.out.1.block b hbl)).trans (hcs j u hj)
          rw [hsn]
          exact ⟨h 5 _ rfl, h 6 _ rfl, h 7 _ rfl, h 8 _ rfl⟩
        have HWK : Hid (Calls Try.prog 17 #[.agg #[.int .i64 xs.sub.id, .int .i64 xs.sub.kind, .string xs.sub.text, .slice xa sn xc], .int .i64 201] wo (WalkM wo (fun y => y < w.heap.size) xs.sub 201)) := Lib.hid (by rw [hsn]; exact walkM_any 201 (by omega) wo _ _ xs.sub hin.1 hin.2 (fun y hy => Nat.lt_of_lt_of_le hy hh.out.1.size) (hly.at hh.out.1))
        obtain ⟨c5, c6, c7, c8⟩ := hce
        have HX := Lib.hid hx
        have HB := Lib.hid hh.out.1
        have HA := Lib.hid hh.out.2
        have HKN := Lib.hid (And.intro hk hlt)
        clear hx hxm hcs hin hly hsn hbl hh hk hlt
        go_wp2_with fail
        refine HWK.out.mono ?_
        rintro e w3 ⟨ya, yc, rfl, _, hb3⟩
        have HB3 := Lib.hid (HB.out.trans (hb3.mono HB.out.size))
        obtain ⟨ln, hln⟩ : ∃ ln, ln = ((spF 1 (rootF xs.sub)).take 201).length := ⟨_, rfl⟩
        rw [← hln]
        have hn2 : ln = min (foSize xs.sub.kids + 1) 201 := by rw [hln, List.length_take, spF_length, rootF_size]; omega
        clear hln hb3 c5 c6 c7 c8
        have HLN := Lib.hid hn2
        by_cases hbig : (200 : Int) < (ln : Int)
        · clear hn2
          go_wp2_with fail
          go_ret
          exact ⟨true, rfl, (fun e => by cases e), HB3.out⟩
        · have HS := Lib.hid (show foSize xs.sub.kids + 1 ≤ 200 by omega)
          clear hn2
          go_wp2_with fail
          refine ⟨⟨k + 1, by have := HKN.out.2; omega, by go_num, Lib.hid ⟨HB3.out, fun j y hj hy => ?_⟩⟩, by have := HKN.out.2; simp [intOf]; omega⟩
          rcases Nat.lt_or_ge j k with h | h
          · exact HA.out j y h hy
          · have e : j = k := by omega
            subst e
            rw [HX.out] at hy; cases hy
            exact HS.out
      · have hkl : ¬ (k : Int) < (n : Int) := by omega
        have HB := Lib.hid hh.out.1
        have HA := Lib.hid hh.out.2
        have HK := Lib.hid (show k = n by omega)
        clear hh hlt hk
        go_wp2_with fail
        go_ret
        refine ⟨false, rfl, fun _ => ⟨by rw [← HN.out]; exact HN60.out, fun x hx => ?_⟩, HB.out⟩
        obtain ⟨j, hj⟩ := List.mem_iff_getElem?.1 hx
        exact HA.out j x (by rw [HK.out, HN.out]; exact (List.getElem?_eq_some_iff.1 hj).1) hj
end Go.Proofs.Ytpbjncljecfaeaa
