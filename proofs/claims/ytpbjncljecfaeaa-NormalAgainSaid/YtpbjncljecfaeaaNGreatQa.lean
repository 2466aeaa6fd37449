/-
  Great of a row: where it answers false there are at most 60 steps, and no step's tree has more than 200 nodes. No condition but that no row is longer than a slice may be.
-/
import Derived.Test.YtpbjncljecfaeaaNBaseQa
namespace Go.Proofs.Ytpbjncljecfaeaa
open Go.RowKit
set_option linter.unusedVariables false
set_option linter.unusedSimpArgs false

/-- A row of steps that came in. -/
structure RowG (w : World) (a : Option Addr) (vs : List SV) : Prop where
  cells : ∀ (k : Nat) (x : SV), vs[k]? = some x → ∃ b off, a = some ⟨b, off, none⟩ ∧ b < w.heap.size ∧ ∀ (j : Nat) (u : Value), (stepC x.s x.a x.c)[j]? = some u → w.cell? ⟨b, off + k * 9 + j, none⟩ = some u
  lies : ∀ x ∈ vs, LiesI w x.s.sub.kids x.a x.c
  inn : ∀ x ∈ vs, foLen x.s.sub.kids ≤ 9223372036854775807 ∧ foFit x.s.sub.kids
def SmallN (vs : List SV) : Prop := vs.length ≤ 60 ∧ ∀ x ∈ vs, foSize x.s.sub.kids + 1 ≤ 200
theorem RowG.row {w : World} {a : Option Addr} {vs : List SV} (h : RowG w a vs) (hs : SmallN vs) : Row w a vs :=
  ⟨h.cells, h.lies, fun x hx => by have := hs.2 x hx; omega, by have := hs.1; omega⟩
def GreatN (w : World) (vs : List SV) (e : Ending) (w' : World) : Prop := ∃ b, e = .returned (.bool b) ∧ (b = false → SmallN vs) ∧ Below w.heap.size w w'
set_option maxRecDepth 100000 in
set_option maxHeartbeats 8000000 in
theorem great12_any (w : World) (la : Option Addr) (n c : Nat) (vs : List SV) (hn : n = vs.length) (h : RowG w la vs) :
    Calls Try.prog 6 #[.slice la n c] w (GreatN w vs) := by
  have HR := Lib.hid h
  have HN := Lib.hid hn
  clear h hn
  go_enter Try.func6, Try.ntmps6
  by_cases h60 : 60 < n
  · have h60i : (60 : Int) < (n : Int) := by omega
    go_wp2_with fail
    go_ret
    exact ⟨true, rfl, (fun h => by cases h), Below.refl _ _⟩
  · have h60i : ¬ (60 : Int) < (n : Int) := by omega
    have HN60 := Lib.hid (show n ≤ 60 by omega)
    have hn60 := HN60.out
    clear h60
    go_wp2_with fail
    clear h60i
    go_loopw [3] (fun i wr => ∃ k : Nat, k ≤ n ∧ i = .int .i64 (k : Int) ∧ Hid (Below w.heap.size w wr ∧ ∀ j x, j < k → vs[j]? = some x → foSize x.s.sub.kids + 1 ≤ 200)) (fun i _ => n - (intOf i).toNat)
    case atStart => exact ⟨0, Nat.zero_le _, rfl, Lib.hid ⟨Below.refl _ _, fun j x h => by omega⟩⟩
    case round =>
      obtain ⟨k, hk, rfl, hh⟩ := hrel
      obtain ⟨wo, hwo⟩ : ∃ wo, wo = wr := ⟨_, rfl⟩
      subst hwo
      by_cases hlt : k < n
      · have hkl : (k : Int) < (n : Int) := by omega
        obtain ⟨x, hx⟩ : ∃ x, vs[k]? = some x := ⟨_, List.getElem?_eq_getElem (by rw [← HN.out]; exact hlt)⟩
        have hxm := List.mem_of_getElem? hx
        obtain ⟨b, off, rfl, hbl, hcs⟩ := HR.out.cells k x hx
        have hin := HR.out.inn x hxm
        have hly := HR.out.lies x hxm
        obtain ⟨xs, xa, xc⟩ := x
        simp only at hin hly hcs
        obtain ⟨sn, hsn⟩ : ∃ sn, sn = foLen xs.sub.kids := ⟨_, rfl⟩
        have hce : wo.cell? ⟨b, off + k * 9 + 5, none⟩ = some (.int .i64 xs.sub.id) ∧ wo.cell? ⟨b, off + k * 9 + 6, none⟩ = some (.int .i64 xs.sub.kind) ∧ wo.cell? ⟨b, off + k * 9 + 7, none⟩ = some (.string xs.sub.text) ∧ wo.cell? ⟨b, off + k * 9 + 8, none⟩ = some (.slice xa sn xc) := by
          have h := fun j u hj => (World.cell?_of_block (a := ⟨b, off + k * 9 + j, none⟩) (hh.out.1.block b hbl)).trans (hcs j u hj)
          rw [hsn]
          exact ⟨h 5 _ rfl, h 6 _ rfl, h 7 _ rfl, h 8 _ rfl⟩
        have HWK : Hid (Calls Try.prog 17 #[.agg #[.int .i64 xs.sub.id, .int .i64 xs.sub.kind, .string xs.sub.text, .slice xa sn xc], .int .i64 201] wo (WalkM wo (fun y => y < w.heap.size) xs.sub 201)) := Lib.hid (by rw [hsn]; exact walkM_any 201 (by omega) wo _ _ xs.sub hin.1 hin.2 (fun y hy => Nat.lt_of_lt_of_le hy hh.out.1.size) (hly.at hh.out.1))
        obtain ⟨c5, c6, c7, c8⟩ := hce
        have HX := Lib.hid hx
        have HB := Lib.hid hh.out.1
        have HA := Lib.hid hh.out.2
        have HKN := Lib.hid (And.intro hk hlt)
        clear hx hxm hcs hin hly hsn hbl hh hk hlt
        go_wp2_with fail
        refine HWK.out.mono ?_
        rintro e w3 ⟨ya, yc, rfl, _, hb3⟩
        have HB3 := Lib.hid (HB.out.trans (hb3.mono HB.out.size))
        obtain ⟨ln, hln⟩ : ∃ ln, ln = ((spF 1 (rootF xs.sub)).take 201).length := ⟨_, rfl⟩
        rw [← hln]
        have hn2 : ln = min (foSize xs.sub.kids + 1) 201 := by rw [hln, List.length_take, spF_length, rootF_size]; omega
        clear hln hb3 c5 c6 c7 c8
        have HLN := Lib.hid hn2
        by_cases hbig : (200 : Int) < (ln : Int)
        · clear hn2
          go_wp2_with fail
          go_ret
          exact ⟨true, rfl, (fun e => by cases e), HB3.out⟩
        · have HS := Lib.hid (show foSize xs.sub.kids + 1 ≤ 200 by omega)
          clear hn2
          go_wp2_with fail
          refine ⟨⟨k + 1, by have := HKN.out.2; omega, by go_num, Lib.hid ⟨HB3.out, fun j y hj hy => ?_⟩⟩, by have := HKN.out.2; simp [intOf]; omega⟩
          rcases Nat.lt_or_ge j k with h | h
          · exact HA.out j y h hy
          · have e : j = k := by omega
            subst e
            rw [HX.out] at hy; cases hy
            exact HS.out
      · have hkl : ¬ (k : Int) < (n : Int) := by omega
        have HB := Lib.hid hh.out.1
        have HA := Lib.hid hh.out.2
        have HK := Lib.hid (show k = n by omega)
        clear hh hlt hk
        go_wp2_with fail
        go_ret
        refine ⟨false, rfl, fun _ => ⟨by rw [← HN.out]; exact HN60.out, fun x hx => ?_⟩, HB.out⟩
        obtain ⟨j, hj⟩ := List.mem_iff_getElem?.1 hx
        exact HA.out j x (by rw [HK.out, HN.out]; exact (List.getElem?_eq_some_iff.1 hj).1) hj
end Go.Proofs.Ytpbjncljecfaeaa
