/-
  The closure that reads a node: what it answers at every depth. No condition.
-/
import Derived.Test.YteccnekdmehloaaDoorCBelowF
namespace Go.Proofs.YteccnekdmehloaaDoor
open Go.RowKit
open Extern.Stop (cell)

theorem NSt.rsFacts {w wr : World} {nb rb fb b : Nat} {dv : Value} {depth : Nat} {xc : Array Value} {s : Rd} {m : Nat} (h : NSt w nb rb fb b dv depth xc s m wr) : (wr.cell? ⟨w.heap.size + 1, 0, none⟩ = some (.int .i64 0) ∧ wr.cell? ⟨w.heap.size + 1, 1, none⟩ = some (.int .i64 0) ∧ wr.cell? ⟨w.heap.size + 1, 2, none⟩ = some (.string ⟨#[]⟩) ∧ wr.cell? ⟨w.heap.size + 1, 3, none⟩ = some (.slice none 0 0)) ∧ (∀ j, wr.frozen? ⟨w.heap.size + 1, j, none⟩ = false) :=
  ⟨⟨by rw [cell_of_row _ _ 0 _ _ _ h.rs]; rfl, by rw [cell_of_row _ _ 1 _ _ _ h.rs]; rfl, by rw [cell_of_row _ _ 2 _ _ _ h.rs]; rfl, by rw [cell_of_row _ _ 3 _ _ _ h.rs]; rfl⟩, fun j => frozen_of_row wr _ j _ _ h.rs⟩
/-- Behind the list: the node is whole, and lies in the result's block too. -/
theorem NSt.finish {w w8 w9 : World} {nb rb fb b : Nat} {dv : Value} {depth : Nat} {x0 x1 x2 x3 : Value} {s s9 : Rd} {m m9 nn cap : Nat} {a : Option Addr} {id kd : Int} {tx : ByteArray} {l : List Tr} (h8 : NSt w nb rb fb b dv depth #[x0, x1, x2, x3] s m w8) (hl : LowSt w.heap.size nb rb fb b dv) (hs9 : NodeSt w9 nb rb fb b dv s9 m9) (ht9 : Touched w8 w9 (NbR b nb))
    (hn : nn = l.length) (hc : nn ≤ cap) (hfo : FoAt w9 (Fresh w8 w9) (foOfC l) a) (W : World) (hW : W = (((((w9.setCell ⟨w.heap.size + 1 + 1, 3, none⟩ (.slice a nn cap)).setCell ⟨w.heap.size + 1, 0, none⟩ (.int .i64 id)).setCell ⟨w.heap.size + 1, 1, none⟩ (.int .i64 kd)).setCell ⟨w.heap.size + 1, 2, none⟩ (.string tx)).setCell ⟨w.heap.size + 1, 3, none⟩ (.slice a nn cap))) :
    W.heap[w.heap.size + 1]? = some (.cells #[.int .i64 id, .int .i64 kd, .string tx, .slice a nn cap] 25 (0, 0)) ∧ TrAt W (Fresh w W) (.agg #[.int .i64 id, .int .i64 kd, .string tx, .slice a nn cap]) ⟨id, kd, tx, foOfC l⟩ ∧ NodeSt W nb rb fb b dv s9 m9 ∧ Touched w W (NbR b nb) := by
  have h9 := h8.move hl hs9 ht9
  have h10 := h9.set hl 3 (.slice a nn cap)
  obtain ⟨s1, s2, s3⟩ := set4 h10.rs (.int .i64 id) (.int .i64 kd) (.string tx) (.slice a nn cap)
  rw [← hW] at s1 s2 s3
  have t1 : Touched w9 W (fun k => k = w.heap.size + 1 + 1 ∨ k = w.heap.size + 1) := ((Touched.setCell (w := w9) (S := fun k => k = w.heap.size + 1 + 1 ∨ k = w.heap.size + 1) (a := ⟨w.heap.size + 1 + 1, 3, none⟩) (Or.inl rfl) _)).trans s2 (fun k hk => Or.inl (Or.inr hk))
  have hx8 := lt_of_heap h8.x
  have hsz : (w9.setCell ⟨w.heap.size + 1 + 1, 3, none⟩ (.slice a nn cap)).heap.size = w9.heap.size := by simp [World.setCell]
  have hs89 := ht9.size
  refine ⟨s1, ⟨a, cap, by rw [foLen_ofC, hn], by rw [foLen_ofC, ← hn]; exact hc, hfo.kept fun x hx => ?_⟩, h10.st.one hl (by omega) s2, h10.tch.trans s2 (fun k hk => Or.inr (by omega))⟩
  have hx1 := hx.1
  exact ⟨⟨by omega, by rw [s3, hsz]; exact hx.2⟩, t1.block x hx.2 (fun e => by rcases e with e | e <;> omega)⟩

set_option maxRecDepth 100000 in
set_option maxHeartbeats 4000000 in
theorem below_step (nb rb fb b : Nat) (dv : Value) (d : List UInt8) (f depth : Nat) (ih : NodeC nb rb fb b dv d f (depth + 1)) (hdp : depth ≤ 40) : NodeC nb rb fb b dv d (f + 1) depth := by
  intro w s m hs h hm
  subst hs
  by_cases h200 : 200 < m + 1
  · have e : pNode s.data (f + 1) depth m s.pos = .error s.pos := by simp only [pNode, if_pos (Or.inr h200)]
    rw [e]
    exact below_fails nb rb fb b dv depth w s m h hm (by omega) (Or.inr h200)
  · have hmf : ∀ (fn : Fn) (first cap : Array Value) (w : World), (Instr.makeFunc fn first cap).run Tryd.prog w = .ok (.func fn first cap) w := fun _ _ _ _ => rfl
    have hlow := h.low
    have cn : w.cell? ⟨nb, 0, none⟩ = some (.int .i64 (m : Int)) := by rw [cell_of_row _ _ 0 _ _ _ h.n]; rfl
    have fn : w.frozen? ⟨nb, 0, none⟩ = false := frozen_of_row _ _ _ _ _ h.n
    have hnl := lt_of_heap h.n
    obtain ⟨out, hout⟩ : ∃ out, out = pNode s.data (f + 1) depth m s.pos := ⟨_, rfl⟩
    rw [← hout]
    have HO := Lib.hid hout
    have hst := NSt.start (depth := depth) h ((m : Int) + 1) (m + 1) (by omega)
    have H0 := Lib.hid (And.intro hst hlow)
    have HIH := Lib.hid ih
    have h200' : ¬ (200 : Int) < (m : Int) + 1 := by omega
    have hd40 : ¬ (40 : Int) < (depth : Int) := by omega
    have hm1 : m + 1 ≤ 200 := by omega
    have hz : ¬ (40 < depth ∨ 200 < m + 1) := by omega
    have HZ := Lib.hid (And.intro hz (And.intro hm1 (And.intro hnl hdp)))
    have hc0 := number_any _ b dv s hst.st.rd
    obtain ⟨r0, ⟨x0, x1, x2, x3⟩, xf⟩ := hst.facts
    clear hst hlow ih hout h hz hm1 h200 hm hdp
    have HC0 := Lib.hid hc0
    clear hc0
    go_enter Tryd.func58, Tryd.ntmps58
    go_wp2_with fail
    cases hp1 : pNum s.data s.pos with
    | error e1 =>
      have ho : out = .error e1 := by
        rw [HO.out]; simp only [pNode, if_neg HZ.out.1, hp1]
      subst ho
      have hc := HC0.out
      rw [hp1] at hc
      refine hc.mono ?_
      rintro e w4 ⟨rfl, h1, h2⟩
      clear hc hp1 HO
      go_wp2_with fail
      exact ⟨rfl, rfl, h1, (H0.out.1.read H0.out.2 h1 h2).tch⟩
    | ok y1 =>
      obtain ⟨id, q1⟩ := y1
      have hc := HC0.out
      rw [hp1] at hc
      refine hc.mono ?_
      rintro e w1 ⟨v4, rfl, rfl, h1, h2⟩
      have HP1 := Lib.hid hp1
      have hs4 : NSt w nb rb fb b dv depth #[.int .i64 0, .int .i64 0, .string ⟨#[]⟩, .slice none 0 0] { s with pos := q1 } (m + 1) w1 := H0.out.1.read H0.out.2 h1 h2
      obtain ⟨r4, ⟨z0, z1, z2, z3⟩, zf⟩ := hs4.facts
      have hs5 : NSt w nb rb fb b dv depth #[.int .i64 id, .int .i64 0, .string ⟨#[]⟩, .slice none 0 0] { s with pos := q1 } (m + 1) (w1.setCell ⟨w.heap.size + 1 + 1, 0, none⟩ (.int .i64 id)) := hs4.set H0.out.2 0 (.int .i64 id)
      obtain ⟨r5', ⟨y0', y1', y2', y3'⟩, yf'⟩ := hs5.facts
      have hcn := number_any _ b dv { s with pos := q1 } hs5.st.rd
      have HC1 := Lib.hid hcn
      have HS1 := Lib.hid hs5
      clear hc hp1 h1 h2 hs4 hs5 hcn x0 x1 x2 x3 xf r0 cn fn HC0
      have r5 := r5'
      have y0 := y0'
      have y1 := y1'
      have y2 := y2'
      have y3 := y3'
      have yf := yf'
      clear r5' y0' y1' y2' y3' yf'
      go_wp2_with fail
      cases hp2 : pNum s.data q1 with
      | error e1 =>
        have ho : out = .error e1 := by
          have hp1 := HP1.out; rw [HO.out]; simp only [pNode, if_neg HZ.out.1, hp1, hp2]
        subst ho
        have hc := HC1.out
        rw [hp2] at hc
        refine hc.mono ?_
        rintro e w4 ⟨rfl, h1, h2⟩
        clear hc hp2 HO
        go_wp2_with fail
        exact ⟨rfl, rfl, h1, (HS1.out.read H0.out.2 h1 h2).tch⟩
      | ok y1 =>
        obtain ⟨kd, q2⟩ := y1
        have hc := HC1.out
        rw [hp2] at hc
        refine hc.mono ?_
        rintro e w2 ⟨v4, rfl, rfl, h1, h2⟩
        have HP2 := Lib.hid hp2
        have hs4 : NSt w nb rb fb b dv depth #[.int .i64 id, .int .i64 0, .string ⟨#[]⟩, .slice none 0 0] { s with pos := q2 } (m + 1) w2 := HS1.out.read H0.out.2 h1 h2
        obtain ⟨r4, ⟨z0, z1, z2, z3⟩, zf⟩ := hs4.facts
        have hs5 : NSt w nb rb fb b dv depth #[.int .i64 id, .int .i64 kd, .string ⟨#[]⟩, .slice none 0 0] { s with pos := q2 } (m + 1) (w2.setCell ⟨w.heap.size + 1 + 1, 1, none⟩ (.int .i64 kd)) := hs4.set H0.out.2 1 (.int .i64 kd)
        obtain ⟨r5', ⟨y0', y1', y2', y3'⟩, yf'⟩ := hs5.facts
        have hcn := text_any _ b dv { s with pos := q2 } hs5.st.rd
        have HC2 := Lib.hid hcn
        have HS2 := Lib.hid hs5
        clear hc hp2 h1 h2 hs4 hs5 hcn y0 y1 y2 y3 yf r5 HC1
        have r5 := r5'
        have y0 := y0'
        have y1 := y1'
        have y2 := y2'
        have y3 := y3'
        have yf := yf'
        clear r5' y0' y1' y2' y3' yf'
        go_wp2_with fail
        cases hp3 : pText s.data q2 with
        | error e1 =>
          have ho : out = .error e1 := by
            have hp1 := HP1.out; have hp2 := HP2.out; rw [HO.out]; simp only [pNode, if_neg HZ.out.1, hp1, hp2, hp3]
          subst ho
          have hc := HC2.out
          rw [hp3] at hc
          refine hc.mono ?_
          rintro e w4 ⟨rfl, h1, h2⟩
          clear hc hp3 HO
          go_wp2_with fail
          exact ⟨rfl, rfl, h1, (HS2.out.read H0.out.2 h1 h2).tch⟩
        | ok y1 =>
          obtain ⟨tx, q3⟩ := y1
          have hc := HC2.out
          rw [hp3] at hc
          refine hc.mono ?_
          rintro e w3 ⟨v4, rfl, rfl, h1, h2⟩
          have HP3 := Lib.hid hp3
          have hs4 : NSt w nb rb fb b dv depth #[.int .i64 id, .int .i64 kd, .string ⟨#[]⟩, .slice none 0 0] { s with pos := q3 } (m + 1) w3 := HS2.out.read H0.out.2 h1 h2
          obtain ⟨r4, ⟨z0, z1, z2, z3⟩, zf⟩ := hs4.facts
          have hs5 : NSt w nb rb fb b dv depth #[.int .i64 id, .int .i64 kd, .string tx, .slice none 0 0] { s with pos := q3 } (m + 1) (w3.setCell ⟨w.heap.size + 1 + 1, 2, none⟩ (.string tx)) := hs4.set H0.out.2 2 (.string tx)
          obtain ⟨r5', ⟨y0', y1', y2', y3'⟩, yf'⟩ := hs5.facts
          have hcn := count_anyC _ b dv { s with pos := q3 } hs5.st.rd 32 9223372036854775807 (by omega) (by omega)
          have HC3 := Lib.hid hcn
          have HS3 := Lib.hid hs5
          clear hc hp3 h1 h2 hs4 hs5 hcn y0 y1 y2 y3 yf r5 HC2
          have r5 := r5'
          have y0 := y0'
          have y1 := y1'
          have y2 := y2'
          have y3 := y3'
          have yf := yf'
          clear r5' y0' y1' y2' y3' yf'
          go_wp2_with fail
          cases hp4 : pCount s.data 32 9223372036854775807 q3 with
          | error e1 =>
            have ho : out = .error e1 := by
              have hp1 := HP1.out; have hp2 := HP2.out; have hp3 := HP3.out; rw [HO.out]; simp only [pNode, if_neg HZ.out.1, hp1, hp2, hp3, hp4]
            subst ho
            have hc := HC3.out
            rw [hp4] at hc
            refine hc.mono ?_
            rintro e w4 ⟨rfl, h1, h2⟩
            clear hc hp4 HO
            go_wp2_with fail
            exact ⟨rfl, rfl, h1, (HS3.out.read H0.out.2 h1 h2).tch⟩
          | ok y1 =>
            obtain ⟨n, q4⟩ := y1
            have hc := HC3.out
            rw [hp4] at hc
            refine hc.mono ?_
            rintro e w4 ⟨v4, rfl, rfl, h1, h2⟩
            have HP4 := Lib.hid hp4
            have hs4 : NSt w nb rb fb b dv depth #[.int .i64 id, .int .i64 kd, .string tx, .slice none 0 0] { s with pos := q4 } (m + 1) w4 := HS3.out.read H0.out.2 h1 h2
            have hs5 := hs4
            obtain ⟨r4, ⟨z0, z1, z2, z3⟩, zf⟩ := hs4.facts
            obtain ⟨r5', ⟨y0', y1', y2', y3'⟩, yf'⟩ := hs5.facts
            have hn6 : n ≤ 100000000 := by
              have h9 := (pCount_ok hp4).2.2.2
              have h10 := hs4.st.rd.few
              have h11 : s.data.length ≤ 100000000 := h10
              omega
            have hcn := list_any nb rb fb b dv s.data f depth w.heap.size HIH.out (by have := HZ.out.2.2.2; omega) w4 { s with pos := q4 } (m + 1) rfl hs5.st HZ.out.2.1 hs5.db (by have := HZ.out.2.2.1; omega) n hn6
            have HC4 := Lib.hid hcn
            have HS4 := Lib.hid hs5
            clear hc hp4 h1 h2 hs4 hs5 hcn y0 y1 y2 y3 yf r5 hn6 HC3
            have r5 := r5'
            have y0 := y0'
            have y1 := y1'
            have y2 := y2'
            have y3 := y3'
            have yf := yf'
            clear r5' y0' y1' y2' y3' yf'
            go_wp2_with fail
            cases hp5 : pList (fun m' q => pNode s.data f (depth + 1) m' q) n (m + 1) q4 with
            | error e1 =>
              have ho : out = .error e1 := by
                have hp1 := HP1.out; have hp2 := HP2.out; have hp3 := HP3.out; have hp4 := HP4.out; rw [HO.out]; simp only [pNode, if_neg HZ.out.1, hp1, hp2, hp3, hp4, hp5]
              subst ho
              have hc := HC4.out
              rw [hp5] at hc
              refine hc.mono ?_
              rintro e w5 ⟨rfl, h1, h2⟩
              clear hc hp5 HO
              go_wp2_with fail
              exact ⟨rfl, rfl, h1, HS4.out.tch.trans h2 (fun k hk => Or.inl hk)⟩
            | ok y1 =>
              obtain ⟨⟨l, m2⟩, q5⟩ := y1
              have ho : out = .ok ((⟨id, kd, tx, foOfC l⟩, m2), q5) := by
                have hp1 := HP1.out; have hp2 := HP2.out; have hp3 := HP3.out; have hp4 := HP4.out; rw [HO.out]; simp only [pNode, if_neg HZ.out.1, hp1, hp2, hp3, hp4, hp5]
              subst ho
              have hc := HC4.out
              rw [hp5] at hc
              refine hc.mono ?_
              rintro e w5 ⟨a, nn, cap, rfl, h1, h2, h3, h4, h5⟩
              have hs6 := HS4.out.move H0.out.2 h4 h5
              obtain ⟨r6, ⟨u0, u1, u2, u3⟩, uf⟩ := hs6.facts
              have hs7 : NSt w nb rb fb b dv depth #[.int .i64 id, .int .i64 kd, .string tx, .slice a nn cap] { s with pos := q5 } m2 (w5.setCell ⟨w.heap.size + 1 + 1, 3, none⟩ (.slice a nn cap)) := hs6.set H0.out.2 3 (.slice a nn cap)
              obtain ⟨r7, ⟨k0, k1, k2, k3⟩, kf⟩ := hs7.facts
              obtain ⟨⟨t0, t1, t2, t3⟩, tf⟩ := hs7.rsFacts
              have HFIN := Lib.hid (fun W hW => NSt.finish (id := id) (kd := kd) (tx := tx) HS4.out H0.out.2 h4 h5 h1 h2 h3 W hW)
              clear hc hp5 HO h1 h2 h3 h4 h5 hs6 hs7 r6 r7 r5 y0 y1 y2 y3 yf HC4
              go_wp2_with fail
              obtain ⟨f1, f2, f3, f4⟩ := HFIN.out _ rfl
              refine bodyPost_ret (results_cell_row rfl _ _ (w.heap.size + 1) 25 _ (0, 0) _ rfl f1 Tryd.underlying25 rfl (by kernel_rfl)) rfl ?_
              exact ⟨_, rfl, f2, f3, f4⟩
end Go.Proofs.YteccnekdmehloaaDoor
