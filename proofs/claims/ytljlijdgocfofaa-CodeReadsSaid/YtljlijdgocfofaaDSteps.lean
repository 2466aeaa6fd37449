/-
  The document's Steps. No condition.
-/
import Derived.Test.YtljlijdgocfofaaDStep
import Derived.Deep.LoopGhost
namespace Go.Proofs.Ytljlijdgocfofaa
open Go.RowKit
open Extern.Stop (cell)

/-- What the document's Steps answers. -/
def StpsC (w : World) (rb : Nat) (a : Option Addr) (cap : Nat) (s : Rd) (o : Got (List Stp)) (e : Ending) (w' : World) : Prop :=
  ∃ (ra : Option Addr) (n rc : Nat) (m' : Int), e = .returned (.slice ra n rc) ∧ RfAt w' rb a cap (aft s o) m' ∧ Touched w w' (fun k => k = rb) ∧
    (Fz s o → ra = none ∧ n = 0 ∧ rc = 0) ∧ ∀ l q, s.bad = false → o = .ok (l, q) → n = l.length ∧ n ≤ rc ∧ StepsAt w' (Fresh w w') ra l
structure DSInv (w : World) (rb : Nat) (a : Option Addr) (cap : Nat) (s : Rd) (O : Got (List Stp)) (q0 : Nat) (rv : Value) (k : Nat) (xs : List Value) (sk : Rd) (mk : Int) (wr : World) : Prop where
  rd : RfAt wr rb a cap sk mk
  tch : Touched w wr (fun k => k = rb)
  row : wr.ownsRow w.heap.size 54 9 rv k xs
  low : rb < w.heap.size ∧ (0 < s.data.length → ∀ ad, a = some ad → ad.block < w.heap.size)
  dat : sk.data = s.data
  state : (sk.bad = true ∧ aft s O = sk) ∨ ∃ l qk, s.bad = false ∧ sk = { s with pos := qk } ∧ pList (oneS s.data) k 0 q0 = .ok ((l, 0), qk) ∧ l.length = k ∧ StRow wr (MidN w wr rv) l xs
theorem oneS_m {d : List UInt8} {m p : Nat} {x : Stp} {m2 q : Nat} (h : oneS d m p = .ok ((x, m2), q)) : m2 = m ∧ pStep d p = .ok (x, q) := by
  unfold oneS at h
  cases hp : pStep d p with
  | error e => rw [hp] at h; cases h
  | ok y => obtain ⟨y1, y2⟩ := y; rw [hp] at h; cases h; exact ⟨rfl, rfl⟩
theorem DSInv.next {w wr w2 w3 : World} {rb : Nat} {a : Option Addr} {cap : Nat} {s : Rd} {O : Got (List Stp)} {q0 : Nat} {rv : Value} {k n : Nat} {xs : List Value} {sk : Rd} {mk : Int}
    {l : List Stp} {qk gg cap' : Nat} {op id pa pl : Int} {tx : ByteArray} {ti tk : Int} {tt : ByteArray} {ka : Option Addr} {kl kc : Nat} {m' : Int} {o1 o2 : Obj}
    (h : DSInv w rb a cap s O q0 rv k xs sk mk wr) (hb : s.bad = false) (hO : ∀ e, pList (oneS s.data) n 0 q0 = .error e → O = .error e) (hkn : k < n)
    (e1 : sk = { s with pos := qk }) (e3 : pList (oneS s.data) k 0 q0 = .ok ((l, 0), qk)) (e4 : l.length = k) (e5 : StRow wr (MidN w wr rv) l xs)
    (h2 : RfAt w2 rb a cap (aft sk (pStep sk.data sk.pos)) m') (t2 : Touched wr w2 (fun k => k = rb))
    (v2 : ∀ x q, sk.bad = false → pStep sk.data sk.pos = .ok (x, q) → StAt w2 (Fresh wr w2) (.agg #[.int .i8 op, .int .i64 id, .int .i64 pa, .int .i64 pl, .string tx, .int .i64 ti, .int .i64 tk, .string tt, .slice ka kl kc]) x)
    (hrow : w3.ownsRow w.heap.size 54 9 (.slice (some ⟨gg, 0, none⟩) (k + 1) cap') (k + 1) (xs ++ [.int .i8 op, .int .i64 id, .int .i64 pa, .int .i64 pl, .string tx, .int .i64 ti, .int .i64 tk, .string tt, .slice ka kl kc])) (hg : ((w2.alloc o1).alloc o2).grownBy w3 rv.ownBlock) (hat : rv.ownBlock = some gg ∨ gg = w2.heap.size + 1 + 1) :
    DSInv w rb a cap s O q0 (.slice (some ⟨gg, 0, none⟩) (k + 1) cap') (k + 1) (xs ++ [.int .i8 op, .int .i64 id, .int .i64 pa, .int .i64 pl, .string tx, .int .i64 ti, .int .i64 tk, .string tt, .slice ka kl kc]) (aft sk (pStep sk.data sk.pos)) m' w3 := by
  obtain ⟨l1, l3⟩ := h.low
  have hrv : ∀ g, rv.ownBlock = some g → w.heap.size ≤ g ∧ g < wr.heap.size := fun g hg => owns_bounds h.row hg
  have hs1 := h.tch.size
  have hs2 := t2.size
  have hs3 := hg.size
  rw [World.size_alloc, World.size_alloc] at hs3
  have t3 : Touched w2 w3 (fun x => rv.ownBlock = some x) := (((Touched.refl w2 _).alloc o1).alloc o2).trans (S' := fun x => rv.ownBlock = some x) ⟨hg.os, hg.tape, hg.output, hg.size, fun x hx hn => hg.block x hx (fun e => hn e.symm)⟩ (fun x hx => Or.inl hx)
  have hsd : (aft sk (pStep sk.data sk.pos)).data = s.data := by rw [aft_data, h.dat]
  refine ⟨h2.kept t3 (fun e => by have := hrv _ e; omega) (fun h0 ad ea _ e => by rw [hsd] at h0; have := l3 h0 ad ea; have := hrv _ e; omega), (h.tch.trans t2 (fun x hx => Or.inl hx)).trans t3 (fun x hx => Or.inr (hrv x hx).1), hrow, h.low, hsd, ?_⟩
  subst e1
  cases ho : pStep s.data qk with
  | error e =>
    have ho' : pStep ({ s with pos := qk } : Rd).data ({ s with pos := qk } : Rd).pos = .error e := ho
    rw [aft_err (α := Stp) (s := { s with pos := qk }) (o := .error e) hb rfl]
    have hOe := hO e (pList_err e3 (show oneS s.data 0 qk = .error e by simp only [oneS, ho]) n hkn)
    exact Or.inl ⟨rfl, by rw [aft_err hb hOe]⟩
  | ok y =>
    obtain ⟨x, q⟩ := y
    have ho' : pStep ({ s with pos := qk } : Rd).data ({ s with pos := qk } : Rd).pos = .ok (x, q) := ho
    obtain ⟨ka', kcap, f2, f3, f4⟩ := v2 x q hb ho'
    simp only [Value.agg.injEq, Array.mk.injEq, List.cons.injEq, Value.int.injEq, Value.string.injEq, Value.slice.injEq, and_true, true_and] at f2
    obtain ⟨rfl, rfl, rfl, rfl, rfl, rfl, rfl, rfl, rfl, rfl, rfl⟩ := f2
    rw [aft_ok (α := Stp) (s := { s with pos := qk }) (o := .ok (x, q)) hb rfl]
    refine Or.inr ⟨l ++ [x], q, hb, rfl, by simp only [pList, e3, oneS, ho], by simp [e4], ?_⟩
    refine StRow.snoc (f4.kept fun x hx => ?_) kc f3 (e5.kept fun x hx => ?_)
    · have hx1 := hx.1
      have hx2 := hx.2
      have hn1 : rv.ownBlock ≠ some x := fun e => by have := hrv x e; omega
      refine ⟨⟨by omega, by omega, fun e => ?_⟩, t3.block x hx2 hn1⟩
      simp only [Value.ownBlock, Option.some.injEq] at e
      rcases hat with e' | e'
      · exact hn1 (by rw [e', e])
      · omega
    · have hx1 := hx.1
      have hx2 := hx.2.1
      have hn1 := hx.2.2
      refine ⟨⟨hx1, by omega, fun e => ?_⟩, (t3.block x (by omega) hn1).trans (t2.block x hx2 (by omega))⟩
      simp only [Value.ownBlock, Option.some.injEq] at e
      rcases hat with e' | e'
      · exact hn1 (by rw [e', e])
      · omega
theorem DSInv.done {w wr : World} {rb : Nat} {a : Option Addr} {cap : Nat} {s : Rd} {O : Got (List Stp)} {q0 : Nat} {ra : Option Addr} {rc k n : Nat} {xs : List Value} {sk : Rd} {mk : Int} (h : DSInv w rb a cap s O q0 (.slice ra k rc) k xs sk mk wr) (hbk : sk.bad = false) (hkn : k = n) (hb : s.bad = false) (hOk : O = oneErr (pList (oneS s.data) n 0 q0)) :
    StpsC w rb a cap s O (.returned (.slice ra k rc)) wr := by
  rcases h.state with ⟨h1, _⟩ | ⟨l, qk, _, h1, h3, h4, h5⟩
  · rw [hbk] at h1; cases h1
  · have hO : O = .ok (l, qk) := by rw [hOk, ← hkn, h3]; rfl
    have hrd := h.rd
    rw [h1] at hrd
    refine ⟨ra, k, rc, mk, rfl, by rw [aft_ok hb hO]; exact hrd, h.tch, fun hf => ?_, fun l' q' _ ho => ?_⟩
    · have := aft_bad hf
      rw [aft_ok hb hO] at this
      rw [hb] at this; cases this
    · rw [hO] at ho
      cases ho
      have hrow := h.row
      refine ⟨h4.symm, ?_, ?_⟩
      · rcases hrow.2 with ⟨h1, h2⟩ | ⟨g', cap', cur, hv, _, hh, h3, _⟩
        · omega
        · cases hv; exact h3
      · rcases hrow.2 with ⟨h1, h2⟩ | ⟨g', cap', cur, hv, hB, hh, _⟩
        · have h3 : l = [] := List.eq_nil_of_length_eq_zero (by omega)
          subst h3
          exact fun h0 => by simp at h0
        · cases hv
          exact (h5.kept (S' := Fresh w wr) fun x hx => ⟨⟨hx.1, hx.2.1⟩, rfl⟩).at ⟨hB, lt_of_heap hh⟩ (fun j u hu => owns_cell hrow rfl j u hu)

set_option maxRecDepth 100000 in
set_option maxHeartbeats 4000000 in
theorem dSteps (w : World) (rb : Nat) (a : Option Addr) (cap : Nat) (s : Rd) (m : Int) (h : RfAt w rb a cap s m) :
    Calls Try.prog 29 #[.pointer (some ⟨rb, 0, none⟩)] w (StpsC w rb a cap s (pSteps s.data s.pos)) := by
  obtain ⟨at_, hh, _⟩ := h.here
  have hlt := lt_of_heap hh
  obtain ⟨out, hout⟩ : ∃ out, out = pSteps s.data s.pos := ⟨_, rfl⟩
  rw [← hout]
  have HO := Lib.hid hout
  have H0 := Lib.hid (And.intro (bCount h 57 60 (by decide) (by decide)) (And.intro hlt h.low))
  obtain ⟨i0, z0, hi0, hz0, hz1, hz2, hz3⟩ := info_wide Try.infoSt
  have HI := Lib.hid (And.intro hi0 (And.intro hz0 (And.intro hz1 (And.intro hz2 hz3))))
  clear h hh hlt hout hi0 hz0 hz1 hz2 hz3
  go_enter Try.func29, Try.ntmps29
  go_wp2_with (go_at_call 32; refine H0.out.1.mono ?_; rintro e w1 ⟨n, rfl, h1, t1, z1, v1⟩; have H1 := Lib.hid (And.intro h1 (And.intro t1 (And.intro z1 v1))); clear h1 t1 z1 v1)
  obtain ⟨s1, hs1⟩ : ∃ s1, s1 = aft s (pCount s.data 57 60 s.pos) := ⟨_, rfl⟩
  obtain ⟨h1, t1, z1, v1⟩ := H1.out
  rw [← hs1] at h1
  obtain ⟨q0, hn1, hst, hc⟩ : ∃ q0, n ≤ 60 ∧ ((s1.bad = true ∧ aft s out = s1) ∨ (s.bad = false ∧ s1 = { s with pos := q0 })) ∧ (s1.bad = false → s.bad = false ∧ out = oneErr (pList (oneS s.data) n 0 q0)) := by
    by_cases hf : Fz s (pCount s.data 57 60 s.pos)
    · have hb := aft_bad hf
      rw [← hs1] at hb
      have hsame := aft_same (o' := pSteps s.data s.pos) (fun p hp => by unfold pSteps; rw [hp]) hf
      refine ⟨0, by rw [z1 hf]; omega, Or.inl ⟨hb, by rw [HO.out, hsame.1, hs1]⟩, fun h => by rw [hb] at h; cases h⟩
    · obtain ⟨hb, x, q, hp⟩ := not_fz hf
      have hx := v1 x q hb hp
      subst hx
      refine ⟨q, by have := (pCount_ok hp).2.2.1; omega, Or.inr ⟨hb, by rw [hs1, aft_ok hb hp]⟩, fun _ => ⟨hb, by rw [HO.out]; unfold pSteps; rw [hp]⟩⟩
  have hd1 : s1.data = s.data := by rw [hs1, aft_data]
  have HD : Hid (DSInv w rb a cap s out q0 (.slice none 0 0) 0 [] s1 m w1) := Lib.hid ⟨h1, t1, World.ownsRow_nil _ _ _ _, H0.out.2, hd1, by
    rcases hst with h | h
    · exact Or.inl h
    · exact Or.inr ⟨[], q0, h.1, h.2, rfl, rfl, rfl⟩⟩
  have HK := Lib.hid hc
  have hn2 : (n : Int) ≤ 60 := by omega
  clear h1 t1 z1 v1 hs1 hst hc hd1
  go_loopg [4, 5] n (fun gk rv i wr => ∃ (k : Nat) (xs : List Value) (sk : Rd) (mk : Int), k + gk = n ∧ i = .int .i64 (k : Int) ∧ Hid (DSInv w rb a cap s out q0 rv k xs sk mk wr ∧ (sk.bad = false → s1.bad = false)))
  case atStart => exact ⟨0, [], s1, _, by omega, rfl, Lib.hid ⟨HD.out, id⟩⟩
  case round =>
    obtain ⟨k, xs, sk, mk, hkn, rfl, HL⟩ := hrel
    obtain ⟨ra, rc, hrv⟩ := owns_slice HL.out.1.row
    subst hrv
    by_cases hbk : sk.bad = true
    · obtain ⟨p', hp0, hpc⟩ := HL.out.1.rd.failedP hbk
      have hneg : decide (p' < 0) = false := by simp only [decide_eq_false_iff_not]; omega
      have hge : decide (0 ≤ p') = true := by simp only [decide_eq_true_eq]; omega
      have HBK := Lib.hid hbk
      clear hbk
      have hend : StpsC w rb a cap s out (.returned (.slice none 0 0)) wr := by
        rcases HL.out.1.state with ⟨u1, u2⟩ | ⟨l, qk, u0, u1, u3, u4, u5⟩
        · refine ⟨none, 0, 0, mk, rfl, by rw [u2]; exact HL.out.1.rd, HL.out.1.tch, fun _ => ⟨rfl, rfl, rfl⟩, fun l q hb ho => ?_⟩
          have h3 := HBK.out
          rw [← u2, aft_ok hb ho] at h3
          rw [hb] at h3; cases h3
        · have h3 := HBK.out
          rw [u1] at h3
          exact absurd h3 (by show ¬ s.bad = true; rw [u0]; decide)
      have HE := Lib.hid hend
      clear hend
      by_cases hlt : k < n
      · have hkl : (k : Int) < (n : Int) := by omega
        go_wp2_with fail
        go_ret
        exact HE.out
      · have hkl : ¬ (k : Int) < (n : Int) := by omega
        go_wp2_with fail
        go_ret
        exact HE.out
    · have hbk : sk.bad = false := by simpa using hbk
      obtain ⟨c1, c2⟩ := HK.out (HL.out.2 hbk)
      obtain ⟨rd0, rd1, rd2, rd3, rdf⟩ := HL.out.1.rd.good hbk
      by_cases hlt : k < n
      · have hkl : (k : Int) < (n : Int) := by omega
        obtain ⟨l, qk, u1, u3, u4, u5⟩ : ∃ l qk, sk = { s with pos := qk } ∧ pList (oneS s.data) k 0 q0 = .ok ((l, 0), qk) ∧ l.length = k ∧ StRow wr (MidN w wr (.slice ra k rc)) l xs := by
          rcases HL.out.1.state with ⟨u, _⟩ | u
          · rw [hbk] at u; cases u
          · obtain ⟨l, qk, _, u⟩ := u
            exact ⟨l, qk, u⟩
        have HS := Lib.hid (And.intro (dStep wr rb a cap sk mk HL.out.1.rd) (And.intro hbk (And.intro c1 (And.intro c2 (And.intro u1 (And.intro u3 (And.intro u4 u5)))))))
        clear hbk c1 c2 u1 u3 u4 u5
        have HZ := Lib.hid (And.intro HL.out.1.low HL.out.1.tch.size)
        go_wp2_with (first
          | (go_at_call 54; refine HS.out.1.mono ?_; rintro e w5 ⟨x1, x2, x3, x4, x5, yi, yk, yt, ya, yl, yc, m5, rfl, h1, t1, z1, v1⟩; have hrow2 := owns_keep HL.out.1.row (fun g hg => t1.block g (owns_lt HL.out.1.row g hg) (fun e => by have h3 := (owns_bounds HL.out.1.row hg).1; have h4 := HZ.out.1.1; omega)); have H2 := Lib.hid (And.intro h1 (And.intro t1 (And.intro v1 hrow2))); clear h1 t1 z1 v1 hrow2)
          | (at_builtin; refine wpList_append_lies _ rfl (.tmp 23) (.tmp 25) _ rfl w.heap.size 54 i0 z0 9 104 Try.underlying26 HI.out.1 HI.out.2.1 HI.out.2.2.1 HI.out.2.2.2.1 HI.out.2.2.2.2 (by omega) (.slice ra k rc) k xs rfl (owns_keep H2.out.2.2.2 (fun g hg => (Below.heap_alloc _ _ g (by rw [World.size_alloc]; have := owns_lt H2.out.2.2.2 g hg; omega)).trans (Below.heap_alloc _ _ g (owns_lt H2.out.2.2.2 g hg)))) ⟨w5.heap.size + 1, 0, none⟩ 1 1 [.int .i8 x1, .int .i64 x2, .int .i64 x3, .int .i64 x4, .string x5, .int .i64 yi, .int .i64 yk, .string yt, .slice ya yl yc] rfl rfl (World.news_of_block (cs := #[.int .i8 x1, .int .i64 x2, .int .i64 x3, .int .i64 x4, .string x5, .int .i64 yi, .int .i64 yk, .string yt, .slice ya yl yc]) (t := 54) (fr := (0, 0)) (heap_alloc2_new w5 _ _)) (by simp [Value.oneCell']) (by omega) (by unfold maxLen; omega) (by omega) (by have := H2.out.2.1.size; have := HZ.out.2; simp; omega) (w5.heap.size + 1 + 1) (by simp) ?_; intro gg cap' w6 hown3 hgrow hat hlt3; have H3 := Lib.hid (And.intro hown3 (And.intro hgrow hat)); clear hown3 hgrow hat hlt3))
        obtain ⟨_, b1, b2, b3, b4, b5, b6, b7⟩ := HS.out
        have h8 := DSInv.next (n := n) HL.out.1 b2 (fun e he => by rw [b3, he]; rfl) hlt b4 b5 b6 b7 H2.out.1 H2.out.2.1 H2.out.2.2.1 H3.out.1 H3.out.2.1 H3.out.2.2
        go_roundg (gk - 1)
        case measure => omega
        case rel => exact ⟨k + 1, _, _, m5, by omega, by go_num, Lib.hid ⟨h8, fun _ => HL.out.2 b1⟩⟩
      · have hkk : k = n := by omega
        have hkl : ¬ (k : Int) < (n : Int) := by omega
        have HE := Lib.hid (HL.out.1.done hbk hkk c1 c2)
        clear hkk c1 c2 hbk
        go_wp2_with fail
        go_ret
        exact HE.out
end Go.Proofs.Ytljlijdgocfofaa
