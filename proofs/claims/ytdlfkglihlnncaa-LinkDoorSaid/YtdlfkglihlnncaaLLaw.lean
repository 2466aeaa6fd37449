/-
  LinkDoor: true, for any boot, any messages that came in, any client. No condition.
-/
import Derived.Deep.LoopGhost
import Derived.WalkMore
import Derived.Test.YtdlfkglihlnncaaLHead
namespace Go.Proofs.Ytdlfkglihlnncaa
open Go.RowKit
open Go.Maps
set_option linter.unusedVariables false
set_option linter.unusedSimpArgs false

/-- A message that came in lies in 16 cells. -/
def MsgIn (w : World) (b o : Nat) : Prop := ∃ (a0 a1 a2 a3 a4 a5 a6 a7 a8 a9 a10 : Int) (c11 c12 c13 c14 c15 : Value), (∀ (j : Nat) (u : Value), (#[.int .i8 a0, .int .i64 a1, .int .i64 a2, .int .i64 a3, .int .i64 a4, .int .i64 a5, .int .i64 a6, .int .i64 a7, .int .i64 a8, .int .i64 a9, .int .i64 a10, c11, c12, c13, c14, c15] : Array Value)[j]? = some u → w.cell? ⟨b, o + j, none⟩ = some u) ∧ (Lit.int .i64 a1).wf = true ∧ (Lit.int .i64 a3).wf = true
/-- A row of messages that came in. -/
def MsgsIn (w : World) (a : Option Addr) (n : Nat) : Prop := ∀ k, k < n → ∃ b off, a = some ⟨b, off, none⟩ ∧ b < w.heap.size ∧ MsgIn w b (off + k * 16)
/-- Both doors, after the same messages. -/
structure Two (W0 : World) (db rb n : Nat) (boot : Int) (g : Int → Int) (w : World) : Prop where
  door : ∃ mo, DoorAt w db mo n boot g ∧ ∀ q, mo = some q → W0.heap.size ≤ q ∧ q ≠ rb
  ref : w.heap[rb]? = some (.cells (refC boot g) 51 (0, 0))
  below : Below W0.heap.size W0 w
  db0 : W0.heap.size ≤ db
  rb0 : W0.heap.size ≤ rb
  ne : rb ≠ db
  only : Only g
theorem Two.on {W0 w w' : World} {db rb n : Nat} {boot : Int} {g : Int → Int} (h : Two W0 db rb n boot g w) (hb : Below w.heap.size w w') : Two W0 db rb n boot g w' := by
  obtain ⟨mo, h1, h2⟩ := h.door
  exact ⟨⟨mo, h1.on hb, h2⟩, (hb.block _ (lt_of_heap h.ref)).trans h.ref, h.below.trans (hb.mono h.below.size), h.db0, h.rb0, h.ne, h.only⟩
/-- A message taken by both. -/
def BothC (W0 : World) (db rb n : Nat) (boot f b : Int) (g : Int → Int) (w : World) : Prop := Two W0 db rb (n + 1) boot (after g f b) w
theorem Two.take {W0 w w' : World} {db rb n : Nat} {mo : Option Nat} {boot : Int} {g g' : Int → Int} (h : Two W0 db rb n boot g w) (hm : ∀ q, mo = some q → W0.heap.size ≤ q ∧ q ≠ rb) (hd : DoorC w db mo (n + 1) boot g' w') : (∃ mo', DoorAt w' db mo' (n + 1) boot g' ∧ ∀ q, mo' = some q → W0.heap.size ≤ q ∧ q ≠ rb) ∧ w'.heap[rb]? = some (.cells (refC boot g) 51 (0, 0)) ∧ Below W0.heap.size W0 w' := by
  obtain ⟨⟨mo', h1, h2⟩, h3⟩ := hd
  have hrb := lt_of_heap h.ref
  refine ⟨⟨mo', h1, fun q hq => ?_⟩, (h3.block _ hrb fun h4 => ?_).trans h.ref, ⟨h3.os.trans h.below.os, h3.tape.trans h.below.tape, h3.output.trans h.below.output, Nat.le_trans h.below.size h3.size, fun q hq => (h3.block q (Nat.lt_of_lt_of_le hq h.below.size) fun h4 => ?_).trans (h.below.block q hq)⟩⟩
  · rcases h2 with h2 | ⟨x, h4, h5⟩
    · exact hm q (h2.symm.trans hq)
    · rw [h4] at hq; cases hq; exact ⟨Nat.le_trans h.below.size h5, by omega⟩
  · rcases h4 with h4 | h4
    · exact h.ne h4
    · exact (hm rb h4).2 rfl
  · rcases h4 with h4 | h4
    · have := h.db0; omega
    · have := (hm q h4).1; omega
theorem Two.rtake {W0 w w' : World} {db rb n : Nat} {boot f b : Int} {g : Int → Int} (hd : ∃ mo, DoorAt w db mo n boot (after g f b) ∧ ∀ q, mo = some q → W0.heap.size ≤ q ∧ q ≠ rb) (hb : Below W0.heap.size W0 w) (h1 : W0.heap.size ≤ db) (h2 : W0.heap.size ≤ rb) (hn : rb ≠ db) (ho : Only g) (hr : w'.heap[rb]? = some (.cells (refC boot (after g f b)) 51 (0, 0))) (ht : Touched w w' (fun q => q = rb)) : Two W0 db rb n boot (after g f b) w' := by
  obtain ⟨mo, h3, h4⟩ := hd
  refine ⟨⟨mo, ⟨(ht.block _ (lt_of_heap h3.row) fun e => hn e.symm).trans h3.row, MapV.at h3.tells fun q hq => ht.block q (MapV.lt h3.tells q hq) fun e => (h4 q hq).2 e, h3.apart⟩, h4⟩, hr, ⟨ht.os.trans hb.os, ht.tape.trans hb.tape, ht.output.trans hb.output, Nat.le_trans hb.size ht.size, fun q hq => (ht.block q (Nat.lt_of_lt_of_le hq hb.size) fun e => by omega).trans (hb.block q hq)⟩, h1, h2, hn, ho.after f b⟩
theorem Two.start (w : World) (boot : Int) (Y : World) (hY : Y = (w.alloc (.cells #[.int .i64 boot, .map none] 48)).alloc (.cells (refC boot g0) 51)) : Two w w.heap.size (w.heap.size + 1) 0 boot g0 Y := by
  subst hY
  exact ⟨⟨none, ⟨alloc2_old _ _ _, rfl, fun e => by cases e⟩, fun q e => by cases e⟩, alloc2_new _ _ _, ((Below.refl _ _).alloc (Nat.le_refl _) _).alloc (by rw [World.size_alloc]; omega) _, Nat.le_refl _, Nat.le_succ _, by omega, fun i _ => rfl⟩
set_option maxRecDepth 100000 in
set_option maxHeartbeats 8000000 in
theorem linkDoor_any (w : World) (boot client : Int) (a : Option Addr) (n cap : Nat) (h : MsgsIn w a n) (hc : (Lit.int .i64 client).wf = true) (hl : (n : Int) ≤ 9223372036854775807) :
    Calls Try.prog 3 #[.int .i64 boot, .slice a n cap, .int .i64 client] w (RetW (.bool true) w) := by
  by_cases hn : 100 < n
  · have hni : (100 : Int) < (n : Int) := by omega
    have HC := Lib.hid (wakes15_any w)
    clear hn h hc
    go_enter Try.func3, Try.ntmps3
    go_wp2_with fail
    refine HC.out.mono ?_
    rintro e w1 ⟨rfl, hb⟩
    have HB := Lib.hid hb
    clear hb HC
    go_wp2_with fail
    go_ret
    exact ⟨rfl, HB.out⟩
  have hni : ¬ (100 : Int) < (n : Int) := by omega
  by_cases hbt : bootB boot = true
  rotate_left
  · have hbf : bootB boot = false := by simpa using hbt
    have HC := Lib.hid (newDoor_no w boot hbf)
    have HD := Lib.hid (rnew_no w boot hbf)
    clear hbt hbf h hn
    go_enter Try.func3, Try.ntmps3
    go_wp2_with fail
    refine HC.out.mono ?_
    rintro e w1 ⟨rfl, rfl⟩
    clear HC
    go_wp2_with fail
    refine HD.out.mono ?_
    rintro e w2 ⟨rfl, rfl⟩
    clear HD
    go_wp2_with fail
    refine (take_nil _).mono ?_
    rintro e w3 ⟨rfl, hb3⟩
    have H3 := Lib.hid hb3
    clear hb3
    go_wp2_with fail
    refine (hello_nil _ _).mono ?_
    rintro e w4 ⟨rfl, hb4⟩
    have H4 := Lib.hid (H3.out.trans (hb4.mono H3.out.size))
    clear hb4 H3
    go_wp2_with fail
    refine (head_any _ 0 0 0 0 0 0 0 0 0 0 0 _ _ _ _ _).mono ?_
    rintro e w5 ⟨rfl, hb5⟩
    have H5 := Lib.hid (H4.out.trans (hb5.mono H4.out.size))
    clear hb5 H4
    go_wp2_with fail
    refine (boot_nil _ _).mono ?_
    rintro e w6 ⟨rfl, rfl⟩
    go_wp2_with fail
    refine (wakes15_any _).mono ?_
    rintro e w7 ⟨rfl, hb7⟩
    have H7 := Lib.hid (H5.out.trans (hb7.mono H5.out.size))
    clear hb7 H5
    go_wp2_with fail
    go_ret
    exact ⟨rfl, H7.out⟩
  have HC := Lib.hid (newDoor_yes w boot hbt)
  obtain ⟨Y1, hY1⟩ : ∃ Y1, Y1 = w.alloc (.cells #[.int .i64 boot, .map none] 48) := ⟨_, rfl⟩
  rw [← hY1] at HC
  have HD := Lib.hid (rnew_yes Y1 boot hbt)
  have hsz : Y1.heap.size = w.heap.size + 1 := by rw [hY1, World.size_alloc]
  rw [hsz] at HD
  obtain ⟨Y2, hY2⟩ : ∃ Y2, Y2 = Y1.alloc (.cells (refC boot g0) 51) := ⟨_, rfl⟩
  have HD : Hid (Calls Try.prog 6 #[.int .i64 boot] Y1 (fun e w' => e = .returned (.tuple #[.pointer (some ⟨w.heap.size + 1, 0, none⟩), .int .i64 0]) ∧ w' = Y2)) := by rw [hY2]; exact HD
  have HS := Lib.hid (Two.start w boot Y2 (by rw [hY2, hY1]))
  have H := Lib.hid (And.intro h (And.intro hc hn))
  obtain ⟨rb, hrb⟩ : ∃ rb, rb = w.heap.size + 1 := ⟨_, rfl⟩
  obtain ⟨db, hdb⟩ : ∃ db, db = w.heap.size := ⟨_, rfl⟩
  rw [← hrb] at HD HS
  rw [← hdb] at HC
  have HS : Hid (Two w db rb 0 boot g0 Y2) := by rw [hdb]; exact HS
  clear hbt h hc hn hsz hY1 hY2 hrb hdb
  go_enter Try.func3, Try.ntmps3
  go_wp2_with fail
  refine HC.out.mono ?_
  rintro e w1 ⟨rfl, rfl⟩
  clear HC
  go_wp2_with fail
  refine HD.out.mono ?_
  rintro e w2 ⟨rfl, rfl⟩
  clear HD
  go_wp2_with fail
  go_loopw [74] (fun i wr => ∃ (k : Nat), k ≤ n ∧ i = .int .i64 (k : Int) ∧ Hid (∃ g, Two w db rb k boot g wr)) (fun i _ => n - (intOf i).toNat)
  case atStart => exact ⟨0, Nat.zero_le _, rfl, Lib.hid ⟨g0, HS.out⟩⟩
  case round =>
    obtain ⟨k, hk, rfl, hh⟩ := hrel
    obtain ⟨wo, hwo⟩ : ∃ wo, wo = wr := ⟨_, rfl⟩
    subst hwo
    by_cases hlt : k < n
    · have hki : (k : Int) < (n : Int) := by omega
      have hk0 : (0 : Int) ≤ (k : Int) := by omega
      obtain ⟨g, hg⟩ := hh.out
      obtain ⟨b, off, rfl, hbl, a0, a1, a2, a3, a4, a5, a6, a7, a8, a9, a10, c11, c12, c13, c14, c15, hcell, hw1, hw3⟩ := H.out.1 k hlt
      have hcx : ∀ X, Below w.heap.size w X → ∀ (j : Nat) (u : Value), (#[.int .i8 a0, .int .i64 a1, .int .i64 a2, .int .i64 a3, .int .i64 a4, .int .i64 a5, .int .i64 a6, .int .i64 a7, .int .i64 a8, .int .i64 a9, .int .i64 a10, c11, c12, c13, c14, c15] : Array Value)[j]? = some u → X.cell? ⟨b, off + k * 16 + j, none⟩ = some u := fun X hX j u hj => (hX.cell (p := ⟨b, off + k * 16 + j, none⟩) hbl).trans (hcell j u hj)
      have m0 : wo.cell? ⟨b, off + k * 16, none⟩ = some (.int .i8 a0) := hcx wo hg.below 0 _ rfl
      have m1 : wo.cell? ⟨b, off + k * 16 + 1, none⟩ = some (.int .i64 a1) := hcx wo hg.below 1 _ rfl
      have m2 : wo.cell? ⟨b, off + k * 16 + 2, none⟩ = some (.int .i64 a2) := hcx wo hg.below 2 _ rfl
      have m3 : wo.cell? ⟨b, off + k * 16 + 3, none⟩ = some (.int .i64 a3) := hcx wo hg.below 3 _ rfl
      have m4 : wo.cell? ⟨b, off + k * 16 + 4, none⟩ = some (.int .i64 a4) := hcx wo hg.below 4 _ rfl
      have m5 : wo.cell? ⟨b, off + k * 16 + 5, none⟩ = some (.int .i64 a5) := hcx wo hg.below 5 _ rfl
      have m6 : wo.cell? ⟨b, off + k * 16 + 6, none⟩ = some (.int .i64 a6) := hcx wo hg.below 6 _ rfl
      have m7 : wo.cell? ⟨b, off + k * 16 + 7, none⟩ = some (.int .i64 a7) := hcx wo hg.below 7 _ rfl
      have m8 : wo.cell? ⟨b, off + k * 16 + 8, none⟩ = some (.int .i64 a8) := hcx wo hg.below 8 _ rfl
      have m9 : wo.cell? ⟨b, off + k * 16 + 9, none⟩ = some (.int .i64 a9) := hcx wo hg.below 9 _ rfl
      have m10 : wo.cell? ⟨b, off + k * 16 + 10, none⟩ = some (.int .i64 a10) := hcx wo hg.below 10 _ rfl
      have m11 : wo.cell? ⟨b, off + k * 16 + 11, none⟩ = some (c11) := hcx wo hg.below 11 _ rfl
      have m12 : wo.cell? ⟨b, off + k * 16 + 12, none⟩ = some (c12) := hcx wo hg.below 12 _ rfl
      have m13 : wo.cell? ⟨b, off + k * 16 + 13, none⟩ = some (c13) := hcx wo hg.below 13 _ rfl
      have m14 : wo.cell? ⟨b, off + k * 16 + 14, none⟩ = some (c14) := hcx wo hg.below 14 _ rfl
      have m15 : wo.cell? ⟨b, off + k * 16 + 15, none⟩ = some (c15) := hcx wo hg.below 15 _ rfl
      have HG := Lib.hid (And.intro hg (And.intro hlt (And.intro hw1 hw3)))
      have HCX := Lib.hid hcx
      clear hg hlt hw1 hw3 hcx hcell hbl hh
      go_wp2_with fail
      refine (bare_any wo a0 a1 a2 a3 a4 a5 a6 a7 a8 a9 a10 c11 c12 c13 c14 c15).mono ?_
      rintro e v1 ⟨rfl, hb1⟩
      have H1 := Lib.hid (HG.out.1.on hb1)
      clear hb1 m0 m1 m2 m3 m4 m5 m6 m7 m8 m9 m10 m11 m12 m13 m14 m15
      unfold bareC
      go_wp2_with fail
      obtain ⟨mo, h1, h2⟩ := H1.out.door
      refine (take_any v1 db k mo boot a0 a1 a2 a3 a4 a5 a6 a7 a8 a9 a10 _ _ _ _ _ g h1 (by have := HG.out.2.1; have := H.out.2.2; unfold maxLen; omega) HG.out.2.2.1 HG.out.2.2.2).mono ?_
      rintro e v2 ⟨rfl, hd⟩
      obtain ⟨x, hx⟩ : ∃ x, x = (takes g a1 a3 && (a4 == boot)) := ⟨_, rfl⟩
      obtain ⟨y, hy⟩ : ∃ y, y = (takes g a1 a3 && !(a4 == boot)) := ⟨_, rfl⟩
      rw [← hx, ← hy]
      have H2 := Lib.hid (Two.take H1.out h2 hd)
      have HXY := Lib.hid (And.intro hx hy)
      have m0 : v2.cell? ⟨b, off + k * 16, none⟩ = some (.int .i8 a0) := HCX.out v2 H2.out.2.2 0 _ rfl
      have m1 : v2.cell? ⟨b, off + k * 16 + 1, none⟩ = some (.int .i64 a1) := HCX.out v2 H2.out.2.2 1 _ rfl
      have m2 : v2.cell? ⟨b, off + k * 16 + 2, none⟩ = some (.int .i64 a2) := HCX.out v2 H2.out.2.2 2 _ rfl
      have m3 : v2.cell? ⟨b, off + k * 16 + 3, none⟩ = some (.int .i64 a3) := HCX.out v2 H2.out.2.2 3 _ rfl
      have m4 : v2.cell? ⟨b, off + k * 16 + 4, none⟩ = some (.int .i64 a4) := HCX.out v2 H2.out.2.2 4 _ rfl
      have m5 : v2.cell? ⟨b, off + k * 16 + 5, none⟩ = some (.int .i64 a5) := HCX.out v2 H2.out.2.2 5 _ rfl
      have m6 : v2.cell? ⟨b, off + k * 16 + 6, none⟩ = some (.int .i64 a6) := HCX.out v2 H2.out.2.2 6 _ rfl
      have m7 : v2.cell? ⟨b, off + k * 16 + 7, none⟩ = some (.int .i64 a7) := HCX.out v2 H2.out.2.2 7 _ rfl
      have m8 : v2.cell? ⟨b, off + k * 16 + 8, none⟩ = some (.int .i64 a8) := HCX.out v2 H2.out.2.2 8 _ rfl
      have m9 : v2.cell? ⟨b, off + k * 16 + 9, none⟩ = some (.int .i64 a9) := HCX.out v2 H2.out.2.2 9 _ rfl
      have m10 : v2.cell? ⟨b, off + k * 16 + 10, none⟩ = some (.int .i64 a10) := HCX.out v2 H2.out.2.2 10 _ rfl
      have m11 : v2.cell? ⟨b, off + k * 16 + 11, none⟩ = some (c11) := HCX.out v2 H2.out.2.2 11 _ rfl
      have m12 : v2.cell? ⟨b, off + k * 16 + 12, none⟩ = some (c12) := HCX.out v2 H2.out.2.2 12 _ rfl
      have m13 : v2.cell? ⟨b, off + k * 16 + 13, none⟩ = some (c13) := HCX.out v2 H2.out.2.2 13 _ rfl
      have m14 : v2.cell? ⟨b, off + k * 16 + 14, none⟩ = some (c14) := HCX.out v2 H2.out.2.2 14 _ rfl
      have m15 : v2.cell? ⟨b, off + k * 16 + 15, none⟩ = some (c15) := HCX.out v2 H2.out.2.2 15 _ rfl
      clear h1 h2 hd hx hy
      go_wp2_with fail
      refine (bare_any v2 a0 a1 a2 a3 a4 a5 a6 a7 a8 a9 a10 c11 c12 c13 c14 c15).mono ?_
      rintro e v3 ⟨rfl, hb3⟩
      have hr3 := (hb3.block _ (lt_of_heap H2.out.2.1)).trans H2.out.2.1
      have HR := Lib.hid (rtake_any v3 rb boot a0 a1 a2 a3 a4 a5 a6 a7 a8 a9 a10 (.slice none 0 0) (.int .i64 0) (.int .i64 0) (.string ⟨#[]⟩) (.slice none 0 0) g hr3)
      unfold RTakeC at HR
      rw [← HXY.out.1, ← HXY.out.2] at HR
      have H3 := Lib.hid hb3
      clear hb3 hr3 m0 m1 m2 m3 m4 m5 m6 m7 m8 m9 m10 m11 m12 m13 m14 m15
      unfold bareC
      go_wp2_with fail
      refine HR.out.mono ?_
      rintro e v4 ⟨rfl, hr4, ht4⟩
      clear HR
      have H4 := Lib.hid (Two.rtake (let ⟨mo, q1, q2⟩ := H2.out.1; ⟨mo, q1.on H3.out, q2⟩) (H2.out.2.2.trans (H3.out.mono H2.out.2.2.size)) HG.out.1.db0 HG.out.1.rb0 HG.out.1.ne HG.out.1.only hr4 ht4)
      clear hr4 ht4 H1 H2 H3
      obtain ⟨z, hz⟩ : ∃ z, z = after g a1 a3 client := ⟨_, rfl⟩
      have HB4 := Lib.hid (let ⟨mo, q1, q2⟩ := H4.out.door; boot_any v4 db (k + 1) mo boot client (after g a1 a3) q1 H.out.2.1)
      have HO4 := Lib.hid (of_any v4 rb boot client (after g a1 a3) H4.out.ref H4.out.only)
      rw [← hz] at HB4 HO4
      have HH4 := Lib.hid (let ⟨mo, q1, q2⟩ := H4.out.door; hello_any v4 db (k + 1) mo boot client (after g a1 a3) q1)
      clear hz
      have hxx : (x != x) = false := by simp
      have hyy : (y != y) = false := by simp
      have hzz : (z != z) = false := by simp
      go_wp2_with fail
      refine HB4.out.mono ?_
      rintro e v5 ⟨rfl, rfl⟩
      clear HB4
      go_wp2_with fail
      refine HO4.out.mono ?_
      rintro e v6 ⟨rfl, rfl⟩
      clear HO4
      go_wp2_with fail
      refine HH4.out.mono ?_
      rintro e v7 ⟨rfl, hb7⟩
      have H7 := Lib.hid (H4.out.on hb7)
      clear HH4 hb7
      go_wp2_with fail
      refine (rhello_any v7 rb boot client (after g a1 a3) H7.out.ref).mono ?_
      rintro e v8 ⟨rfl, hb8⟩
      have H8 := Lib.hid (H7.out.on hb8)
      clear H7 hb8
      unfold helloC
      go_wp2_with fail
      refine (head_any _ 1 0 client 0 boot 0 0 0 0 0 0 _ _ _ _ _).mono ?_
      rintro e v9 ⟨rfl, hb9⟩
      have H9 := Lib.hid (H8.out.on hb9)
      clear H8 hb9 H4
      go_wp2_with fail
      exact ⟨⟨k + 1, HG.out.2.1, by go_num, Lib.hid ⟨_, H9.out⟩⟩, by have := HG.out.2.1; simp [intOf]; omega⟩
    · have hki : ¬ (k : Int) < (n : Int) := by omega
      obtain ⟨g, hg⟩ := hh.out
      have HB := Lib.hid hg.below
      clear hg hh hlt
      go_wp2_with fail
      refine (wakes15_any _).mono ?_
      rintro e v1 ⟨rfl, hb1⟩
      have H1 := Lib.hid (HB.out.trans (hb1.mono HB.out.size))
      clear hb1 HB
      go_wp2_with fail
      go_ret
      exact ⟨rfl, H1.out⟩
end Go.Proofs.Ytdlfkglihlnncaa
