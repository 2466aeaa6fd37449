/-
  What lies in memory while CodeBack runs, and what each call of it does there. No condition.
-/
import Derived.Test.YtljlijdgocfofaaCBackR
namespace Go.Proofs.Ytljlijdgocfofaa
open Go.RowKit
open Extern.Stop (cell)

def YesB (w : World) (e : Ending) (w' : World) : Prop := e = .returned (.bool true) ∧ Below w.heap.size w w'
theorem YesB.of {w w1 : World} {e : Ending} {w' : World} (h : Below w.heap.size w w1) (hy : e = .returned (.bool true) ∧ Below w1.heap.size w1 w') : YesB w e w' := ⟨hy.1, h.trans (hy.2.mono h.size)⟩
theorem drew_below (W : World) : Below W.heap.size W W.drew := ⟨rfl, rfl, rfl, Nat.le_refl _, fun _ _ => rfl⟩
theorem fit_of {t : Tr} (h : Fit64 t) : foLen t.kids ≤ 9223372036854775807 ∧ foFit t.kids := h.1
theorem fitS_of {x : Stp} (h : FitS64 x) : x.fits := h.1

/-- All that came in, as it lies from W on. -/
structure BackB (w W : World) (S : Nat → Prop) (n : Int) (s : ByteArray) (t : Tr) (ka : Option Addr) (len kcap : Nat) (sa : Option Addr) (ll : Nat) (l : List Stp) (ba : Option Addr) (bl : Nat) (bs : List UInt8) : Prop where
  bel : Below w.heap.size w W
  box : W.heap[w.heap.size]? = some (.cells #[.int .i64 t.id, .int .i64 t.kind, .string t.text, .slice ka len kcap] 25 (0, 0))
  tr : ∀ X, Below W.heap.size W X → TrAt X S (.agg #[.int .i64 t.id, .int .i64 t.kind, .string t.text, .slice ka len kcap]) t
  st : ∀ X, Below W.heap.size W X → StepsAt X S sa l
  low : ∀ X, Below W.heap.size W X → ∀ k, S k → k < X.heap.size
  byt : ∀ X, Below W.heap.size W X → ByAt X ba bs
  hn : inI64 n
  hs : s.size ≤ 1000
  ht : t.small
  hti : t.in64
  htf : Fits t
  hl : ll = l.length
  hl70 : l.length ≤ 70
  hls : ∀ x ∈ l, x.small
  hli : ∀ x ∈ l, x.in64
  hlf : ∀ x ∈ l, Fits x.sub
  hb : bl = bs.length
  hb2 : bs.length ≤ 20000
  lowW : ∀ k, S k → k < W.heap.size
theorem base_of {w W : World} {S : Nat → Prop} {n : Int} {s : ByteArray} {t : Tr} {ka : Option Addr} {len kcap : Nat} {sa : Option Addr} {ll : Nat} {l : List Stp} {ba : Option Addr} {bl : Nat} {bs : List UInt8}
    (h1 : Below w.heap.size w W) (h2 : W.heap[w.heap.size]? = some (.cells #[.int .i64 t.id, .int .i64 t.kind, .string t.text, .slice ka len kcap] 25 (0, 0)))
    (h3 : ∀ X, Below w.heap.size w X → TrAt X S (.agg #[.int .i64 t.id, .int .i64 t.kind, .string t.text, .slice ka len kcap]) t) (h4 : ∀ X, Below w.heap.size w X → StepsAt X S sa l)
    (h5 : ∀ X, Below w.heap.size w X → ∀ k, S k → k < X.heap.size) (h6 : ∀ X, Below w.heap.size w X → ByAt X ba bs) (h7 : inI64 n) (h8 : Fit64 t) (h9 : ∀ x ∈ l, FitS64 x) (h10 : ll = l.length) (_h11 : ll ≤ 9223372036854775807)
    (h12 : bl = bs.length) (h13 : ¬ 1000 < s.size) (h14 : t.small) (h15 : l.length ≤ 70) (h16 : ∀ x ∈ l, x.small) (h17 : ¬ 20000 < bl) : BackB w W S n s t ka len kcap sa ll l ba bl bs :=
  ⟨h1, h2, fun X hX => h3 X (h1.trans (hX.mono h1.size)), fun X hX => h4 X (h1.trans (hX.mono h1.size)), fun X hX => h5 X (h1.trans (hX.mono h1.size)), fun X hX => h6 X (h1.trans (hX.mono h1.size)), h7, by omega, h14, h14.in64 h8, h8.1, h10, h15, h16, fun x hx => (h16 x hx).in64 (h9 x hx), fun x hx => (h9 x hx).1, h12, by omega, h5 W h1⟩
section
variable {w W : World} {S : Nat → Prop} {n : Int} {s : ByteArray} {t : Tr} {ka : Option Addr} {len kcap : Nat} {sa : Option Addr} {ll : Nat} {l : List Stp} {ba : Option Addr} {bl : Nat} {bs : List UInt8}
theorem BackB.bx (B : BackB w W S n s t ka len kcap sa ll l ba bl bs) : ∀ X, Below W.heap.size W X → BoxN w t.id t.kind t.text ka len kcap X := fun _ hX => boxN_of ((hX.block _ (lt_of_heap B.box)).trans B.box)
/-- Bytes that were made since W. -/
def Has (W : World) (bs : List UInt8) (a : Option Addr) (m : Nat) (X : World) : Prop := m = bs.length ∧ ByAt X a bs ∧ Below W.heap.size W X
def HasC (W : World) (bs : List UInt8) (e : Ending) (w' : World) : Prop := ∃ a m cap, e = .returned (.slice a m cap) ∧ Has W bs a m w'
theorem NewB.has {X w' : World} {bs : List UInt8} {e : Ending} (hX : Below W.heap.size W X) (h : NewB X bs e w') : HasC W bs e w' := by
  obtain ⟨a, m, cap, h1, h2, h3, h4⟩ := h
  exact ⟨a, m, cap, h1, h2, h3, hX.trans (h4.mono hX.size)⟩
def b1 (n : Int) : List UInt8 := [] ++ num8 n
def b2 (n : Int) (s : ByteArray) : List UInt8 := b1 n ++ (num8 (s.size : Int) ++ s.data.toList)
def b3 (n : Int) (s : ByteArray) (t : Tr) : List UInt8 := b2 n s ++ encT t
def b4 (n : Int) (s : ByteArray) (t : Tr) (l : List Stp) : List UInt8 := b3 n s t ++ num8 (l.length : Int) ++ encL l
theorem b4_enc (n : Int) (s : ByteArray) (t : Tr) (l : List Stp) : b4 n s t l = enc4 n s t l := by simp [b4, b3, b2, b1, enc4]
theorem b3_few (B : BackB w W S n s t ka len kcap sa ll l ba bl bs) : (b3 n s t).length ≤ 100000 ∧ (b4 n s t l).length ≤ 100000000 := by
  refine ⟨?_, by rw [b4_enc]; exact enc4_few B.hs B.ht B.hl70 B.hls⟩
  have h2 := small_enc B.ht
  have hts : s.data.toList.length = s.size := toList_size s
  have := B.hs
  simp only [b3, b2, b1, List.length_append, num8_length, hts, List.length_nil]
  omega
theorem p_num (n : Int) (X : World) (hX : Below W.heap.size W X) : Calls Try.prog 9 #[.slice none 0 0, .int .i64 n] X (HasC W (b1 n)) :=
  (pnum X none 0 0 [] n rfl ⟨fun _ => rfl, fun ad e j u hj => by simp at hj⟩ (by decide)).mono fun _ _ h => h.has hX
theorem p_text (B : BackB w W S n s t ka len kcap sa ll l ba bl bs) {X : World} {a : Option Addr} {m cap : Nat} (h : Has W (b1 n) a m X) : Calls Try.prog 11 #[.slice a m cap, .string s] X (HasC W (b2 n s)) :=
  (ptext X a m cap (b1 n) s h.1 h.2.1 (by simp [b1, num8_length]) (by have := B.hs; omega)).mono fun _ _ k => k.has h.2.2
theorem p_node (B : BackB w W S n s t ka len kcap sa ll l ba bl bs) {X : World} {a : Option Addr} {m cap : Nat} (h : Has W (b2 n s) a m X) : Calls Try.prog 13 #[.slice a m cap, .agg #[.int .i64 t.id, .int .i64 t.kind, .string t.text, .slice ka len kcap]] X (HasC W (b3 n s t)) :=
  (pnode X S _ t a m cap (b2 n s) (B.low X h.2.2) (B.tr X h.2.2) h.1 h.2.1 (by have := (b3_few B).1; simp only [b3, List.length_append] at this; omega)).mono fun _ _ k => k.has h.2.2
theorem p_steps (B : BackB w W S n s t ka len kcap sa ll l ba bl bs) {X : World} {a : Option Addr} {m cap scap : Nat} (h : Has W (b3 n s t) a m X) : Calls Try.prog 15 #[.slice a m cap, .slice sa ll scap] X (HasC W (b4 n s t l)) := by
  have hb := (b3_few B).2
  have h0 := psteps X S l a sa m cap ll scap (b3 n s t) (B.low X h.2.2) (B.st X h.2.2) B.hl h.1 h.2.1 (by simp only [b4, List.length_append, num8_length] at hb; omega) (by have := B.hl; have := B.hl70; omega)
  rw [B.hl] at h0
  rw [B.hl]
  exact h0.mono fun _ _ k => k.has h.2.2
def NewR (W : World) (d : List UInt8) (e : Ending) (w' : World) : Prop := ∃ b dv, e = .returned (.pointer (some ⟨b, 0, none⟩)) ∧ RS W w' b dv ⟨d, 0, false⟩
theorem p_new (B : BackB w W S n s t ka len kcap sa ll l ba bl bs) {X : World} {a : Option Addr} {m cap : Nat} (h : Has W (b4 n s t l) a m X) : Calls Try.prog 17 #[.slice a m cap] X (NewR W (enc4 n s t l)) := by
  obtain ⟨rfl, h2, h3⟩ := h
  refine (newRd_any X a cap (b4 n s t l) h2 (b3_few B).2).mono fun _ _ k => ?_
  obtain ⟨b, dv, e1, e2⟩ := k.rs h3
  rw [b4_enc] at e2
  exact ⟨b, dv, e1, e2⟩

/-- A tree that was read, or nothing. -/
def TreeC (W wr : World) (b : Nat) (dv : Value) (n : Int) (s : ByteArray) (t : Tr) (l : List Stp) (e : Ending) (w' : World) : Prop := ∃ yi yk yt ya yn yc s', e = .returned (.agg #[.int .i64 yi, .int .i64 yk, .string yt, .slice ya yn yc]) ∧ RS W w' b dv s' ∧
  ((t.good ∧ s' = ⟨enc4 n s t l, 8 + 8 + s.size + (encT t).length, false⟩ ∧ TrAt w' (Fresh wr w') (.agg #[.int .i64 yi, .int .i64 yk, .string yt, .slice ya yn yc]) t) ∨ (¬ t.good ∧ s'.bad = true))
theorem p_tree (B : BackB w W S n s t ka len kcap sa ll l ba bl bs) {wr : World} {b : Nat} {dv : Value} (h : RS W wr b dv ⟨enc4 n s t l, 8 + 8 + s.size, false⟩) : Calls Try.prog 25 #[.pointer (some ⟨b, 0, none⟩)] wr (TreeC W wr b dv n s t l) := by
  refine (rs_tree h B.hn (by have := B.hs; omega) B.hti).mono ?_
  rintro e w' ⟨v, rfl, _, hv⟩
  rcases hv with ⟨hg, ht, hr⟩ | ⟨hg, hz, p, hr⟩
  · obtain ⟨ka', kcap', rfl, h3, h4⟩ := ht
    exact ⟨_, _, _, _, _, _, _, rfl, hr, Or.inl ⟨hg, rfl, ka', kcap', rfl, h3, h4⟩⟩
  · subst hz
    exact ⟨_, _, _, _, _, _, _, rfl, hr, Or.inr ⟨hg, rfl⟩⟩
def StepsC (W wr : World) (b : Nat) (dv : Value) (n : Int) (s : ByteArray) (t : Tr) (l : List Stp) (e : Ending) (w' : World) : Prop := ∃ a m cap s', e = .returned (.slice a m cap) ∧ RS W w' b dv s' ∧ Touched wr w' (fun k => k = b) ∧
  ((good4 t l ∧ m = l.length ∧ s' = ⟨enc4 n s t l, (enc4 n s t l).length, false⟩ ∧ StepsAt w' (Fresh wr w') a l) ∨ (¬ good4 t l ∧ s'.bad = true))
theorem p_read (B : BackB w W S n s t ka len kcap sa ll l ba bl bs) {wr : World} {b : Nat} {dv : Value} {s' : Rd} (h : RS W wr b dv s') (hs : (t.good ∧ s' = ⟨enc4 n s t l, 8 + 8 + s.size + (encT t).length, false⟩) ∨ (¬ t.good ∧ s'.bad = true)) :
    Calls Try.prog 28 #[.pointer (some ⟨b, 0, none⟩)] wr (StepsC W wr b dv n s t l) := by
  rcases hs with ⟨hg, rfl⟩ | ⟨hg, hb⟩
  · refine (rs_steps h B.hn (by have := B.hs; omega) B.hli (by have := B.hl70; omega)).mono ?_
    rintro e w' ⟨a, m, cap, rfl, ht, hv⟩
    rcases hv with ⟨hgl, hm, hst, hr⟩ | ⟨hgl, p, hr⟩
    · exact ⟨a, m, cap, _, rfl, hr, ht, Or.inl ⟨⟨hg, hgl⟩, hm, rfl, hst⟩⟩
    · exact ⟨a, m, cap, _, rfl, hr, ht, Or.inr ⟨fun k => hgl k.2, rfl⟩⟩
  · obtain ⟨d, p, bd⟩ := s'
    have : bd = true := hb
    subst this
    refine (rs_steps_bad h).mono ?_
    rintro e w' ⟨rfl, h1, h2⟩
    exact ⟨_, _, _, _, rfl, h1, h2, Or.inr ⟨fun k => hg k.1, rfl⟩⟩
def EndC (W wr : World) (t : Tr) (l : List Stp) (e : Ending) (w' : World) : Prop := ∃ at_ er : Int, e = .returned (.tuple #[.int .i64 at_, .int .i64 er]) ∧ Below W.heap.size W w' ∧ Touched wr w' (fun _ => False) ∧ ((good4 t l ∧ er = 0) ∨ (¬ good4 t l ∧ er = 30))
theorem p_end {wr : World} {b : Nat} {dv : Value} {s' : Rd} (h : RS W wr b dv s') (hs : (good4 t l ∧ s' = ⟨enc4 n s t l, (enc4 n s t l).length, false⟩) ∨ (¬ good4 t l ∧ s'.bad = true)) :
    Calls Try.prog 33 #[.pointer (some ⟨b, 0, none⟩)] wr (EndC W wr t l) := by
  refine (rs_end h).mono ?_
  rintro e w' ⟨rfl, h1, h2⟩
  rcases hs with ⟨hg, rfl⟩ | ⟨hg, hb⟩
  · exact ⟨0, 0, by simp [Rd.endV], h1.bel, h2, Or.inl ⟨hg, rfl⟩⟩
  · exact ⟨s'.pos, 30, by simp [Rd.endV, hb], h1.bel, h2, Or.inr ⟨hg, rfl⟩⟩
theorem box_cells {X : World} {g : Nat} {yi yk : Int} {yt : ByteArray} {ya : Option Addr} {yn yc : Nat} (h : X.heap[g]? = some (.cells #[.int .i64 yi, .int .i64 yk, .string yt, .slice ya yn yc] 25 (0, 0))) :
    X.cell? ⟨g, 0, none⟩ = some (.int .i64 yi) ∧ X.cell? ⟨g, 1, none⟩ = some (.int .i64 yk) ∧ X.cell? ⟨g, 2, none⟩ = some (.string yt) ∧ X.cell? ⟨g, 3, none⟩ = some (.slice ya yn yc) :=
  ⟨by rw [cell_of_row _ _ 0 _ _ _ h]; rfl, by rw [cell_of_row _ _ 1 _ _ _ h]; rfl, by rw [cell_of_row _ _ 2 _ _ _ h]; rfl, by rw [cell_of_row _ _ 3 _ _ _ h]; rfl⟩
theorem same_steps2 (w : World) (S1 S2 : Nat → Prop) (a1 a2 : Option Addr) (m1 m2 n1 n2 : Nat) (l : List Stp) (h1m : m1 = l.length) (h2m : m2 = l.length) (hl : l.length ≤ 9223372036854775807) (hm : ∀ s ∈ l, Fits s.sub) (hS1 : ∀ k, S1 k → k < w.heap.size) (hS2 : ∀ k, S2 k → k < w.heap.size) (h1 : StepsAt w S1 a1 l) (h2 : StepsAt w S2 a2 l) :
    Calls Try.prog 30 #[.slice a1 m1 n1, .slice a2 m2 n2] w (YesC w) := by
  subst h1m
  rw [h2m]
  exact same_steps w S1 S2 a1 a2 n1 n2 l hl hm hS1 hS2 h1 h2
/-- All was read as it was put. -/
def ReadOk (g : Nat) (yi yk : Int) (yt : ByteArray) (ya : Option Addr) (yn yc : Nat) (ra : Option Addr) (rm : Nat) (t : Tr) (l : List Stp) (X : World) : Prop :=
  X.heap[g]? = some (.cells #[.int .i64 yi, .int .i64 yk, .string yt, .slice ya yn yc] 25 (0, 0)) ∧ (∃ T : Nat → Prop, (∀ k, T k → k < X.heap.size) ∧ TrAt X T (.agg #[.int .i64 yi, .int .i64 yk, .string yt, .slice ya yn yc]) t) ∧
  rm = l.length ∧ ∃ T : Nat → Prop, (∀ k, T k → k < X.heap.size) ∧ StepsAt X T ra l
theorem back_sum {w11 w12 w13 w14 : World} {b : Nat} {dv : Value} {s11 s' s'' : Rd} {yi yk : Int} {yt : ByteArray} {ya : Option Addr} {yn yc : Nat} {ra : Option Addr} {rm : Nat} {er : Int}
    (h11 : RS W w11 b dv s11) (h12 : RS W w12 b dv s') (v12 : (t.good ∧ s' = ⟨enc4 n s t l, 8 + 8 + s.size + (encT t).length, false⟩ ∧ TrAt w12 (Fresh w11 w12) (.agg #[.int .i64 yi, .int .i64 yk, .string yt, .slice ya yn yc]) t) ∨ (¬ t.good ∧ s'.bad = true))
    (t13 : Touched (w12.alloc (.cells #[.int .i64 yi, .int .i64 yk, .string yt, .slice ya yn yc] 25)) w13 (fun k => k = b))
    (v13 : (good4 t l ∧ rm = l.length ∧ s'' = ⟨enc4 n s t l, (enc4 n s t l).length, false⟩ ∧ StepsAt w13 (Fresh (w12.alloc (.cells #[.int .i64 yi, .int .i64 yk, .string yt, .slice ya yn yc] 25)) w13) ra l) ∨ (¬ good4 t l ∧ s''.bad = true))
    (b14 : Below W.heap.size W w14) (t14 : Touched w13 w14 (fun _ => False)) (v14 : (good4 t l ∧ er = 0) ∨ (¬ good4 t l ∧ er = 30)) :
    Below W.heap.size W w14 ∧ ((er = 0 ∧ ReadOk w12.heap.size yi yk yt ya yn yc ra rm t l w14) ∨ (¬ good4 t l ∧ er = 30)) := by
  refine ⟨b14, ?_⟩
  rcases v14 with ⟨hg, he⟩ | h
  · refine Or.inl ⟨he, ?_⟩
    have hb1 := lt_of_heap h11.rd.here
    have hb2 := lt_of_heap h12.rd.here
    have s13 := t13.size
    rw [World.size_alloc] at s13
    have s14 := t14.size
    rcases v12 with ⟨_, _, htr⟩ | ⟨hn, _⟩
    · rcases v13 with ⟨_, hm, _, hst⟩ | ⟨hn, _⟩
      · refine ⟨?_, ⟨Fresh w11 w12, fun k hk => by have := hk.2; omega, ?_⟩, hm, ⟨_, fun k hk => by have := hk.2; omega, hst.kept fun k hk => ⟨hk, t14.block k hk.2 id⟩⟩⟩
        · rw [t14.block _ (by omega) id, t13.block _ (by rw [World.size_alloc]; omega) (by omega)]
          exact heap_alloc_new w12 _
        · refine htr.kept fun k hk => ⟨hk, ?_⟩
          have h1 := hk.1
          have h2 := hk.2
          rw [t14.block _ (by omega) id, t13.block _ (by rw [World.size_alloc]; omega) (by omega), Below.heap_alloc _ _ _ h2]
      · exact absurd hg hn
    · exact absurd hg.1 hn
  · exact Or.inr h
theorem drop_tree {A B C D : Prop} (h : (A ∧ B ∧ C) ∨ (D : Prop)) : (A ∧ B) ∨ D := h.imp (fun k => ⟨k.1, k.2.1⟩) id
theorem drop_steps {A B C E D : Prop} (h : (A ∧ E ∧ B ∧ C) ∨ (D : Prop)) : (A ∧ B) ∨ D := h.imp (fun k => ⟨k.1, k.2.2.1⟩) id
end
end Go.Proofs.Ytljlijdgocfofaa
