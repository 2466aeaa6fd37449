/-
  The disk and the document's disk side by side: what a call of one of them leaves of both. No condition.
-/
import Derived.Test.YtbhdelfiaaodmaaRefCut
namespace Go.Proofs.Ytbhdelfiaaodmaa
open Go.RowKit
open Extern.Stop (cell)

/-- The two say the same. -/
def Sim (a b : St) : Prop := a.l = b.l ∧ a.armed = b.armed ∧ a.down = b.down ∧ (a.armed = true → a.left = b.left)
theorem Sim.writeE {a b : St} (h : Sim a b) (n : Int) (len : Nat) : writeE a n len = writeE b n len := by
  obtain ⟨h1, h2, h3, h4⟩ := h
  unfold Go.Proofs.Ytbhdelfiaaodmaa.writeE
  rw [h3]
  cases ha : a.armed
  · rw [ha] at h2; rw [← h2]; simp
  · rw [h4 ha, ← h2, ha]
theorem Sim.writeS {a b : St} (h : Sim a b) (n : Int) (bs : List UInt8) : Sim (writeS a n bs) (writeS b n bs) := by
  have hh := h
  obtain ⟨h1, h2, h3, h4⟩ := h
  unfold Go.Proofs.Ytbhdelfiaaodmaa.writeS
  rw [h3]
  cases hd : b.down
  · simp only [Bool.false_eq_true, if_false]
    split
    · exact hh
    · cases ha : a.armed
      · rw [ha] at h2
        rw [← h2]
        simp only [Bool.false_eq_true, false_and, if_false]
        exact ⟨by simp [St.add, h1], by simp [St.add], by simp [St.add], by simp [St.add]⟩
      · rw [h4 ha, ← h2, ha]
        simp only [true_and, if_true]
        split
        · exact ⟨h1, rfl, rfl, fun _ => rfl⟩
        · exact ⟨by simp [St.add, h1], rfl, by simp [St.add], fun _ => rfl⟩
  · simp only [if_true]; exact hh
theorem Sim.armE {a b : St} (h : Sim a b) (n : Int) : armE a n = armE b n := by
  unfold Go.Proofs.Ytbhdelfiaaodmaa.armE; rw [h.2.2.1]
theorem Sim.armS {a b : St} (h : Sim a b) (n : Int) : Sim (armS a n) (armS b n) := by
  unfold Go.Proofs.Ytbhdelfiaaodmaa.armS
  rw [h.2.2.1]
  split
  · exact h
  · split
    · exact h
    · exact ⟨h.1, rfl, rfl, fun _ => rfl⟩
theorem Sim.up {a b : St} (h : Sim a b) : Sim ⟨a.l, false, 0, false⟩ (upR b) := ⟨h.1, rfl, rfl, fun e => by cases e⟩
theorem Sim.read {a b : St} (h : Sim a b) (n : Int) : readB a n = readB b n ∧ readE a n = readE b n := read_same h.1 h.2.2.1 n
theorem Sim.ok {a b : St} (h : Sim a b) (ha : a.ok) : b.ok := fun e => by
  have e' : a.armed = true := h.2.1.trans e
  rw [← h.2.2.2 e']; exact ha e'
theorem armS_ok {s : St} (h : s.ok) (n : Int) : (armS s n).ok := by
  unfold armS
  split
  · exact h
  · split
    · exact h
    · rename_i hn
      intro _
      exact ⟨by simp only; omega, by simp only; omega⟩
theorem armS_l (s : St) (n : Int) : (armS s n).l = s.l := by
  unfold armS
  split
  · rfl
  · split <;> rfl

/-- Both disks from block B on, and block q with an act's copy. -/
def PairQ (w0 w : World) (B q db rb : Nat) (X : Array Value) (sd sr : St) : Prop :=
  DiskAt w B db sd ∧ RefAt w B rb sr ∧ Below B w0 w ∧ w.heap[q]? = some (.cells X 33 (0, 0))

section
variable {w0 w w' : World} {B q db rb : Nat} {X : Array Value} {sd sr : St}
theorem PairQ.below (h : PairQ w0 w B q db rb X sd sr) (hb : Below w.heap.size w w') : PairQ w0 w' B q db rb X sd sr :=
  ⟨h.1.below hb, h.2.1.below hb, h.2.2.1.trans (hb.mono (Nat.le_trans h.1.1 (Nat.le_of_lt h.1.lt))), (hb.block q (lt_of_heap h.2.2.2)).trans h.2.2.2⟩
theorem PairQ.byDisk {db' : Nat} {sd' : St} (h : PairQ w0 w B q db rb X sd sr) (hd : DiskAt w' B db' sd') (hb : Below B w w') (hs : Stays w w') : PairQ w0 w' B q db' rb X sd' sr :=
  ⟨hd, h.2.1.stays hs, h.2.2.1.trans hb, hs _ _ h.2.2.2 rfl⟩
theorem PairQ.byRef {rb' : Nat} {sr' : St} (h : PairQ w0 w B q db rb X sd sr) (hd : RefAt w' B rb' sr') (hb : Below B w w') (hs : StaysR w w') : PairQ w0 w' B q db rb' X sd sr' :=
  ⟨h.1.staysR hs, hd, h.2.2.1.trans hb, hs _ _ h.2.2.2 rfl⟩
theorem PairQ.cell (h : PairQ w0 w B q db rb X sd sr) (j : Nat) : w.cell? ⟨q, j, none⟩ = X[j]? := cell_of_row w q j _ _ _ h.2.2.2

theorem pq_write (h : PairQ w0 w B q db rb X sd sr) (n : Int) (v : Value) (bs : List UInt8) (E : Int) (hE : writeE sd n bs.length = E) (hb : BytesLow w0 B v bs) (hm : sd.l.length ≤ 100000) (hok : sd.ok) :
    Calls Try.prog 10 #[.pointer (some ⟨db, 0, none⟩), .int .i64 n, v] w fun e w' => e = .returned (.int .i64 E) ∧ PairQ w0 w' B q db rb X (writeS sd n bs) sr :=
  (write_any w B db sd n v bs (hb.kept h.2.2.1).bytes h.1 hm hok).mono fun e w' ⟨he, h1, h2, h3⟩ => ⟨by rw [he, hE], h.byDisk h1 h2 h3⟩
theorem pq_rwrite (h : PairQ w0 w B q db rb X sd sr) (n : Int) (v : Value) (bs : List UInt8) (E : Int) (hE : writeE sr n bs.length = E) (hb : BytesLow w0 B v bs) (hm : sr.l.length ≤ 100000) (hok : sr.ok) :
    Calls Try.prog 11 #[.pointer (some ⟨rb, 0, none⟩), .int .i64 n, v] w fun e w' => e = .returned (.int .i64 E) ∧ PairQ w0 w' B q db rb X sd (writeS sr n bs) :=
  (ref_write w B rb sr n v bs (hb.kept h.2.2.1) h.2.1 hm hok).mono fun e w' ⟨he, h1, h2, h3⟩ => ⟨by rw [he, hE], h.byRef h1 h2 h3⟩
theorem pq_arm (h : PairQ w0 w B q db rb X sd sr) (n E : Int) (hE : armE sd n = E) :
    Calls Try.prog 16 #[.pointer (some ⟨db, 0, none⟩), .int .i64 n] w fun e w' => e = .returned (.int .i64 E) ∧ PairQ w0 w' B q db rb X (armS sd n) sr :=
  (arm_any w B db sd n h.1).mono fun e w' ⟨he, h1, h2, h3⟩ => ⟨by rw [he, hE], h.byDisk h1 h2 h3⟩
theorem pq_rarm (h : PairQ w0 w B q db rb X sd sr) (n E : Int) (hE : armE sr n = E) :
    Calls Try.prog 17 #[.pointer (some ⟨rb, 0, none⟩), .int .i64 n] w fun e w' => e = .returned (.int .i64 E) ∧ PairQ w0 w' B q db rb X sd (armS sr n) :=
  (ref_arm w B rb sr n h.2.1).mono fun e w' ⟨he, h1, h2, h3⟩ => ⟨by rw [he, hE], h.byRef h1 h2 h3⟩
theorem pq_up (h : PairQ w0 w B q db rb X sd sr) :
    Calls Try.prog 18 #[.pointer (some ⟨db, 0, none⟩)] w fun e w' => e = .returned (.int .i64 0) ∧ PairQ w0 w' B q db rb X ⟨sd.l, false, 0, false⟩ sr :=
  (up_any w B db sd h.1).mono fun _ _ ⟨he, h1, h2, h3⟩ => ⟨he, h.byDisk h1 h2 h3⟩
theorem pq_rup (h : PairQ w0 w B q db rb X sd sr) :
    Calls Try.prog 19 #[.pointer (some ⟨rb, 0, none⟩)] w fun e w' => e = .returned (.int .i64 0) ∧ PairQ w0 w' B q db rb X sd (upR sr) :=
  (ref_up w B rb sr h.2.1).mono fun _ _ ⟨he, h1, h2, h3⟩ => ⟨he, h.byRef h1 h2 h3⟩

def CutsTo (P : Nat → World → Prop) (e : Ending) (w' : World) : Prop := ∃ b, e = .returned (.pointer (some ⟨b, 0, none⟩)) ∧ P b w'
theorem pq_cut (h : PairQ w0 w B q db rb X sd sr) (n : Int) (hm : sd.l.length ≤ 100000) :
    Calls Try.prog 14 #[.pointer (some ⟨db, 0, none⟩), .int .i64 n] w (CutsTo fun b w' => PairQ w0 w' B q b rb X ⟨sd.l.take (brought n sd.l.length), false, 0, false⟩ sr) :=
  (cut_any w B db sd n h.1 hm).mono fun _ _ ⟨b, he, h1, h2⟩ => ⟨b, he, by
    have hB : B ≤ w.heap.size := Nat.le_trans h.1.1 (Nat.le_of_lt h.1.lt)
    exact h.byDisk (h1.mono hB) (h2.mono hB) (Stays.below h2)⟩
theorem pq_rcut (h : PairQ w0 w B q db rb X sd sr) (n : Int) (hm : sr.l.length ≤ 100000) :
    Calls Try.prog 15 #[.pointer (some ⟨rb, 0, none⟩), .int .i64 n] w (CutsTo fun b w' => PairQ w0 w' B q db b X sd ⟨sr.l.take (brought n sr.l.length), false, 0, false⟩) :=
  (ref_cut w B rb sr n h.2.1 hm).mono fun _ _ ⟨b, he, h1, h2⟩ => ⟨b, he, by
    have hB : B ≤ w.heap.size := Nat.le_trans h.1.1 (Nat.le_of_lt h.1.lt)
    exact h.byRef (h1.mono hB) (h2.mono hB) (StaysR.below h2)⟩
end

/-- A row of acts that came in, all below block B. -/
def ActsLow (w : World) (B : Nat) (a : Option Addr) (l : List Act) : Prop := ActsAt w B a l ∧ ∀ x ∈ l, BytesLow w B x.v x.bs
theorem low_of_at {w : World} {v : Value} {bs : List UInt8} (h : BytesAt w w.heap.size v bs) : BytesLow w w.heap.size v bs := by
  obtain ⟨a, cap, e, hc⟩ := h
  refine ⟨a, cap, e, fun h0 => ?_⟩
  obtain ⟨ad, ea, hd, hu⟩ := hc h0
  refine ⟨ad, ea, ?_, hu⟩
  rcases hd with hd | ⟨o, ho, _⟩
  · exact hd
  · exact lt_of_heap ho
theorem open_acts_low {H : Type} {enc : TypeId × Value → H} {w : World} {base : Nat} {spare : Nat → Bool} {held : Bool} {a : Option Addr} {len cap : Nat} {d : DataW H} {ps : List MemPlace} (h : DataW.Trod enc Try.prog w base spare held 22 (.slice a len cap) d ps) :
    ∃ l : List Act, l.length = len ∧ ActsLow w w.heap.size a l := by
  obtain ⟨l, h1, h2⟩ := open_acts h
  exact ⟨l, h1, h2, fun x hx => low_of_at (h2.2 x hx)⟩

theorem ActsLow.cells {w wr : World} {B : Nat} {a : Option Addr} {l : List Act} (h : ActsLow w B a l) (hb : Below B w wr) (k : Nat) (x : Act) (hx : l[k]? = some x) :
    ∃ b off, a = some ⟨b, off, none⟩ ∧ wr.cell? ⟨b, off + k * 3, none⟩ = some (.int .i64 x.kind) ∧ wr.cell? ⟨b, off + k * 3 + 1, none⟩ = some (.int .i64 x.n) ∧ wr.cell? ⟨b, off + k * 3 + 2, none⟩ = some x.v := by
  have hl : 0 < l.length := by have := (List.getElem?_eq_some_iff.1 hx).1; omega
  obtain ⟨b, off, ea, hbB, hc⟩ := h.1.1 hl
  obtain ⟨h1, h2, h3⟩ := hc k x hx
  exact ⟨b, off, ea, (World.cell?_of_block (w := w) (hb.block b hbB)).trans h1, (World.cell?_of_block (w := w) (hb.block b hbB)).trans h2, (World.cell?_of_block (w := w) (hb.block b hbB)).trans h3⟩

end Go.Proofs.Ytbhdelfiaaodmaa
