/-
  What a disk comes to behind a row of acts of which each is written; bytes read as a text; cuts of cuts: plain facts. No condition.
-/
import Derived.Test.YtbhdelfiaaodmaaGreat
namespace Go.Proofs.Ytbhdelfiaaodmaa
open Go.RowKit
open Extern.Stop (cell)

def runW (l : List Act) : St := l.foldl (fun s x => writeS s x.n x.bs) St.fresh
theorem runW_snoc (l : List Act) (x : Act) : runW (l ++ [x]) = writeS (runW l) x.n x.bs := by simp [runW]
theorem runW_take {l : List Act} {k : Nat} {x : Act} (h : l[k]? = some x) : runW (l.take (k + 1)) = writeS (runW (l.take k)) x.n x.bs := by
  rw [List.take_add_one, h]; exact runW_snoc _ _
theorem writeS_plain {s : St} (h : s.armed = false ∧ s.down = false) (n : Int) (bs : List UInt8) : (writeS s n bs).armed = false ∧ (writeS s n bs).down = false := by
  unfold writeS
  simp only [h.1, h.2, Bool.false_eq_true, if_false, false_and]
  split
  · exact h
  · simp [St.add]
theorem runW_plain (l : List Act) : (runW l).armed = false ∧ (runW l).down = false := by
  unfold runW
  have : ∀ (l : List Act) (s : St), s.armed = false ∧ s.down = false → (l.foldl (fun s x => writeS s x.n x.bs) s).armed = false ∧ (l.foldl (fun s x => writeS s x.n x.bs) s).down = false := by
    intro l
    induction l with
    | nil => intro s h; exact h
    | cons x l ih => intro s h; rw [List.foldl_cons]; exact ih _ (writeS_plain h x.n x.bs)
  exact this l St.fresh ⟨rfl, rfl⟩
theorem runW_ok (l : List Act) : (runW l).ok := fun h => by rw [(runW_plain l).1] at h; cases h
theorem runW_length (l : List Act) : (runW l).l.length ≤ l.length := by
  unfold runW
  have : ∀ (l : List Act) (s : St), (l.foldl (fun s x => writeS s x.n x.bs) s).l.length ≤ s.l.length + l.length := by
    intro l
    induction l with
    | nil => intro s; simp
    | cons x l ih =>
      intro s
      rw [List.foldl_cons]
      have := ih (writeS s x.n x.bs)
      have := writeS_length s x.n x.bs
      simp only [List.length_cons]; omega
  simpa [St.fresh] using this l St.fresh

/-! ### bytes as a text -/
def textOf (bs : List UInt8) : ByteArray := ⟨bs.toArray⟩
theorem conv_text (w : World) (B : Nat) (a : Option Addr) (len cap : Nat) (bs : List UInt8) (h : BytesAt w B (.slice a len cap) bs) : (convert 31 9 (.slice a len cap)).run Try.prog w = .ok (.string (textOf bs)) w := by
  obtain ⟨a', cap', e, hc⟩ := h
  simp only [Value.slice.injEq] at e
  obtain ⟨rfl, rfl, rfl⟩ := e
  rw [run_convert_bytes_string w 31 9 5 _ _ _ Try.underlying31 Try.underlying5 Try.underlying9]
  have key : ∀ (ad : Addr), (∀ (j : Nat) (u : Value), (bs.map cell)[j]? = some u → w.cell? (ad.add j) = some u) → (Conv.bytesToString (.slice (some ad) bs.length cap)).run Try.prog w = .ok (.string (textOf bs)) w := fun ad hu => by
    have hl := run_loadCells_list (P := Try.prog) w ad (bs.map cell) hu
    have e1 : bs.map cell = (bs.map fun b => (b.toNat : Int)).map (Value.int .u8) := by simp [cell]
    rw [List.length_map, e1] at hl
    rw [run_bytesToString w ad bs.length cap _ hl, foldl_push_bytes]
    simp only [textOf, List.map_map, Function.comp_def, Int.toNat_natCast, UInt8.ofNat_toNat, List.map_id']
    simp [ByteArray.empty, ByteArray.emptyWithCapacity]
    rfl
  cases a with
  | none =>
    have h0 : bs = [] := by
      rcases Nat.eq_zero_or_pos bs.length with h | h
      · exact List.eq_nil_of_length_eq_zero h
      · obtain ⟨ad, e, _⟩ := hc h; cases e
    subst h0
    simp [Conv.bytesToString, textOf, ByteArray.empty, ByteArray.emptyWithCapacity]
    rfl
  | some ad =>
    refine key ad fun j u hj => ?_
    have hp : 0 < bs.length := by
      rcases Nat.eq_zero_or_pos bs.length with h | h
      · have : bs = [] := List.eq_nil_of_length_eq_zero h
        subst this; simp at hj
      · exact h
    obtain ⟨ad', e, _, hu⟩ := hc hp
    cases e
    exact hu j u hj

theorem BytesAt.later {w w' : World} {B : Nat} {v : Value} {bs : List UInt8} (h : BytesAt w B v bs) (hB : B ≤ w.heap.size) (hb : Below w.heap.size w w') : BytesAt w' B v bs := h.kept (hb.mono hB) (Stays.below hb)

/-! ### what is read -/
def ReadEnd (w : World) (B : Nat) (bs : List UInt8) (E : Int) (e : Ending) (w' : World) : Prop :=
  ∃ a cap, e = .returned (.tuple #[.slice a bs.length cap, .int .i64 E]) ∧ BytesAt w' B (.slice a bs.length cap) bs ∧ Below w.heap.size w w'
theorem k_readE (w : World) (B db : Nat) (s : St) (n : Int) (bs : List UInt8) (E : Int) (hd : DiskAt w B db s) (h1 : readB s n = bs) (h2 : readE s n = E) : Calls Try.prog 12 #[.pointer (some ⟨db, 0, none⟩), .int .i64 n] w (ReadEnd w B bs E) :=
  (read_any w B db s n hd).mono fun e w' ⟨v, he, hb, hbel, _⟩ => by
    rw [h2] at he
    rw [h1] at hb
    have hb' := hb
    obtain ⟨a, cap, rfl, _⟩ := hb
    exact ⟨a, cap, he, hb', hbel⟩
theorem read_same {s t : St} (h1 : s.l = t.l) (h2 : s.down = t.down) (n : Int) : readB s n = readB t n ∧ readE s n = readE t n := by
  unfold readB readE; rw [h1, h2]; exact ⟨rfl, rfl⟩

/-! ### cuts -/
theorem brought_all (L : Nat) : brought (L : Int) L = L := by unfold brought; omega
theorem cut_cut (l : List Wr) (n m M1 M2 M3 : Int) (h1 : M1 = if n < 0 then 0 else n) (h2 : M2 = if m < 0 then 0 else m) (h3 : M3 = if M2 < M1 then M2 else M1) :
    (l.take (brought n l.length)).take (brought m (l.take (brought n l.length)).length) = l.take (brought M3 l.length) := by
  have e1 : M1 = max n 0 := by rw [h1]; split <;> omega
  have e2 : M2 = max m 0 := by rw [h2]; split <;> omega
  have e3 : M3 = min M1 M2 := by rw [h3]; split <;> omega
  rw [List.take_take, List.length_take]
  congr 1
  unfold brought
  rw [e3, e1, e2]
  omega

/-! ### what is at hand in the midst of a law -/
/-- From block B on lie these disks and these bytes; below it nothing has turned. -/
def All (w0 w : World) (B : Nat) (ds : List (Nat × St)) (bs : List (Value × List UInt8)) : Prop :=
  Below B w0 w ∧ B ≤ w.heap.size ∧ (∀ p ∈ ds, DiskAt w B p.1 p.2) ∧ ∀ p ∈ bs, BytesAt w B p.1 p.2
theorem All.step {w0 w w' : World} {B : Nat} {ds : List (Nat × St)} {bs : List (Value × List UInt8)} (h : All w0 w B ds bs) (hb : Below w.heap.size w w') : All w0 w' B ds bs :=
  ⟨h.1.trans (hb.mono h.2.1), Nat.le_trans h.2.1 hb.size, fun p hp => (h.2.2.1 p hp).below hb, fun p hp => (h.2.2.2 p hp).later h.2.1 hb⟩
theorem All.addDisk {w0 w : World} {B db : Nat} {s : St} {ds : List (Nat × St)} {bs : List (Value × List UInt8)} (h : All w0 w B ds bs) {B' : Nat} (hB : B ≤ B') (hd : DiskAt w B' db s) : All w0 w B ((db, s) :: ds) bs :=
  ⟨h.1, h.2.1, fun p hp => by rcases List.mem_cons.1 hp with rfl | hp; exact hd.mono hB; exact h.2.2.1 p hp, h.2.2.2⟩
theorem All.addBytes {w0 w : World} {B : Nat} {v : Value} {b : List UInt8} {ds : List (Nat × St)} {bs : List (Value × List UInt8)} (h : All w0 w B ds bs) (hd : BytesAt w B v b) : All w0 w B ds ((v, b) :: bs) :=
  ⟨h.1, h.2.1, h.2.2.1, fun p hp => by rcases List.mem_cons.1 hp with rfl | hp; exact hd; exact h.2.2.2 p hp⟩
theorem All.disk {w0 w : World} {B : Nat} {ds : List (Nat × St)} {bs : List (Value × List UInt8)} (h : All w0 w B ds bs) (db : Nat) (s : St) (hm : (db, s) ∈ ds) : DiskAt w B db s := h.2.2.1 _ hm
theorem All.byte {w0 w : World} {B : Nat} {ds : List (Nat × St)} {bs : List (Value × List UInt8)} (h : All w0 w B ds bs) (v : Value) (b : List UInt8) (hm : (v, b) ∈ bs) : BytesAt w B v b := h.2.2.2 _ hm

end Go.Proofs.Ytbhdelfiaaodmaa
