/-
  What 'wakes' answers: true, whatever memory there is; nothing that was there turns.
-/
import Derived.Test.YtbhdelfiaaodmaaCut
import Derived.Lib.SlBytesConst
namespace Go.Proofs.Ytbhdelfiaaodmaa
open Go.RowKit
open Extern.Stop (cell)

def S1 : St := writeS St.fresh 3 [97]
def S2 : St := writeS S1 3 [98]
def S3 : St := armS S2 1
def S4 : St := writeS S3 4 []
def S5 : St := writeS S4 4 []

theorem k_write1 (w : World) (B db : Nat) (v : Value) (hd : DiskAt w B db St.fresh) (hb : BytesAt w B v [97]) : Calls Try.prog 10 #[.pointer (some ⟨db, 0, none⟩), .int .i64 3, v] w fun e w' => e = .returned (.int .i64 0) ∧ DiskAt w' B db S1 ∧ Below B w w' :=
  (write_any w B db St.fresh 3 v [97] hb hd (by decide) (by intro h; cases h)).mono fun _ _ ⟨he, h1, h2, _⟩ => ⟨he, h1, h2⟩
theorem k_write2 (w : World) (B db : Nat) (v : Value) (hd : DiskAt w B db S1) (hb : BytesAt w B v [98]) : Calls Try.prog 10 #[.pointer (some ⟨db, 0, none⟩), .int .i64 3, v] w fun e w' => e = .returned (.int .i64 0) ∧ DiskAt w' B db S2 ∧ Below B w w' :=
  (write_any w B db S1 3 v [98] hb hd (by decide) (by intro h; cases h)).mono fun _ _ ⟨he, h1, h2, _⟩ => ⟨he, h1, h2⟩
theorem k_cut (w : World) (B db : Nat) (hd : DiskAt w B db S2) : Calls Try.prog 14 #[.pointer (some ⟨db, 0, none⟩), .int .i64 1] w (CutEnd w [⟨3, pad [97]⟩]) :=
  cut_any w B db S2 1 hd (by decide)

/-- A slice of 64 bytes that the call has made. -/
def Got (B : Nat) (bs : List UInt8) (e : Ending) (w' : World) : Prop := ∃ g, B ≤ g ∧ e = .returned (.tuple #[.slice (some ⟨g, 0, none⟩) 64 64, .int .i64 0]) ∧ w'.heap[g]? = some (.cells (bs.map cell).toArray 52 (0, 0))
theorem k_read (w : World) (B db : Nat) (s : St) (n : Int) (hd : DiskAt w B db s) (hs : s.down = false) (h0 : 0 ≤ n) (h1 : n < 2049) : Calls Try.prog 12 #[.pointer (some ⟨db, 0, none⟩), .int .i64 n] w fun e w' => Got w.heap.size (sect s.l n) e w' ∧ Below w.heap.size w w' :=
  (read_any w B db s n hd).mono fun e w' ⟨v, he, hba, hb, hv⟩ => by
    have e1 : readE s n = 0 := by
      unfold readE; rw [hs]; simp; omega
    have e2 : readB s n = sect s.l n := by
      have : ¬ (n < 0 ∨ 2049 ≤ n) := by omega
      unfold readB; rw [hs]; simp [this]
    rw [e1] at he
    rcases hv with ⟨rfl, rfl⟩ | ⟨g, rfl, hg, hgs⟩
    · exfalso
      obtain ⟨_, _, _, _, _, hg, _⟩ := hd
      have hl := sect_length s.l hg n
      obtain ⟨a, cap, ev, _⟩ := hba
      rw [e2] at ev
      injection ev with _ h2 _
      omega
    · rw [e2] at hg
      exact ⟨⟨g, hgs, he, hg⟩, hb⟩
theorem k_arm (w : World) (B db : Nat) (hd : DiskAt w B db S2) : Calls Try.prog 16 #[.pointer (some ⟨db, 0, none⟩), .int .i64 1] w fun e w' => e = .returned (.int .i64 0) ∧ DiskAt w' B db S3 ∧ Below B w w' :=
  (arm_any w B db S2 1 hd).mono fun _ _ ⟨he, h1, h2, _⟩ => ⟨he, h1, h2⟩
theorem k_write3 (w : World) (B db : Nat) (hd : DiskAt w B db S3) : Calls Try.prog 10 #[.pointer (some ⟨db, 0, none⟩), .int .i64 4, .slice none 0 0] w fun e w' => e = .returned (.int .i64 0) ∧ DiskAt w' B db S4 ∧ Below B w w' :=
  (write_any w B db S3 4 (.slice none 0 0) [] (BytesAt.none _ _) hd (by decide) (fun _ => by decide)).mono fun _ _ ⟨he, h1, h2, _⟩ => ⟨he, h1, h2⟩
theorem k_write4 (w : World) (B db : Nat) (hd : DiskAt w B db S4) : Calls Try.prog 10 #[.pointer (some ⟨db, 0, none⟩), .int .i64 4, .slice none 0 0] w fun e w' => e = .returned (.int .i64 5) ∧ DiskAt w' B db S5 ∧ Below B w w' :=
  (write_any w B db S4 4 (.slice none 0 0) [] (BytesAt.none _ _) hd (by decide) (fun _ => by decide)).mono fun _ _ ⟨he, h1, h2, _⟩ => ⟨he, h1, h2⟩
theorem k_down (w : World) (B db : Nat) (hd : DiskAt w B db S5) : Calls Try.prog 21 #[.pointer (some ⟨db, 0, none⟩)] w fun e w' => e = .returned (.bool true) ∧ w = w' := down_any w B db S5 hd
theorem k_writes (w : World) (B db : Nat) (hd : DiskAt w B db S5) : Calls Try.prog 20 #[.pointer (some ⟨db, 0, none⟩)] w fun e w' => e = .returned (.int .i64 3) ∧ w = w' := writes_any w B db S5 hd

/-- The bytes of a slice that the call has made, whatever its mark. -/
theorem bytesAt_marked (w : World) (B : Nat) (bs : List UInt8) (cap : Nat) (t : TypeId) (fr : Nat × Nat) (ht : diskObj (.cells (bs.map cell).toArray t fr) = false) : BytesAt (w.alloc (.cells (bs.map cell).toArray t fr)) B (.slice (some ⟨w.heap.size, 0, none⟩) bs.length cap) bs :=
  ⟨some ⟨w.heap.size, 0, none⟩, cap, rfl, fun _ => ⟨_, rfl, Or.inr ⟨_, heap_alloc_new w _, ht⟩, fun j u hj => by
    have hadd : (⟨w.heap.size, 0, none⟩ : Addr).add j = ⟨w.heap.size, j, none⟩ := by unfold Addr.add; split <;> simp_all
    rw [hadd, cell_of_row _ _ j _ _ _ (heap_alloc_new w _)]; simpa using hj⟩⟩
theorem bytes97 (w : World) (B : Nat) : BytesAt (w.alloc (.cells #[.int .u8 97] 5 (1, 2))) B (.slice (some ⟨w.heap.size, 0, none⟩) 1 1) [97] := bytesAt_marked w B [97] 1 5 (1, 2) rfl
theorem bytes98 (w : World) (B : Nat) : BytesAt (w.alloc (.cells #[.int .u8 98] 5 (1, 2))) B (.slice (some ⟨w.heap.size, 0, none⟩) 1 1) [98] := bytesAt_marked w B [98] 1 5 (1, 2) rfl

set_option maxRecDepth 100000 in
set_option maxHeartbeats 2000000 in
theorem wakes_any (w : World) : Calls Try.prog 8 #[] w fun e w' => e = .returned (.bool true) ∧ Below w.heap.size w w' := by
  have kc := fun (w : World) (C : Array Value) (n c : Nat) => Lib.run_convert_bytes_const (P := Try.prog) w 31 5 C n c Try.underlying31 Try.underlying5
  go_enter Try.func8, Try.ntmps8
  go_wp2_with fail
  refine (new_any _).mono ?_
  rintro e w1 ⟨rfl, hd, hb, hs⟩
  have H1 := Lib.hid (And.intro hd (And.intro hb (show w.heap.size ≤ w1.heap.size by omega)))
  clear hd hb hs
  go_wp2_with fail
  refine (k_write1 _ w.heap.size w.heap.size _ (H1.out.1.alloc _) (bytes97 w1 _)).mono ?_
  rintro e w2 ⟨rfl, hd, hb⟩
  have H2 := Lib.hid (And.intro hd (show Below w.heap.size w w2 from ((H1.out.2.1.alloc H1.out.2.2 _).trans hb)))
  clear hd hb
  go_wp2_with fail
  refine (k_write2 _ w.heap.size w.heap.size _ (H2.out.1.alloc _) (bytes98 w2 _)).mono ?_
  rintro e w3 ⟨rfl, hd, hb⟩
  have H3 := Lib.hid (And.intro hd (show Below w.heap.size w w3 from ((H2.out.2.alloc H2.out.2.size _).trans hb)))
  clear hd hb
  go_wp2_with fail
  refine (k_cut _ w.heap.size w.heap.size H3.out.1).mono ?_
  rintro e w4 ⟨dc, rfl, hd, hb⟩
  have H4 := Lib.hid (And.intro hd (And.intro (H3.out.1.below hb) (show Below w.heap.size w w4 from (H3.out.2.trans (hb.mono H3.out.2.size)))))
  clear hd hb
  go_wp2_with fail
  refine (k_read _ _ dc _ 3 H4.out.1 rfl (by omega) (by omega)).mono ?_
  rintro e w5 ⟨⟨g1, hgl1, rfl, hg1⟩, hb⟩
  have H5 := Lib.hid (And.intro (H4.out.2.1.below hb) (And.intro (show Below w.heap.size w w5 from (H4.out.2.2.trans (hb.mono H4.out.2.2.size))) hg1))
  clear hb hg1 hgl1
  go_wp2_with fail
  refine (k_read _ _ w.heap.size _ 3 H5.out.1 rfl (by omega) (by omega)).mono ?_
  rintro e w6 ⟨⟨g2, hgl2, rfl, hg2⟩, hb⟩
  have H6 := Lib.hid (And.intro (H5.out.1.below hb) (show Below w.heap.size w w6 from (H5.out.2.1.trans (hb.mono H5.out.2.1.size))))
  have hg1 := (hb.block g1 (lt_of_heap H5.out.2.2)).trans H5.out.2.2
  have a0 : w6.cell? ⟨g1, 0, none⟩ = some (.int .u8 97) := by rw [cell_of_row w6 g1 0 _ _ _ hg1]; rfl
  have a63 : w6.cell? ⟨g1, 63, none⟩ = some (.int .u8 0) := by rw [cell_of_row w6 g1 63 _ _ _ hg1]; rfl
  have b0 : w6.cell? ⟨g2, 0, none⟩ = some (.int .u8 98) := by rw [cell_of_row w6 g2 0 _ _ _ hg2]; rfl
  clear hb hg1 hg2 hgl2
  go_wp2_with fail
  refine (k_arm _ w.heap.size w.heap.size H6.out.1).mono ?_
  rintro e w7 ⟨rfl, hd, hb⟩
  have H7 := Lib.hid (And.intro hd (H6.out.2.trans hb))
  clear hd hb
  go_wp2_with fail
  refine (k_write3 _ w.heap.size w.heap.size H7.out.1).mono ?_
  rintro e w8 ⟨rfl, hd, hb⟩
  have H8 := Lib.hid (And.intro hd (H7.out.2.trans hb))
  clear hd hb
  go_wp2_with fail
  refine (k_write4 _ w.heap.size w.heap.size H8.out.1).mono ?_
  rintro e w9 ⟨rfl, hd, hb⟩
  have H9 := Lib.hid (And.intro hd (H8.out.2.trans hb))
  clear hd hb
  go_wp2_with fail
  refine (k_down _ w.heap.size w.heap.size H9.out.1).mono ?_
  rintro e w10 ⟨rfl, rfl⟩
  go_wp2_with fail
  refine (k_writes _ w.heap.size w.heap.size H9.out.1).mono ?_
  rintro e w11 ⟨rfl, rfl⟩
  go_wp2_with fail
  go_ret
  exact ⟨rfl, H9.out.2⟩

end Go.Proofs.Ytbhdelfiaaodmaa
