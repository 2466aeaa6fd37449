/-
  What 'Walk' and 'Great' answer of a tree that lies in memory: where Great answers false the tree has at most 2000 nodes. No condition but that no row of kids is longer than a slice may be.
-/
import Derived.Test.YtjppibomjnmjpaaRWalk
namespace Go.Proofs.Ytjppibomjnmjpaa
open Go.RowKit

def WalkAll (w : World) (t : Tr) (e : Ending) (w' : World) : Prop := ∃ a n cap, e = .returned (.slice a n cap) ∧ Spots w' w.heap.size (.slice a n cap) n ∧ Below w.heap.size w w' ∧ (2001 ≤ n ∨ n = foSize t.kids + 1) ∧ n ≤ 2001
set_option maxRecDepth 100000 in
set_option maxHeartbeats 1000000 in
theorem walk_all (w : World) (S : Nat → Prop) (v : Value) (t : Tr) (hlen : foLen t.kids ≤ 9223372036854775807) (hfit : foFit t.kids) (hS : ∀ k, S k → k < w.heap.size) (hv : TrAt w S v t) :
    Calls Try.prog 27 #[v, .int .i64 2001] w (WalkAll w t) := by
  obtain ⟨ka, cap, rfl, hcp, hk⟩ := hv
  have hb : Below w.heap.size w (w.alloc (.cells #[.int .i64 t.id, .int .i64 t.kind, .string t.text, .slice ka (foLen t.kids) cap] 24)) := (Below.refl _ _).alloc (Nat.le_refl _) _
  have hc := rwalk_any _ (w.alloc (.cells #[.int .i64 t.id, .int .i64 t.kind, .string t.text, .slice ka (foLen t.kids) cap] 24)) S _ t w.heap.size (.slice none 0 0) 0 1 (Nat.lt_succ_self _) hlen hfit hS hb.size ⟨ka, cap, rfl, hcp, hk.below hb hS⟩ ⟨[], World.ownsRow_nil _ _ _ _, fun i hi => by omega⟩ (by omega) (by omega) (by omega)
  have HC := Lib.hid (And.intro hc hb)
  clear hc hb hk hfit hS
  obtain ⟨len, hl⟩ : ∃ len, len = foLen t.kids := ⟨_, rfl⟩
  rw [← hl] at HC
  rw [← hl]
  clear hl
  go_enter Try.func27, Try.ntmps27
  go_wp2_with fail
  refine HC.out.1.mono ?_
  rintro e w2 ⟨rv, n, rfl, hsp, hg, hn, hn2, _⟩
  have hb2 : Below w.heap.size w w2 := HC.out.2.trans ⟨hg.1.os, hg.1.tape, hg.1.output, hg.1.size, fun k hk => hg.1.block k (by have := HC.out.2.size; omega) (by simp [Value.ownBlock])⟩
  have hsp' := hsp
  obtain ⟨xs, ho, _⟩ := hsp
  obtain ⟨a, cap', rfl⟩ := owns_slice ho
  have HE := Lib.hid (And.intro hsp' (And.intro hb2 (show 2001 ≤ n ∨ n = foSize t.kids + 1 by omega)))
  clear hsp' ho hg hn hb2
  go_wp2_with fail
  go_ret
  exact ⟨_, _, _, rfl, HE.out.1, HE.out.2.1, HE.out.2.2, hn2⟩

/-- Where it answers false, the tree has at most 2000 nodes. -/
def GreatC (w : World) (t : Tr) (e : Ending) (w' : World) : Prop := ∃ b, e = .returned (.bool b) ∧ (b = false → foSize t.kids + 1 ≤ 2000) ∧ Below w.heap.size w w'
set_option maxRecDepth 100000 in
set_option maxHeartbeats 1000000 in
theorem great_tree (w : World) (S : Nat → Prop) (v : Value) (t : Tr) (hlen : foLen t.kids ≤ 9223372036854775807) (hfit : foFit t.kids) (hS : ∀ k, S k → k < w.heap.size) (hv : TrAt w S v t) :
    Calls Try.prog 8 #[v] w (GreatC w t) := by
  obtain ⟨ka, cap, rfl, hcp, hk⟩ := hv
  have hb : Below w.heap.size w (w.alloc (.cells #[.int .i64 t.id, .int .i64 t.kind, .string t.text, .slice ka (foLen t.kids) cap] 24)) := (Below.refl _ _).alloc (Nat.le_refl _) _
  have hc := walk_all (w.alloc (.cells #[.int .i64 t.id, .int .i64 t.kind, .string t.text, .slice ka (foLen t.kids) cap] 24)) S _ t hlen hfit (fun k hk => Nat.lt_of_lt_of_le (hS k hk) hb.size) ⟨ka, cap, rfl, hcp, hk.below hb hS⟩
  have HC := Lib.hid (And.intro hc hb)
  clear hc hb hk hfit hS
  obtain ⟨len, hl⟩ : ∃ len, len = foLen t.kids := ⟨_, rfl⟩
  rw [← hl] at HC
  rw [← hl]
  clear hl
  go_enter Try.func8, Try.ntmps8
  go_wp2_with fail
  refine HC.out.1.mono ?_
  rintro e w2 ⟨a, n, cap', rfl, ⟨xs, ho, hx⟩, hb2, hn, hn2⟩
  have HB : Hid (Below w.heap.size w w2) := show Below w.heap.size w w2 from HC.out.2.trans (hb2.mono HC.out.2.size)
  clear hb2
  by_cases hg : 2000 < n
  · have hg2 : (2000 : Int) < (n : Int) := by omega
    clear hn
    go_wp2_with fail
    go_ret
    exact ⟨true, rfl, (fun e => by cases e), HB.out⟩
  · have hg2 : ¬ (2000 : Int) < (n : Int) := by omega
    have HS : Hid (foSize t.kids + 1 ≤ 2000) := show foSize t.kids + 1 ≤ 2000 by omega
    have HO := Lib.hid (And.intro ho hx)
    clear hn ho hx
    go_wp2_with fail
    go_loop [4] (fun i => ∃ k : Nat, k ≤ n ∧ i = .int .i64 k) (fun i => n - (intOf i).toNat)
    case atStart => exact ⟨0, Nat.zero_le _, rfl⟩
    case round =>
      obtain ⟨k, hk, rfl⟩ := hrel
      by_cases hlt : k < n
      · obtain ⟨d, hd⟩ := HO.out.2 k hlt
        have ho := HO.out.1
        have hgg : ∃ g, a = some ⟨g, 0, none⟩ := by
          rcases ho.2 with ⟨hv, h0⟩ | ⟨g, cap2, cur, hv, _⟩
          · omega
          · cases hv; exact ⟨g, rfl⟩
        obtain ⟨g, rfl⟩ := hgg
        have c4 : w2.cell? ⟨g, k * 5 + 4, none⟩ = some (.int .i64 d) := owns_cell ho rfl _ _ hd
        have hkl : (k : Int) < (n : Int) := by omega
        clear ho hd
        by_cases hdd : 2000 < d
        · go_wp2_with fail
          go_ret
          exact ⟨true, rfl, (fun e => by cases e), HB.out⟩
        · go_wp2_with fail
          exact ⟨⟨k + 1, by omega, by go_num⟩, by simp [intOf]; omega⟩
      · have hkl : ¬ (k : Int) < (n : Int) := by omega
        go_wp2_with fail
        go_ret
        exact ⟨false, rfl, fun _ => HS.out, HB.out⟩

end Go.Proofs.Ytjppibomjnmjpaa
