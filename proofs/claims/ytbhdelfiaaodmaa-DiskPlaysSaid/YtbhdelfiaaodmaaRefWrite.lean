/-
  What the document's own Write does. No condition but that its disk lies where it is said to lie.
-/
import Derived.Test.YtbhdelfiaaodmaaRef
import Derived.Deep.RegionLaw
namespace Go.Proofs.Ytbhdelfiaaodmaa
open Go.RowKit
open Extern.Stop (cell)

theorem Try.infoP : (Try.prog.info? 57).map (fun i => (i.size, i.bytes, i.zero.map (fun z => z.cells.size))) = some (2, 32, some 2) := by kernel_rfl

theorem owned_ne {w : World} {B b m size : Nat} {e t : TypeId} {v : Value} {xs : List Value} {cs : Array Value} (ho : w.ownsRow B e size v m xs) (hb : w.heap[b]? = some (.cells cs t (0, 0))) (hne : t ≠ e) : v.ownBlock ≠ some b := fun he => by
  rcases ho.2 with ⟨hv, _⟩ | ⟨g', cap', cur, hv, _, hh, _⟩
  · rw [hv] at he; cases he
  · rw [hv] at he; cases he
    rw [hb] at hh
    simp only [Option.some.injEq, Obj.cells.injEq] at hh
    exact hne hh.2.1
theorem owned_cells {w : World} {B m size g : Nat} {e : TypeId} {v : Value} {xs : List Value} (ho : w.ownsRow B e size v m xs) (hg : v.ownBlock = some g) : ∃ cur, w.heap[g]? = some (.cells cur e (0, 0)) := by
  rcases ho.2 with ⟨hv, _⟩ | ⟨g', cap', cur, hv, _, hh, _⟩
  · rw [hv] at hg; cases hg
  · rw [hv] at hg; cases hg; exact ⟨cur, hh⟩

/-- The bytes of a slice that lies below block B. -/
def BytesLow (w : World) (B : Nat) (v : Value) (bs : List UInt8) : Prop :=
  ∃ (a : Option Addr) (cap : Nat), v = .slice a bs.length cap ∧ (0 < bs.length → ∃ ad, a = some ad ∧ ad.block < B ∧ ∀ (j : Nat) (u : Value), (bs.map cell)[j]? = some u → w.cell? (ad.add j) = some u)
theorem BytesLow.bytes {w : World} {B : Nat} {v : Value} {bs : List UInt8} (h : BytesLow w B v bs) : BytesAt w B v bs := by
  obtain ⟨a, cap, e, hc⟩ := h
  exact ⟨a, cap, e, fun h0 => by obtain ⟨ad, ea, hd, hu⟩ := hc h0; exact ⟨ad, ea, Or.inl hd, hu⟩⟩
theorem BytesLow.kept {w w' : World} {B : Nat} {v : Value} {bs : List UInt8} (h : BytesLow w B v bs) (hb : Below B w w') : BytesLow w' B v bs := by
  obtain ⟨a, cap, e, hc⟩ := h
  refine ⟨a, cap, e, fun h0 => ?_⟩
  obtain ⟨ad, ea, hd, hu⟩ := hc h0
  exact ⟨ad, ea, hd, fun j u hj => by rw [World.cell?_of_block (w := w) (by rw [add_block]; exact hb.block _ hd)]; exact hu j u hj⟩
def sliceA : Value → Option Addr
  | .slice a _ _ => a
  | _ => none
theorem BytesLow.copy {w w' : World} {B q : Nat} {v : Value} {bs : List UInt8} (h : BytesLow w B v bs) (hb : Below B w w') : CopyAt w' q 0 (sliceA v) bs := fun hp => by
  obtain ⟨a, cap, rfl, hc⟩ := h.kept hb
  obtain ⟨ad, ea, _, hu⟩ := hc (by simpa using hp)
  exact ⟨rfl, ad, ea, hu⟩

def RefEnd (w : World) (B rb : Nat) (s : St) (x : Wr) (w' : World) : Prop := RefAt w' B rb (s.add x) ∧ Below B w w' ∧ StaysR w w'

/-- Behind the append. 'w' is the world in which the append was made; block g holds the new write's bytes. -/
theorem ref_end {w0 w w1 : World} {B rb g gg cap : Nat} {s : St} {x : Wr} {v : Value} {ps : List (Wr × Nat)} (h0 : Below B w0 w ∧ StaysR w0 w) (hB : B ≤ rb) (hx : x.good)
    (hb : w.heap[rb]? = some (.cells #[v, .bool s.down, .bool s.armed, .int .i64 s.left] 30 (0, 0))) (hps : ps.map (·.1) = s.l)
    (ho : w.ownsRow B 57 2 v s.l.length (refRow ps)) (hg : ∀ p ∈ ps, p.1.good ∧ w.heap[p.2]? = some (.cells (p.1.d.map cell).toArray 5 (0, 0))) (hgx : w.heap[g]? = some (.cells (x.d.map cell).toArray 5 (0, 0)))
    (hown1 : w1.ownsRow B 57 2 (.slice (some ⟨gg, 0, none⟩) (s.l.length + 1) cap) (s.l.length + 1) (refRow ps ++ [.int .i64 x.n, .slice (some ⟨g, 0, none⟩) 64 64]))
    (hgrow : (w.alloc (Obj.cells #[.int .i64 x.n, .slice (some ⟨g, 0, none⟩) 64 64] 57)).grownBy w1 v.ownBlock) :
    RefEnd w0 B rb s x (w1.setCell ⟨rb, 0, none⟩ (.slice (some ⟨gg, 0, none⟩) (s.l.length + 1) cap)) := by
  have lg := lt_of_heap hb
  have heq : ∀ b, b < w.heap.size → (w.alloc (Obj.cells #[.int .i64 x.n, .slice (some ⟨g, 0, none⟩) 64 64] 57)).heap[b]? = w.heap[b]? := fun b hb' => by rw [Below.heap_alloc _ _ _ hb']
  have old : ∀ b, b < w.heap.size → some b ≠ v.ownBlock → w1.heap[b]? = w.heap[b]? := fun b hb' hn => by rw [hgrow.block b (by simp; omega) hn, heq b hb']
  have hrb : w1.heap[rb]? = some (.cells #[v, .bool s.down, .bool s.armed, .int .i64 s.left] 30 (0, 0)) := by
    rw [old rb lg (fun e => owned_ne ho hb (by decide) e.symm)]; exact hb
  have hgg : ∃ cur, w1.heap[gg]? = some (.cells cur 57 (0, 0)) := owns_block hown1
  have keep5 : ∀ (b : Nat) (cs : Array Value), w.heap[b]? = some (.cells cs 5 (0, 0)) → (w1.setCell ⟨rb, 0, none⟩ (.slice (some ⟨gg, 0, none⟩) (s.l.length + 1) cap)).heap[b]? = some (.cells cs 5 (0, 0)) := fun b cs hc => by
    rw [Below.heap_setCell _ _ _ _ (show b ≠ rb from fun e => by subst e; rw [hb] at hc; simp at hc), old b (lt_of_heap hc) (fun e => owned_ne ho hc (by decide) e.symm)]; exact hc
  refine ⟨⟨hB, .slice (some ⟨gg, 0, none⟩) (s.l.length + 1) cap, ps ++ [(x, g)], ?_, ?_, ?_, ?_⟩, ?_, ?_⟩
  · rw [heap_setCell_same w1 rb 0 _ _ _ hrb]; rfl
  · simp [St.add, hps]
  · have e1 : refRow (ps ++ [(x, g)]) = refRow ps ++ [.int .i64 x.n, .slice (some ⟨g, 0, none⟩) 64 64] := by simp [refRow, putCells]
    rw [e1]
    simp only [St.add, List.length_append, List.length_cons, List.length_nil]
    exact owns_kept hown1 (fun g' cur hc _ => Below.heap_setCell _ _ _ _ (fun e => by subst e; rw [hrb] at hc; simp at hc))
  · intro p hp
    rcases List.mem_append.1 hp with hp | hp
    · exact ⟨(hg p hp).1, keep5 _ _ (hg p hp).2⟩
    · simp only [List.mem_singleton] at hp; subst hp; exact ⟨hx, keep5 _ _ hgx⟩
  · have hBw : B ≤ w.heap.size := by omega
    have h1 : Below B w0 (w.alloc (Obj.cells #[.int .i64 x.n, .slice (some ⟨g, 0, none⟩) 64 64] 57)) := h0.1.alloc hBw _
    exact (h1.grown hgrow (by simp; omega) (fun k hk => (ho.lt k hk).1)).setCell hB _
  · have h1 : StaysR w0 (w.alloc (Obj.cells #[.int .i64 x.n, .slice (some ⟨g, 0, none⟩) 64 64] 57)) := h0.2.alloc _
    exact (h1.grown hgrow (fun k hk => by obtain ⟨cur, hc⟩ := owned_cells ho hk; exact ⟨_, (heq k (lt_of_heap hc)).trans hc, rfl⟩)).setCell ⟨_, hrb, rfl⟩ _

set_option maxHeartbeats 400000 in
theorem ref_write_down (w : World) (rb : Nat) (n : Int) (b : Value) (c1 : w.cell? ⟨rb, 1, none⟩ = some (.bool true)) : Calls Try.prog 11 #[.pointer (some ⟨rb, 0, none⟩), .int .i64 n, b] w fun e w' => e = .returned (.int .i64 5) ∧ w = w' := by
  go_enter Try.func11, Try.ntmps11
  go_wp2
  go_ret
  exact ⟨rfl, rfl⟩
set_option maxHeartbeats 400000 in
theorem ref_write_low (w : World) (rb : Nat) (n : Int) (hn : n < 0) (b : Value) (c1 : w.cell? ⟨rb, 1, none⟩ = some (.bool false)) : Calls Try.prog 11 #[.pointer (some ⟨rb, 0, none⟩), .int .i64 n, b] w fun e w' => e = .returned (.int .i64 2) ∧ w = w' := by
  go_enter Try.func11, Try.ntmps11
  go_wp2
  go_ret
  exact ⟨rfl, rfl⟩
set_option maxHeartbeats 400000 in
theorem ref_write_high (w : World) (rb : Nat) (n : Int) (h0 : ¬ n < 0) (hn : 2049 ≤ n) (b : Value) (c1 : w.cell? ⟨rb, 1, none⟩ = some (.bool false)) : Calls Try.prog 11 #[.pointer (some ⟨rb, 0, none⟩), .int .i64 n, b] w fun e w' => e = .returned (.int .i64 2) ∧ w = w' := by
  go_enter Try.func11, Try.ntmps11
  go_wp2
  go_ret
  exact ⟨rfl, rfl⟩
set_option maxHeartbeats 400000 in
theorem ref_write_much (w : World) (rb : Nat) (n : Int) (h0 : ¬ n < 0) (hn : ¬ 2049 ≤ n) (a : Option Addr) (len cap : Nat) (hl : (64 : Int) < (len : Int)) (c1 : w.cell? ⟨rb, 1, none⟩ = some (.bool false)) : Calls Try.prog 11 #[.pointer (some ⟨rb, 0, none⟩), .int .i64 n, .slice a len cap] w fun e w' => e = .returned (.int .i64 2) ∧ w = w' := by
  go_enter Try.func11, Try.ntmps11
  go_wp2
  go_ret
  exact ⟨rfl, rfl⟩
set_option maxHeartbeats 400000 in
theorem ref_write_spent (w : World) (B rb : Nat) (s : St) (n : Int) (h0 : ¬ n < 0) (hn : ¬ 2049 ≤ n) (a : Option Addr) (len cap : Nat) (hl : ¬ (64 : Int) < (len : Int)) (h : RefAt w B rb s) (hd : s.down = false) (ha : s.armed = true) (hk : s.left = 0) :
    Calls Try.prog 11 #[.pointer (some ⟨rb, 0, none⟩), .int .i64 n, .slice a len cap] w fun e w' => e = .returned (.int .i64 5) ∧ RefAt w' B rb ⟨s.l, true, 0, true⟩ ∧ Below B w w' ∧ StaysR w w' := by
  obtain ⟨v, ps, hps, ho, hgs, hb, c0, c1, c2, c3, hf⟩ := h.cells
  have f1 := hf 1
  have HT := Lib.hid (fun w' ht => h.turned c0 (a := true) (d := true) (n := 0) (w' := w') ht)
  rw [hd] at c1 hb
  rw [ha] at c2 hb
  rw [hk] at c3 hb
  have ht := Turned.refl hb
  clear hps ho hgs hb hf h hd ha hk
  go_enter Try.func11, Try.ntmps11
  go_wp2
  go_ret
  exact ⟨rfl, HT.out _ (ht.setCell 1 (.bool true))⟩

set_option maxRecDepth 100000 in
set_option maxHeartbeats 1000000 in
theorem ref_write_free (w : World) (B rb : Nat) (s : St) (n : Int) (h0 : ¬ n < 0) (h1 : ¬ 2049 ≤ n) (vb : Value) (bs : List UInt8) (hvb : BytesLow w B vb bs) (hl : bs.length ≤ 64) (h : RefAt w B rb s) (hm : s.l.length ≤ 100000) (ha : s.armed = false) (hd : s.down = false) :
    Calls Try.prog 11 #[.pointer (some ⟨rb, 0, none⟩), .int .i64 n, vb] w fun e w' => e = .returned (.int .i64 0) ∧ RefEnd w B rb s ⟨n, pad bs⟩ w' := by
  obtain ⟨v0, ps0, hps0, ho0, hgs0, hb0, c0, c1, c2, c3, hf⟩ := h.cells
  rw [hd] at c1
  rw [ha] at c2
  have hT : RefAt w B rb s ∧ Below B w w ∧ StaysR w w := ⟨h, Below.refl B w, StaysR.refl w⟩
  obtain ⟨s1, hs1⟩ : ∃ s1 : St, s1 = s := ⟨_, rfl⟩
  rw [← hs1] at hT
  rw [← hs1]
  have hm1 : s1.l.length ≤ 100000 := by rw [hs1]; exact hm
  have hsz : w.heap.size = w.heap.size := rfl
  have hBw : B ≤ w.heap.size := Nat.le_trans h.1 (Nat.le_of_lt h.lt)
  obtain ⟨ZA, hZA⟩ : ∃ ZA, ZA = (zeros.map cell).toArray := ⟨_, rfl⟩
  have hmk := make64
  rw [← hZA] at hmk
  have h5 : (Try.prog.info? 5).map (·.size) = some 1 := by kernel_rfl
  have hbel1 : Below B w (w.alloc (.cells ZA 5)) := hT.2.1.alloc (by rw [hsz]; exact hBw) _
  have hc1 : CopyAt (w.alloc (.cells ZA 5)) w.heap.size 0 (sliceA vb) bs := hvb.copy hbel1
  have hc2 : (w.alloc (.cells ZA 5)).heap[w.heap.size]? = some (.cells (zeros.map cell).toArray 5 (0, 0)) := by
    have := heap_alloc_new w (.cells ZA 5)
    rw [hsz] at this
    rw [this, hZA]
  obtain ⟨a, cap, rfl, _⟩ := hvb
  change CopyAt _ _ 0 a bs at hc1
  have hn0 : 0 ≤ n := by omega
  have hn1 : n < 2049 := by omega
  have hc3 : (bs.map cell).length = Nat.min bs.length 64 := by simp [Nat.min_def]; omega
  have hc4 : 0 + (bs.map cell).length ≤ (zeros.map cell).length := by simp [zeros]; omega
  have hc5 : Below w.heap.size w (w.alloc (.cells ZA 5)) := (Below.refl _ _).alloc (by rw [hsz]; exact Nat.le_refl _) _
  have HC := Lib.hid (And.intro hc1 (And.intro hc2 (And.intro hc3 (And.intro hc4 hc5))))
  have HT := Lib.hid hT
  have HSZ := Lib.hid hsz
  have HM1 := Lib.hid hm1
  have HX : Hid ((Wr.mk n (pad bs)).good) := show Wr.good _ from ⟨pad_length hl, hn0, hn1⟩
  have HBW := Lib.hid hBw
  have hll : ¬ (64 : Int) < (bs.length : Int) := by omega
  clear hc1 hc2 hc3 hc4 hc5 hT hs1 hm1 hsz hZA hps0 ho0 hgs0 hb0 c0 hf hm ha hd hl hBw h hbel1 c3
  go_enter Try.func11, Try.ntmps11
  go_upto_region 12 with (with_reducible refine wpList_copy_splice rfl (.tmp 49) (.tmp 50) 31 31 rfl 5 Try.underlying31 h5 (some ⟨w.heap.size, 0, none⟩) a 64 64 bs.length cap rfl rfl w.heap.size 0 (zeros.map cell) 5 HC.out.2.1 (bs.map cell) HC.out.2.2.1 HC.out.1.out HC.out.2.2.2.1 (cells_one bs) w.heap.size w HC.out.2.2.2.2 (Nat.le_refl _) ?_; intro w2 HG2 HB2; have HB3 := Lib.hid HB2; clear HB2)
  have hbelow : Below w.heap.size w w2 := HB3.out
  have hr2 : RefAt w2 B rb s1 := HT.out.1.below hbelow
  have HE := Lib.hid (And.intro (HT.out.2.1.trans (HB3.out.mono HBW.out)) (HT.out.2.2.trans (StaysR.below hbelow)))
  have hgx : w2.heap[w.heap.size]? = some (.cells ((pad bs).map cell).toArray 5 (0, 0)) := by rw [HG2.out, splice_pad0]
  obtain ⟨v, ps, hps, ho, hgs, hb, d0, d1, d2, d3, hf⟩ := hr2.cells
  have g0 := hf 0
  have lg := hr2.lt
  obtain ⟨m, hmm⟩ : ∃ m, m = s1.l.length := ⟨_, rfl⟩
  have hm2 : m ≤ 100000 := by rw [hmm]; exact HM1.out
  have HEND := Lib.hid (fun w1 gg cap' h1 h2 => ref_end (w1 := w1) (gg := gg) (cap := cap') (x := ⟨n, pad bs⟩) HE.out hr2.1 HX.out hb hps ho hgs hgx h1 h2)
  rw [← hmm] at ho HEND
  have hB : B ≤ w2.heap.size := Nat.le_trans hr2.1 (Nat.le_of_lt lg)
  have hne : v.ownBlock ≠ some rb := owned_ne ho hb (by decide)
  obtain ⟨i0, z0, hi0, hz0, hz1, hz2, hz3⟩ := info_wide Try.infoP
  have HN : Hid ((w2.alloc (Obj.cells #[.int .i64 n, .slice (some ⟨w.heap.size, 0, none⟩) 64 64] 57)).heap[w2.heap.size]? = some (Obj.cells #[.int .i64 n, .slice (some ⟨w.heap.size, 0, none⟩) 64 64] 57 (0, 0))) := heap_alloc_new w2 _
  have hlt2 : (⟨rb, 0, none⟩ : Addr).block < (w2.alloc (Obj.cells #[.int .i64 n, .slice (some ⟨w.heap.size, 0, none⟩) 64 64] 57)).heap.size := by simp; omega
  have e0a : (w2.alloc (Obj.cells #[.int .i64 n, .slice (some ⟨w.heap.size, 0, none⟩) 64 64] 57)).cell? ⟨rb, 0, none⟩ = some v := (World.cell?_of_block (w := w2) (Below.heap_alloc w2 _ rb lg)).trans d0
  have e0f : (w2.alloc (Obj.cells #[.int .i64 n, .slice (some ⟨w.heap.size, 0, none⟩) 64 64] 57)).frozen? ⟨rb, 0, none⟩ = false := (World.frozen?_of_block (w := w2) (Below.heap_alloc w2 _ rb lg)).trans g0
  have HAUX := Lib.hid (And.intro hne (And.intro hlt2 (And.intro e0a e0f)))
  clear hps hgs hb d1 d2 d3 hf hgx hbelow hr2 hmm hne hlt2 e0a e0f hmk
  go_wp2_with (at_builtin; refine wpList_append_lies _ rfl (.tmp 56) (.tmp 60) _ rfl B 57 i0 z0 2 32 Try.underlying28 hi0 hz0 hz1 hz2 hz3 (by omega) v m (refRow ps) rfl (ho.alloc _) ⟨w2.heap.size, 0, none⟩ 1 1 [.int .i64 n, .slice (some ⟨w.heap.size, 0, none⟩) 64 64] rfl rfl (World.news_of_block (cs := #[.int .i64 n, .slice (some ⟨w.heap.size, 0, none⟩) 64 64]) (t := 57) (fr := (0, 0)) HN.out) (by simp [Value.oneCell']) (by omega) (by unfold maxLen; omega) (by omega) (by simp; omega) (w2.heap.size + 1) (by simp) ?_; intro gg cap' w1 hown1 hgrow hat hlt; have c1w := (hgrow.cell_far _ HAUX.out.2.1 (Ne.symm HAUX.out.1)).trans HAUX.out.2.2.1; have f1w := (hgrow.frozen_far _ HAUX.out.2.1 (Ne.symm HAUX.out.1)).trans HAUX.out.2.2.2)
  go_ret
  exact ⟨rfl, HEND.out _ _ _ hown1 hgrow⟩

set_option maxRecDepth 100000 in
set_option maxHeartbeats 1000000 in
theorem ref_write_armed (w : World) (B rb : Nat) (s : St) (n : Int) (h0 : ¬ n < 0) (h1 : ¬ 2049 ≤ n) (vb : Value) (bs : List UInt8) (hvb : BytesLow w B vb bs) (hl : bs.length ≤ 64) (h : RefAt w B rb s) (hm : s.l.length ≤ 100000) (ha : s.armed = true) (hk0 : 0 < s.left) (hk1 : s.left ≤ 1073741824) (hd : s.down = false) :
    Calls Try.prog 11 #[.pointer (some ⟨rb, 0, none⟩), .int .i64 n, vb] w fun e w' => e = .returned (.int .i64 0) ∧ RefEnd w B rb ⟨s.l, true, s.left - 1, false⟩ ⟨n, pad bs⟩ w' := by
  obtain ⟨v0, ps0, hps0, ho0, hgs0, hb0, c0, c1, c2, c3, hf⟩ := h.cells
  rw [hd] at c1
  rw [ha] at c2
  have f3 := hf 3
  have hkk : (s.left == 0) = false := by simp; omega
  rw [hd, ha] at hb0
  have hT := h.turned c0 (a := true) (d := false) (n := s.left - 1) ((Turned.refl hb0).setCell 3 (.int .i64 (s.left - 1)))
  obtain ⟨k, hk⟩ : ∃ k, k = s.left := ⟨_, rfl⟩
  rw [← hk] at c3 hkk hk0 hk1 hT
  rw [← hk]
  obtain ⟨s1, hs1⟩ : ∃ s1 : St, s1 = ⟨s.l, true, k - 1, false⟩ := ⟨_, rfl⟩
  rw [← hs1] at hT
  rw [← hs1]
  have hm1 : s1.l.length ≤ 100000 := by rw [hs1]; exact hm
  have hsz : (w.setCell ⟨rb, 3, none⟩ (.int .i64 (k - 1))).heap.size = w.heap.size := by simp [World.setCell]
  have hBw : B ≤ w.heap.size := Nat.le_trans h.1 (Nat.le_of_lt h.lt)
  obtain ⟨ZA, hZA⟩ : ∃ ZA, ZA = (zeros.map cell).toArray := ⟨_, rfl⟩
  have hmk := make64
  rw [← hZA] at hmk
  have h5 : (Try.prog.info? 5).map (·.size) = some 1 := by kernel_rfl
  have hbel1 : Below B w ((w.setCell ⟨rb, 3, none⟩ (.int .i64 (k - 1))).alloc (.cells ZA 5)) := hT.2.1.alloc (by rw [hsz]; exact hBw) _
  have hc1 : CopyAt ((w.setCell ⟨rb, 3, none⟩ (.int .i64 (k - 1))).alloc (.cells ZA 5)) w.heap.size 0 (sliceA vb) bs := hvb.copy hbel1
  have hc2 : ((w.setCell ⟨rb, 3, none⟩ (.int .i64 (k - 1))).alloc (.cells ZA 5)).heap[w.heap.size]? = some (.cells (zeros.map cell).toArray 5 (0, 0)) := by
    have := heap_alloc_new (w.setCell ⟨rb, 3, none⟩ (.int .i64 (k - 1))) (.cells ZA 5)
    rw [hsz] at this
    rw [this, hZA]
  obtain ⟨a, cap, rfl, _⟩ := hvb
  change CopyAt _ _ 0 a bs at hc1
  have hn0 : 0 ≤ n := by omega
  have hn1 : n < 2049 := by omega
  have hc3 : (bs.map cell).length = Nat.min bs.length 64 := by simp [Nat.min_def]; omega
  have hc4 : 0 + (bs.map cell).length ≤ (zeros.map cell).length := by simp [zeros]; omega
  have hc5 : Below w.heap.size (w.setCell ⟨rb, 3, none⟩ (.int .i64 (k - 1))) ((w.setCell ⟨rb, 3, none⟩ (.int .i64 (k - 1))).alloc (.cells ZA 5)) := (Below.refl _ _).alloc (by rw [hsz]; exact Nat.le_refl _) _
  have HC := Lib.hid (And.intro hc1 (And.intro hc2 (And.intro hc3 (And.intro hc4 hc5))))
  have HT := Lib.hid hT
  have HSZ := Lib.hid hsz
  have HM1 := Lib.hid hm1
  have HX : Hid ((Wr.mk n (pad bs)).good) := show Wr.good _ from ⟨pad_length hl, hn0, hn1⟩
  have HBW := Lib.hid hBw
  have hll : ¬ (64 : Int) < (bs.length : Int) := by omega
  clear hc1 hc2 hc3 hc4 hc5 hT hs1 hm1 hsz hZA hps0 ho0 hgs0 hb0 c0 hf hm ha hd hl hBw h hbel1 hk
  go_enter Try.func11, Try.ntmps11
  go_upto_region 12 with (with_reducible refine wpList_copy_splice rfl (.tmp 49) (.tmp 50) 31 31 rfl 5 Try.underlying31 h5 (some ⟨w.heap.size, 0, none⟩) a 64 64 bs.length cap rfl rfl w.heap.size 0 (zeros.map cell) 5 HC.out.2.1 (bs.map cell) HC.out.2.2.1 HC.out.1.out HC.out.2.2.2.1 (cells_one bs) w.heap.size (w.setCell ⟨rb, 3, none⟩ (.int .i64 (k - 1))) HC.out.2.2.2.2 (Nat.le_refl _) ?_; intro w2 HG2 HB2; have HB3 := Lib.hid HB2; clear HB2)
  have hbelow : Below (w.setCell ⟨rb, 3, none⟩ (.int .i64 (k - 1))).heap.size (w.setCell ⟨rb, 3, none⟩ (.int .i64 (k - 1))) w2 := by rw [HSZ.out]; exact HB3.out
  have hr2 : RefAt w2 B rb s1 := HT.out.1.below hbelow
  have HE := Lib.hid (And.intro (HT.out.2.1.trans (HB3.out.mono HBW.out)) (HT.out.2.2.trans (StaysR.below hbelow)))
  have hgx : w2.heap[w.heap.size]? = some (.cells ((pad bs).map cell).toArray 5 (0, 0)) := by rw [HG2.out, splice_pad0]
  obtain ⟨v, ps, hps, ho, hgs, hb, d0, d1, d2, d3, hf⟩ := hr2.cells
  have g0 := hf 0
  have lg := hr2.lt
  obtain ⟨m, hmm⟩ : ∃ m, m = s1.l.length := ⟨_, rfl⟩
  have hm2 : m ≤ 100000 := by rw [hmm]; exact HM1.out
  have HEND := Lib.hid (fun w1 gg cap' h1 h2 => ref_end (w1 := w1) (gg := gg) (cap := cap') (x := ⟨n, pad bs⟩) HE.out hr2.1 HX.out hb hps ho hgs hgx h1 h2)
  rw [← hmm] at ho HEND
  have hB : B ≤ w2.heap.size := Nat.le_trans hr2.1 (Nat.le_of_lt lg)
  have hne : v.ownBlock ≠ some rb := owned_ne ho hb (by decide)
  obtain ⟨i0, z0, hi0, hz0, hz1, hz2, hz3⟩ := info_wide Try.infoP
  have HN : Hid ((w2.alloc (Obj.cells #[.int .i64 n, .slice (some ⟨w.heap.size, 0, none⟩) 64 64] 57)).heap[w2.heap.size]? = some (Obj.cells #[.int .i64 n, .slice (some ⟨w.heap.size, 0, none⟩) 64 64] 57 (0, 0))) := heap_alloc_new w2 _
  have hlt2 : (⟨rb, 0, none⟩ : Addr).block < (w2.alloc (Obj.cells #[.int .i64 n, .slice (some ⟨w.heap.size, 0, none⟩) 64 64] 57)).heap.size := by simp; omega
  have e0a : (w2.alloc (Obj.cells #[.int .i64 n, .slice (some ⟨w.heap.size, 0, none⟩) 64 64] 57)).cell? ⟨rb, 0, none⟩ = some v := (World.cell?_of_block (w := w2) (Below.heap_alloc w2 _ rb lg)).trans d0
  have e0f : (w2.alloc (Obj.cells #[.int .i64 n, .slice (some ⟨w.heap.size, 0, none⟩) 64 64] 57)).frozen? ⟨rb, 0, none⟩ = false := (World.frozen?_of_block (w := w2) (Below.heap_alloc w2 _ rb lg)).trans g0
  have HAUX := Lib.hid (And.intro hne (And.intro hlt2 (And.intro e0a e0f)))
  clear hps hgs hb d1 d2 d3 hf hgx hbelow hr2 hmm hne hlt2 e0a e0f hmk
  go_wp2_with (at_builtin; refine wpList_append_lies _ rfl (.tmp 56) (.tmp 60) _ rfl B 57 i0 z0 2 32 Try.underlying28 hi0 hz0 hz1 hz2 hz3 (by omega) v m (refRow ps) rfl (ho.alloc _) ⟨w2.heap.size, 0, none⟩ 1 1 [.int .i64 n, .slice (some ⟨w.heap.size, 0, none⟩) 64 64] rfl rfl (World.news_of_block (cs := #[.int .i64 n, .slice (some ⟨w.heap.size, 0, none⟩) 64 64]) (t := 57) (fr := (0, 0)) HN.out) (by simp [Value.oneCell']) (by omega) (by unfold maxLen; omega) (by omega) (by simp; omega) (w2.heap.size + 1) (by simp) ?_; intro gg cap' w1 hown1 hgrow hat hlt; have c1w := (hgrow.cell_far _ HAUX.out.2.1 (Ne.symm HAUX.out.1)).trans HAUX.out.2.2.1; have f1w := (hgrow.frozen_far _ HAUX.out.2.1 (Ne.symm HAUX.out.1)).trans HAUX.out.2.2.2)
  go_ret
  exact ⟨rfl, HEND.out _ _ _ hown1 hgrow⟩

end Go.Proofs.Ytbhdelfiaaodmaa
