/-
  What 'Great' and 'GreatSteps' of layer 3 answer: where they answer false trees have at most 250 nodes and 20,000 bytes of text, and steps are at most 70. No condition but that no row of kids is longer than a slice may be.
-/
import Derived.Test.YtljlijdgocfofaaCWalk
import Derived.Test.YtljlijdgocfofaaCStep
namespace Go.Proofs.Ytljlijdgocfofaa
open Go.RowKit

def WalkAll (w : World) (t : Tr) (e : Ending) (w' : World) : Prop := ∃ a n cap T, e = .returned (.slice a n cap) ∧ Spots w' w.heap.size (.slice a n cap) n T ∧ Below w.heap.size w w' ∧ (251 ≤ n ∨ T = spT 1 t) ∧ n ≤ 251
set_option maxRecDepth 100000 in
set_option maxHeartbeats 1000000 in
theorem walk_all (w : World) (S : Nat → Prop) (v : Value) (t : Tr) (hlen : foLen t.kids ≤ 9223372036854775807) (hfit : foFit t.kids) (hS : ∀ k, S k → k < w.heap.size) (hv : TrAt w S v t) :
    Calls Try.prog 35 #[v, .int .i64 251] w (WalkAll w t) := by
  obtain ⟨ka, cap, rfl, hcp, hk⟩ := hv
  have hb : Below w.heap.size w (w.alloc (.cells #[.int .i64 t.id, .int .i64 t.kind, .string t.text, .slice ka (foLen t.kids) cap] 25)) := (Below.refl _ _).alloc (Nat.le_refl _) _
  have hc := walk_any _ (w.alloc (.cells #[.int .i64 t.id, .int .i64 t.kind, .string t.text, .slice ka (foLen t.kids) cap] 25)) S _ t w.heap.size (.slice none 0 0) 0 [] 1 (Nat.lt_succ_self _) hlen hfit hS hb.size ⟨ka, cap, rfl, hcp, hk.below hb hS⟩ ⟨rfl, [], World.ownsRow_nil _ _ _ _, fun i p hi => by simp at hi⟩ (by omega) (by omega) (by omega)
  have HC := Lib.hid (And.intro hc hb)
  clear hc hb hk hfit hS hcp
  obtain ⟨len, hl⟩ : ∃ len, len = foLen t.kids := ⟨_, rfl⟩
  rw [← hl] at HC
  rw [← hl]
  clear hl
  go_enter Try.func35, Try.ntmps35
  go_wp2_with fail
  refine HC.out.1.mono ?_
  rintro e w2 ⟨rv, n, T, rfl, hsp, hg, hn, hn2, _⟩
  have hb2 : Below w.heap.size w w2 := HC.out.2.trans ⟨hg.1.os, hg.1.tape, hg.1.output, hg.1.size, fun k hk => hg.1.block k (by have := HC.out.2.size; omega) (by simp [Value.ownBlock])⟩
  have hsp' := hsp
  obtain ⟨hT, xs, ho, _⟩ := hsp
  obtain ⟨a, cap', rfl⟩ := owns_slice ho
  have HE := Lib.hid (And.intro hsp' (And.intro hb2 hn))
  clear hsp' ho hg hn hb2 hT
  go_wp2_with fail
  go_ret
  exact ⟨_, _, _, T, rfl, HE.out.1, HE.out.2.1, by simpa using HE.out.2.2, hn2⟩

def sumT (T : List (ByteArray × Int)) : Nat := (T.map (fun p => p.1.size)).sum
theorem sumT_take (T : List (ByteArray × Int)) (k : Nat) (p : ByteArray × Int) (h : T[k]? = some p) : sumT (T.take (k + 1)) = sumT (T.take k) + p.1.size := by
  rw [List.take_add_one, h]; simp [sumT]
theorem sumF : ∀ (f : Fo) (d : Int), sumT (spF d f) = foText f
  | .nil, _ => rfl
  | .node _ _ k l r, d => by
    have h1 := sumF l (d + 1)
    have h2 := sumF r d
    simp only [sumT] at h1 h2
    simp only [spF, sumT, List.map_cons, List.map_append, List.sum_cons, List.sum_append, foText, h1, h2]; omega
theorem sumTr (t : Tr) (d : Int) : sumT (spT d t) = trText t := by
  have h1 := sumF t.kids (d + 1)
  simp only [sumT] at h1
  simp only [spT, sumT, List.map_cons, List.sum_cons, h1, trText]
/-- A tree that is not too great. -/
def Tr.small (t : Tr) : Prop := foSize t.kids + 1 ≤ 250 ∧ trText t ≤ 20000
theorem small_enc {t : Tr} (h : t.small) : (encT t).length ≤ 28000 := by
  rw [encT_length]; have := h.1; have := h.2; omega
def GreatC (w : World) (t : Tr) (e : Ending) (w' : World) : Prop := ∃ b, e = .returned (.bool b) ∧ (b = false → t.small) ∧ Below w.heap.size w w'

set_option maxRecDepth 100000 in
set_option maxHeartbeats 1000000 in
theorem great_any (w : World) (S : Nat → Prop) (v : Value) (t : Tr) (hlen : foLen t.kids ≤ 9223372036854775807) (hfit : foFit t.kids) (hS : ∀ k, S k → k < w.heap.size) (hv : TrAt w S v t) :
    Calls Try.prog 6 #[v] w (GreatC w t) := by
  obtain ⟨ka, cap, rfl, hcp, hk⟩ := hv
  have hb : Below w.heap.size w (w.alloc (.cells #[.int .i64 t.id, .int .i64 t.kind, .string t.text, .slice ka (foLen t.kids) cap] 25)) := (Below.refl _ _).alloc (Nat.le_refl _) _
  have hc := walk_all (w.alloc (.cells #[.int .i64 t.id, .int .i64 t.kind, .string t.text, .slice ka (foLen t.kids) cap] 25)) S _ t hlen hfit (fun k hk => Nat.lt_of_lt_of_le (hS k hk) hb.size) ⟨ka, cap, rfl, hcp, hk.below hb hS⟩
  have HC := Lib.hid (And.intro hc hb)
  clear hc hb hk hfit hS hcp
  obtain ⟨len, hl⟩ : ∃ len, len = foLen t.kids := ⟨_, rfl⟩
  rw [← hl] at HC
  rw [← hl]
  clear hl
  go_enter Try.func6, Try.ntmps6
  go_wp2_with fail
  refine HC.out.1.mono ?_
  rintro e w2 ⟨a, n, cap', T, rfl, ⟨hT, xs, ho, hx⟩, hb2, hn, hn2⟩
  have HB : Hid (Below w.heap.size w w2) := show Below w.heap.size w w2 from HC.out.2.trans (hb2.mono HC.out.2.size)
  have HO := Lib.hid (And.intro ho (And.intro hx (And.intro hT hn)))
  clear hb2 hn ho hx hT
  go_wp2_with fail
  go_loop [4, 5, 10] (fun s _ i => ∃ k : Nat, k ≤ n ∧ i = .int .i64 k ∧ ∃ q : Nat, s = .int .i64 q ∧ q ≤ 20000 ∧ Hid (q = sumT (T.take k))) (fun _ _ i => n - (intOf i).toNat)
  case atStart => exact ⟨0, Nat.zero_le _, rfl, 0, rfl, by omega, Lib.hid (by simp [sumT])⟩
  case round =>
    obtain ⟨k, hk, rfl, q, rfl, hq, hqs⟩ := hrel
    by_cases hlt : k < n
    · obtain ⟨p, hp⟩ : ∃ p, T[k]? = some p := ⟨T[k]'(by have := HO.out.2.2.1; omega), List.getElem?_eq_getElem _⟩
      have hh := HO.out.2.1 k p hp
      have ho := HO.out.1
      have hgg : ∃ g, a = some ⟨g, 0, none⟩ := by
        rcases ho.2 with ⟨hv, h0⟩ | ⟨g, cap2, cur, hv, _⟩
        · omega
        · cases hv; exact ⟨g, rfl⟩
      obtain ⟨g, rfl⟩ := hgg
      have c2 : w2.cell? ⟨g, k * 5 + 2, none⟩ = some (.string p.1) := owns_cell ho rfl _ _ hh.1
      have HP := Lib.hid hp
      have hkl : (k : Int) < (n : Int) := by omega
      clear ho hh hp
      by_cases hbig : 20000 < q + p.1.size
      · have hbig2 : (20000 : Int) - (q : Int) < (p.1.size : Int) := by omega
        go_wp2_with fail
        go_ret
        exact ⟨true, rfl, (fun e => by cases e), HB.out⟩
      · have hbig2 : ¬ (20000 : Int) - (q : Int) < (p.1.size : Int) := by omega
        go_wp2_with fail
        exact ⟨⟨k + 1, by omega, by go_num, q + p.1.size, by go_num, by omega, Lib.hid (by rw [sumT_take T k p HP.out, ← hqs.out])⟩, by simp [intOf]; omega⟩
    · have hkl : ¬ (k : Int) < (n : Int) := by omega
      have hkn : k = n := by omega
      have HQ := Lib.hid (And.intro hkn hq)
      by_cases h250 : 250 < n
      · have h251 : (250 : Int) < (n : Int) := by omega
        clear hkn hq
        go_wp2_with fail
        go_ret
        exact ⟨true, rfl, (fun e => by cases e), HB.out⟩
      · have h251 : ¬ (250 : Int) < (n : Int) := by omega
        have HN := Lib.hid h250
        clear hkn hq h250
        go_wp2_with fail
        go_ret
        refine ⟨false, rfl, fun _ => ?_, HB.out⟩
        have h1 := HO.out.2.2
        have h2 := HN.out
        have h3 : T = spT 1 t := by
          rcases h1.2 with h | h
          · omega
          · exact h
        have h4 := hqs.out
        rw [HQ.out.1, ← h1.1, List.take_length, h3, sumTr] at h4
        refine ⟨?_, by have := HQ.out.2; omega⟩
        have h5 := h1.1
        rw [h3] at h5
        simp only [spT, List.length_cons, spF_length] at h5
        omega

def Stp.small (s : Stp) : Prop := s.sub.small ∧ s.text.size ≤ 20000
def Stp.fits (s : Stp) : Prop := foLen s.sub.kids ≤ 9223372036854775807 ∧ foFit s.sub.kids
def GreatSC (w : World) (l : List Stp) (e : Ending) (w' : World) : Prop := ∃ b, e = .returned (.bool b) ∧ (b = false → l.length ≤ 70 ∧ ∀ x ∈ l, x.small) ∧ Below w.heap.size w w'
theorem GreatSC.yes {w w' : World} {l : List Stp} (h : Below w.heap.size w w') : GreatSC w l (.returned (.bool true)) w' := ⟨true, rfl, (fun e => by cases e), h⟩
theorem take_mem {l : List Stp} {k : Nat} {x : Stp} (hx : l[k]? = some x) {P : Stp → Prop} (h : ∀ y ∈ l.take k, P y) (hp : P x) : ∀ y ∈ l.take (k + 1), P y := fun y hy => by
  rw [List.take_add_one, hx] at hy
  rcases List.mem_append.1 hy with hy | hy
  · exact h y hy
  · simp at hy; rw [hy]; exact hp

set_option maxRecDepth 100000 in
set_option maxHeartbeats 2000000 in
theorem greatSteps_any (w : World) (S : Nat → Prop) (a : Option Addr) (len cap : Nat) (l : List Stp) (hlen : len = l.length) (hlen2 : len ≤ 9223372036854775807) (hS : ∀ k, S k → k < w.heap.size) (h : StepsAt w S a l) (hft : ∀ x ∈ l, x.fits) :
    Calls Try.prog 7 #[.slice a len cap] w (GreatSC w l) := by
  have H := Lib.hid (And.intro hlen (And.intro hS (And.intro h hft)))
  clear hlen hS h hft
  by_cases hmany : 70 < len
  · have hm2 : (70 : Int) < (len : Int) := by omega
    go_enter Try.func7, Try.ntmps7
    go_wp2_with fail
    go_ret
    exact GreatSC.yes (Below.refl _ _)
  · have hm2 : ¬ (70 : Int) < (len : Int) := by omega
    have hm3 : len ≤ 70 := by omega
    clear hlen2 hmany
    go_enter Try.func7, Try.ntmps7
    go_wp2_with fail
    go_loopw [3, 4, 5, 11] (fun nd s _ i wr => ∃ k : Nat, k ≤ len ∧ i = .int .i64 k ∧ ∃ q m : Nat, s = .int .i64 q ∧ nd = .int .i64 m ∧ q ≤ 20000 ∧ m ≤ 300 ∧ Hid (Below w.heap.size w wr ∧ ∀ x ∈ l.take k, x.small)) (fun _ _ _ i _ => len - (intOf i).toNat)
    case atStart => exact ⟨0, Nat.zero_le _, rfl, 0, 0, rfl, rfl, by omega, by omega, Lib.hid ⟨Below.refl _ _, fun x hx => by simp at hx⟩⟩
    case round =>
      obtain ⟨k, hk, rfl, q, m, rfl, rfl, hq, hm, HB⟩ := hrel
      by_cases hlt : k < len
      · obtain ⟨x, hx⟩ : ∃ x, l[k]? = some x := ⟨l[k]'(by have := H.out.1; omega), List.getElem?_eq_getElem _⟩
        have hft := H.out.2.2.2 x (List.mem_of_getElem? hx)
        obtain ⟨b, off, rfl, hSb, hc⟩ := (H.out.2.2.1.kept (w' := wr) (S' := S) fun y hy => ⟨hy, HB.out.1.block y (H.out.2.1 y hy)⟩) (by have := H.out.1; omega)
        obtain ⟨ka, kcap, c0, c1, c2, c3, c4, c5, c6, c7, c8, hp, hf⟩ := hc k x hx
        have hSw : ∀ y, S y → y < wr.heap.size := fun y hy => Nat.lt_of_lt_of_le (H.out.2.1 y hy) HB.out.1.size
        have htr := great_any wr S (.agg #[.int .i64 x.sub.id, .int .i64 x.sub.kind, .string x.sub.text, .slice ka (foLen x.sub.kids) kcap]) x.sub hft.1 hft.2 hSw ⟨ka, kcap, rfl, hp, hf⟩
        have hwk := fun (w3 : World) (hb : Below wr.heap.size wr w3) => walk_all w3 S (.agg #[.int .i64 x.sub.id, .int .i64 x.sub.kind, .string x.sub.text, .slice ka (foLen x.sub.kids) kcap]) x.sub hft.1 hft.2 (fun y hy => Nat.lt_of_lt_of_le (hSw y hy) hb.size) ⟨ka, kcap, rfl, hp, hf.kept fun y hy => ⟨hy, hb.block y (hSw y hy)⟩⟩
        have hcl : ∀ o v, wr.cell? ⟨b, o, none⟩ = some v → b < wr.heap.size := fun o v hh => block_lt_of_cell hh
        have hblt := hcl _ _ c0
        have hkeep : ∀ (w3 : World), Below wr.heap.size wr w3 → ∀ o v, wr.cell? ⟨b, o, none⟩ = some v → w3.cell? ⟨b, o, none⟩ = some v := fun w3 hb o v hh => by rw [World.cell?_of_block (hb.block b hblt)]; exact hh
        obtain ⟨ml, hml⟩ : ∃ y, y = foLen x.sub.kids := ⟨_, rfl⟩
        rw [← hml] at htr hwk c8
        have HT := Lib.hid htr
        have HW := Lib.hid (And.intro hwk hkeep)
        have HX := Lib.hid (And.intro hx (And.intro c4 (And.intro c5 (And.intro c6 (And.intro c7 c8)))))
        have hkl : (k : Int) < (len : Int) := by omega
        clear htr hwk hkeep hml hf hp hc hx hft hSb hSw hcl hblt
        by_cases hbig : 20000 < q + x.text.size
        · have hbig2 : (20000 : Int) - (q : Int) < (x.text.size : Int) := by omega
          go_wp2_with (go_at_call 6; refine HT.out.mono ?_; clear HT; rintro e w3 ⟨bt, rfl, hbt, hb3⟩; have e4 := HW.out.2 w3 hb3 _ _ HX.out.2.1; have HB3 := Lib.hid (HB.out.1.trans (hb3.mono HB.out.1.size)); clear hbt hb3)
          all_goals
            go_ret
            exact GreatSC.yes HB3.out
        · have hbig2 : ¬ (20000 : Int) - (q : Int) < (x.text.size : Int) := by omega
          have hbig3 : q + x.text.size ≤ 20000 := by omega
          have HBG := Lib.hid hbig3
          clear hbig
          go_wp2_with (first
            | (go_at_call 6; refine HT.out.mono ?_; clear HT; rintro e w3 ⟨bt, rfl, hbt, hb3⟩; have e4 := HW.out.2 w3 hb3 _ _ HX.out.2.1; have e5 := HW.out.2 w3 hb3 _ _ HX.out.2.2.1; have e6 := HW.out.2 w3 hb3 _ _ HX.out.2.2.2.1; have e7 := HW.out.2 w3 hb3 _ _ HX.out.2.2.2.2.1; have e8 := HW.out.2 w3 hb3 _ _ HX.out.2.2.2.2.2; have HB3 := Lib.hid (And.intro (HB.out.1.trans (hb3.mono HB.out.1.size)) hbt); have HWK := Lib.hid (HW.out.1 w3 hb3); clear hbt hb3)
            | (go_at_call 35; refine HWK.out.mono ?_; clear HWK; rintro e w4 ⟨a4, n4, c4', T4, rfl, _, hb4, _, hn4⟩; have HB4 := Lib.hid (HB3.out.1.trans (hb4.mono HB3.out.1.size)); clear hb4))
          · go_ret
            exact GreatSC.yes HB3.out.1
          · go_ret
            exact GreatSC.yes HB4.out
          · have hsm : x.small := ⟨HB3.out.2 (by first | rfl | assumption | simp_all), by have := HBG.out; omega⟩
            exact ⟨⟨k + 1, by omega, by go_num, q + x.text.size, m + n4, by go_num, by go_num, by omega, by omega, Lib.hid ⟨HB4.out, take_mem HX.out.1 HB.out.2 hsm⟩⟩, by simp [intOf]; omega⟩
      · have hkl : ¬ (k : Int) < (len : Int) := by omega
        have hkn : k = len := by omega
        have HQ := Lib.hid hkn
        clear hkn
        go_wp2_with fail
        go_ret
        refine ⟨false, rfl, fun _ => ⟨by have := H.out.1; omega, ?_⟩, HB.out.1⟩
        have h1 := HB.out.2
        rw [HQ.out, H.out.1, List.take_length] at h1
        exact h1
end Go.Proofs.Ytljlijdgocfofaa
