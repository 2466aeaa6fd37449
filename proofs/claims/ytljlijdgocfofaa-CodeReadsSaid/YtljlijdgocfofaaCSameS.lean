/-
  What 'SameStep' and 'SameSteps' answer of what is the same; what was put and what is read of it lie in memory alike. No condition but that no row is longer than a slice may be.
-/
import Derived.Test.YtljlijdgocfofaaCSame
import Derived.Test.YtljlijdgocfofaaCFwdS
namespace Go.Proofs.Ytljlijdgocfofaa
open Go.RowKit

theorem foLen_nF : ∀ f : Fo, foLen (nF f) = foLen f
  | .nil => rfl
  | .node _ _ _ _ r => by simp [nF, foLen, foLen_nF r]
theorem FoAt.un {w : World} {S : Nat → Prop} : ∀ {f : Fo} {a : Option Addr}, FoAt w S (nF f) a → FoAt w S f a
  | .nil, _, _ => True.intro
  | .node _ _ k l r, a, h => by
    obtain ⟨b, off, ka, cap, e, hb, h0, h1, h2, h3, hc, hl, hr⟩ := h
    rw [foLen_nF] at h3 hc
    exact ⟨b, off, ka, cap, e, hb, h0, h1, h2, h3, hc, hl.un, hr.un⟩
theorem TrAt.un {w : World} {S : Nat → Prop} {v : Value} {t : Tr} (h : TrAt w S v (nT t)) : TrAt w S v t := by
  obtain ⟨ka, cap, e, hc, hk⟩ := h
  have el : foLen (nT t).kids = foLen t.kids := foLen_nF _
  rw [el] at e hc
  exact ⟨ka, cap, e, hc, hk.un⟩
theorem StepsAt.un {w : World} {S : Nat → Prop} {a : Option Addr} {l : List Stp} (h : StepsAt w S a (l.map nS)) : StepsAt w S a l := fun h0 => by
  obtain ⟨b, off, e, hb, hc⟩ := h (by rw [List.length_map]; exact h0)
  refine ⟨b, off, e, hb, fun k x hx => ?_⟩
  obtain ⟨ka, cap, c0, c1, c2, c3, c4, c5, c6, c7, c8, hp, hf⟩ := hc k (nS x) (by rw [List.getElem?_map, hx]; rfl)
  have el : foLen (nS x).sub.kids = foLen x.sub.kids := foLen_nF _
  rw [el] at c8 hp
  exact ⟨ka, cap, c0, c1, c2, c3, c4, c5, c6, c7, c8, hp, hf.un⟩

def YesC (w : World) (e : Ending) (w' : World) : Prop := e = .returned (.bool true) ∧ Below w.heap.size w w'
theorem same_yes (w : World) (S1 S2 : Nat → Prop) (v1 v2 : Value) (t : Tr) (hm : Fits t) (hS1 : ∀ k, S1 k → k < w.heap.size) (hS2 : ∀ k, S2 k → k < w.heap.size) (h1 : TrAt w S1 v1 t) (h2 : TrAt w S2 v2 t) :
    Calls Try.prog 27 #[v1, v2] w (YesC w) :=
  (same_any _ w S1 S2 v1 v2 t t (Nat.lt_succ_self _) hm hS1 hS2 h1 h2).mono fun _ _ h => ⟨by rw [h.1, sameT_refl], h.2⟩

set_option maxRecDepth 100000 in
set_option maxHeartbeats 1000000 in
theorem same_step (w : World) (S1 S2 : Nat → Prop) (v1 v2 : Value) (s : Stp) (hm : Fits s.sub) (hS1 : ∀ k, S1 k → k < w.heap.size) (hS2 : ∀ k, S2 k → k < w.heap.size) (h1 : StAt w S1 v1 s) (h2 : StAt w S2 v2 s) :
    Calls Try.prog 55 #[v1, v2] w (YesC w) := by
  obtain ⟨a1, n1, rfl, hp1, ht1⟩ := h1
  obtain ⟨a2, n2, rfl, hp2, ht2⟩ := h2
  have hcall := fun w' (hb : Below w.heap.size w w') => same_yes w' S1 S2 (.agg #[.int .i64 s.sub.id, .int .i64 s.sub.kind, .string s.sub.text, .slice a1 (foLen s.sub.kids) n1]) (.agg #[.int .i64 s.sub.id, .int .i64 s.sub.kind, .string s.sub.text, .slice a2 (foLen s.sub.kids) n2]) s.sub hm (fun k hk => Nat.lt_of_lt_of_le (hS1 k hk) hb.size) (fun k hk => Nat.lt_of_lt_of_le (hS2 k hk) hb.size) ⟨a1, n1, rfl, hp1, ht1.below hb hS1⟩ ⟨a2, n2, rfl, hp2, ht2.below hb hS2⟩
  have HC := Lib.hid hcall
  clear ht1 ht2 hp1 hp2
  clear hcall hm hS1 hS2
  go_enter Try.func55, Try.ntmps55
  go_wp2_with fail
  refine (HC.out _ (two_boxes _ _ _)).mono ?_
  rintro e w2 ⟨rfl, hb⟩
  have HB := Lib.hid ((two_boxes _ _ _).trans (hb.mono (two_boxes _ _ _).size))
  clear hb
  go_wp2_with fail
  go_ret
  exact ⟨rfl, HB.out⟩


set_option maxRecDepth 100000 in
set_option maxHeartbeats 1000000 in
theorem same_steps (w : World) (S1 S2 : Nat → Prop) (a1 a2 : Option Addr) (n1 n2 : Nat) (l : List Stp) (hl : l.length ≤ 9223372036854775807) (hm : ∀ s ∈ l, Fits s.sub) (hS1 : ∀ k, S1 k → k < w.heap.size) (hS2 : ∀ k, S2 k → k < w.heap.size) (h1 : StepsAt w S1 a1 l) (h2 : StepsAt w S2 a2 l) :
    Calls Try.prog 30 #[.slice a1 l.length n1, .slice a2 l.length n2] w (YesC w) := by
  obtain ⟨len, hlen⟩ : ∃ len, len = l.length := ⟨_, rfl⟩
  rw [← hlen]
  rw [← hlen] at hl
  have HL := Lib.hid hlen
  have HM := Lib.hid hm
  have HSS := Lib.hid (And.intro hS1 hS2)
  have HH := Lib.hid (And.intro h1 h2)
  clear hlen hm hS1 hS2 h1 h2
  go_enter Try.func30, Try.ntmps30
  go_wp2_with fail
  go_loopw [5] (fun i wr => ∃ k : Nat, k ≤ len ∧ i = .int .i64 k ∧ Below w.heap.size w wr) (fun i _ => len - (intOf i).toNat)
  case atStart => exact ⟨0, Nat.zero_le _, rfl, Below.refl _ _⟩
  case round =>
    obtain ⟨k, hk, rfl, hbel⟩ := hrel
    have HB := Lib.hid hbel
    clear hbel
    by_cases hlt : k < len
    · obtain ⟨x, hx⟩ : ∃ x, l[k]? = some x := ⟨l[k]'(by have := HL.out; omega), List.getElem?_eq_getElem _⟩
      obtain ⟨W, hW⟩ : ∃ W, W = wr.drew := ⟨_, rfl⟩
      have hW0 : Below w.heap.size w W := by rw [hW]; exact below_drewN HB.out 1
      obtain ⟨b, off, rfl, hSb, hc⟩ := (HH.out.1.kept (w' := W) (S' := S1) fun x hx => ⟨hx, hW0.block x (HSS.out.1 x hx)⟩) (by have := HL.out; omega)
      obtain ⟨b', off', rfl, hSb', hd⟩ := (HH.out.2.kept (w' := W) (S' := S2) fun x hx => ⟨hx, hW0.block x (HSS.out.2 x hx)⟩) (by have := HL.out; omega)
      obtain ⟨ka, cap, c0, c1, c2, c3, c4, c5, c6, c7, c8, hp, hf⟩ := hc k x hx
      obtain ⟨ka', cap', d0, d1, d2, d3, d4, d5, d6, d7, d8, hp', hf'⟩ := hd k x hx
      have hsz := hW0.size
      have hcall := same_step W S1 S2 (.agg #[.int .i8 x.op, .int .i64 x.id, .int .i64 x.parent, .int .i64 x.place, .string x.text, .int .i64 x.sub.id, .int .i64 x.sub.kind, .string x.sub.text, .slice ka (foLen x.sub.kids) cap]) (.agg #[.int .i8 x.op, .int .i64 x.id, .int .i64 x.parent, .int .i64 x.place, .string x.text, .int .i64 x.sub.id, .int .i64 x.sub.kind, .string x.sub.text, .slice ka' (foLen x.sub.kids) cap']) x (HM.out x (List.mem_of_getElem? hx)) (fun y hy => Nat.lt_of_lt_of_le (HSS.out.1 y hy) hsz) (fun y hy => Nat.lt_of_lt_of_le (HSS.out.2 y hy) hsz) ⟨ka, cap, rfl, hp, hf⟩ ⟨ka', cap', rfl, hp', hf'⟩
      obtain ⟨m1, hm1⟩ : ∃ m, m = foLen x.sub.kids := ⟨_, rfl⟩
      rw [← hm1] at hcall c8 d8
      have HC := Lib.hid hcall
      have HW := Lib.hid hW
      have HW0 := Lib.hid hW0
      have hkl : (k : Int) < (len : Int) := by omega
      clear hc hd hf hf' hp hp' hcall hm1 hW hW0 hsz hx hSb hSb'
      go_wp2_with fail
      have hdr : ({ heap := wr.heap, tape := wr.tape, drawn := wr.drawn + 1, os := wr.os, output := wr.output } : World) = W := HW.out.symm
      refine wp_region_still_tail 8 (by kernel_rfl) (by kernel_rfl) ?_
      simp only [List.take_succ_cons, List.take_zero, List.drop_succ_cons, List.drop_zero]
      rw [hdr]
      clear hdr
      repeat still_step
      try refine wpStill_nil ?_
      go_wp2_with (go_at_call 55; refine HC.out.mono ?_; rintro e w2 ⟨rfl, hb2⟩; have HB2 := Lib.hid hb2; clear hb2)
      exact ⟨⟨k + 1, by omega, by go_num, HW0.out.trans (HB2.out.mono HW0.out.size)⟩, by simp [intOf]; omega⟩
    · have hkl : ¬ (k : Int) < (len : Int) := by omega
      go_wp2_with fail
      go_ret
      exact ⟨rfl, HB.out⟩


end Go.Proofs.Ytljlijdgocfofaa
