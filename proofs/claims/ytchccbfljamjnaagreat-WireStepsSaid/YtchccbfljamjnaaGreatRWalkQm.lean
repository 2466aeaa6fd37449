/-
  .
-/
import Derived.Test.YtchccbfljamjnaaGreatGRiseQm
import Derived.Deep.AppendLies
import Derived.Test.YtchccbfljamjnaaGreatJPgQm
set_option maxRecDepth 100000
set_option maxHeartbeats 40000000
namespace Go.Proofs.YtchccbfljamjnaaGreat
open Go.RowKit
theorem Tryz.zaY : (Tryz.prog.info? 95).map (fun i => (i.size, i.bytes, i.zero.map (fun z => z.cells.size))) = some (5, 64, some 5) := by kernel_rfl
def qC (w : World) (B : Nat) (rv : Value) (n : Nat) : Prop := ∃ xs, w.ownsRow B 95 5 rv n xs ∧ ∀ i, i < n → ∃ d, xs[i * 5 + 4]? = some (.int .i64 d)
def qY (w w' : World) (rv rv' : Value) : Prop := w.grownBy w' rv.ownBlock ∧ (rv'.ownBlock = rv.ownBlock ∨ ∀ g, rv'.ownBlock = some g → w.heap.size < g)
def zbs (w : World) (B : Nat) (rv : Value) (n : Nat) (t : Tr) (e : Ending) (w' : World) : Prop :=
 ∃ rv' n', e = .returned rv' ∧ qC w' B rv' n' ∧ qY w w' rv rv' ∧ (2001 ≤ n' ∨ n' = n + zb t.kids + 1) ∧ n' ≤ 2001 ∧ n ≤ n'
theorem qC.bounds {w : World} {B : Nat} {rv : Value} {n : Nat} (h : qC w B rv n) {g : Nat} (hg : rv.ownBlock = some g) : B ≤ g ∧ g < w.heap.size := by
 obtain ⟨xs, ho, _⟩ := h
 exact zA ho hg
theorem qY.low {w wr : World} {B n : Nat} {rv l : Value} (h : qY w wr rv l) (hs : qC w B rv n) (hB : B ≤ w.heap.size) : ∀ k, k < B → wr.heap[k]? = w.heap[k]? := fun k hk =>
 h.1.block k (by omega) (fun e => by have := (hs.bounds e.symm).1; omega)
theorem qY.trans {w wr w2 : World} {rv l l2 : Value} (h : qY w wr rv l) (h2 : qY wr w2 l l2) : qY w w2 rv l2 := by
 have hs := h.1.size
 refine ⟨⟨h2.1.os.trans h.1.os, h2.1.tape.trans h.1.tape, h2.1.output.trans h.1.output, Nat.le_trans hs h2.1.size, fun k hk hn => ?_⟩, ?_⟩
 · rw [h2.1.block k (by omega) (fun e => ?_), h.1.block k hk hn]
   rcases h.2 with h' | h'
   · exact hn (e.trans h')
   · have := h' k e.symm; omega
 · rcases h2.2 with h' | h'
   · rw [h']; exact h.2
   · exact Or.inr fun g hg => by have := h' g hg; omega
theorem qY.box {w : World} {o : Obj} (rv : Value) : qY w (w.alloc o) rv rv := ⟨⟨rfl, rfl, rfl, by simp, fun k hk _ => Below.heap_alloc w o k hk⟩, Or.inl rfl⟩
theorem qY.first {w w1 : World} {o1 o2 : Obj} {rv : Value} {gg len cap : Nat} (h : ((w.alloc o1).alloc o2).grownBy w1 rv.ownBlock) (hat : rv.ownBlock = some gg ∨ gg = w.heap.size + 1 + 1) : qY w w1 rv (.slice (some ⟨gg, 0, none⟩) len cap) :=
 ⟨⟨h.os, h.tape, h.output, by have := h.size; simp at this; omega, fun k hk hn => by rw [h.block k (by simp; omega) hn, Below.heap_alloc _ _ _ (by simp; omega), Below.heap_alloc _ _ _ hk]⟩,
  hat.elim (fun e => Or.inl (by rw [e]; rfl)) (fun e => Or.inr fun g hg => by simp only [Value.ownBlock, Option.some.injEq] at hg; omega)⟩
theorem qC.box {w : World} {B : Nat} {rv : Value} {n : Nat} (h : qC w B rv n) (o : Obj) : qC (w.alloc o) B rv n := by
 obtain ⟨xs, ho, hx⟩ := h
 exact ⟨xs, ho.alloc o, hx⟩
theorem YZ {xs : List Value} {n : Nat} {a b c e : Value} {d : Int} (hl : xs.length = n * 5) (hx : ∀ i, i < n → ∃ d, xs[i * 5 + 4]? = some (.int .i64 d)) : ∀ i, i < n + 1 → ∃ d', (xs ++ [a, b, c, e, .int .i64 d])[i * 5 + 4]? = some (.int .i64 d') := fun i hi => by
 by_cases h : i < n
 · obtain ⟨d', h'⟩ := hx i h
   exact ⟨d', by rw [List.getElem?_append_left (by omega)]; exact h'⟩
 · have : i = n := by omega
   subst this
   exact ⟨d, by rw [List.getElem?_append_right (by omega), hl]; simp⟩
def Qt (w : World) (B : Nat) (rv : Value) (n : Nat) (c1 : Array Value) (ks : Fo) (len : Nat) (l i : Value) (wr : World) : Prop :=
 ∃ k nk, k ≤ len ∧ i = .int .i64 k ∧ qC wr B l nk ∧ qY w wr rv l ∧ (2001 ≤ nk ∨ nk = n + 1 + zb (zJ k ks)) ∧ nk ≤ 2001 ∧ n + 1 ≤ nk ∧ wr.heap[w.heap.size]? = some (.cells c1 35 (0, 0))
theorem Q6 : ∀ (m : Nat) (w : World) (S : Nat → Prop) (v : Value) (t : Tr) (B : Nat) (rv : Value) (n : Nat) (d : Int), zb t.kids < m → foLen t.kids ≤ 9223372036854775807 → qf t.kids → (∀ k, S k → k < B) → B ≤ w.heap.size → qj w S v t →
 qC w B rv n → n ≤ 2001 → 0 ≤ d → d ≤ (n : Int) + 1 →
 Calls Tryz.prog 87 #[rv, v, .int .i64 d, .int .i64 2001] w (zbs w B rv n t) := by
 intro m
 induction m with
 | zero => intro w S v t B rv n d h; omega
 | succ m ih =>
   intro w S v t B rv n d hm hlen2 hfit hS hB hv hrow hn hd0 hd1
   obtain ⟨ka, cap, rfl, hcp, hk⟩ := hv
   obtain ⟨id, kd, tx, ks⟩ := t
   simp only at hk hm hlen2 hfit
   simp only
   obtain ⟨xs, ho, hxs⟩ := hrow
   obtain ⟨ra, rcap, rfl⟩ := zO ho
   obtain ⟨len, hlen⟩ : ∃ len, len = foLen ks := ⟨_, rfl⟩
   rw [← hlen]
   rw [← hlen] at hlen2
   have HN := hH (aN hm hfit)
   have HLEN := hH hlen
   have HK := hH hk
   have HSS := hH (aN hS hB)
   have HIH := hH ih
   have HO := hH (aN ho hxs)
   clear hlen hk hm hfit hS hB ih ho hxs
   by_cases hfull : 2001 ≤ n
   · have hn2 : n = 2001 := by omega
     subst hn2
     go_enter Tryz.func87, Tryz.ntmps87
     go_wp2_with fail
     go_ret
     exact ⟨_, 2001, rfl, (show qC w B _ 2001 from ⟨xs, HO.out⟩).box _, qY.box _, Or.inl hfull, by omega, by omega⟩
   · have hnn : ¬ (2001 : Int) ≤ (n : Int) := by omega
     go_enter Tryz.func87, Tryz.ntmps87
     obtain ⟨i0, z0, hi0, hz0, hz1, hz2, hz3⟩ := yI Tryz.zaY
     have hnew : ((w.alloc (.cells #[.int .i64 id, .int .i64 kd, .string tx, .slice ka len cap] 35)).alloc (.cells #[.int .i64 id, .int .i64 kd, .string tx, .slice ka len cap, .int .i64 d] 95)).heap[w.heap.size + 1]? = some (.cells #[.int .i64 id, .int .i64 kd, .string tx, .slice ka len cap, .int .i64 d] 95 (0, 0)) := heap_alloc2_new w _ _
     have HNEW := hH hnew
     have hBw : B ≤ w.heap.size := HSS.out.2
     clear hnew
     go_wp2_with (at_builtin; refine wpList_append_lies _ rfl (.tmp 15) (.tmp 19) _ rfl B 95 i0 z0 5 64 Tryz.underlying53 hi0 hz0 hz1 hz2 hz3 (by omega) (.slice ra n rcap) n xs rfl ((HO.out.1.alloc _).alloc _) ⟨w.heap.size + 1, 0, none⟩ 1 1 [.int .i64 id, .int .i64 kd, .string tx, .slice ka len cap, .int .i64 d] rfl rfl (World.news_of_block (cs := #[.int .i64 id, .int .i64 kd, .string tx, .slice ka len cap, .int .i64 d]) (t := 95) (fr := (0, 0)) HNEW.out) (by simp [Value.oneCell']) (by omega) (by unfold maxLen; omega) (by omega) (by simp; omega) (w.heap.size + 1 + 1) (by simp) ?_; intro gg cap' w1 hown1 hgrow hat hlt1)
     have hg1 : qY w w1 (.slice ra n rcap) (.slice (some ⟨gg, 0, none⟩) (n + 1) cap') := qY.first hgrow hat
     have hsp1 : qC w1 B (.slice (some ⟨gg, 0, none⟩) (n + 1) cap') (n + 1) := ⟨_, hown1, YZ HO.out.1.1 HO.out.2⟩
     have hob : ∀ g, (Value.slice ra n rcap).ownBlock = some g → g < w.heap.size := fun g hg => (zA HO.out.1 hg).2
     have hbox : w1.heap[w.heap.size]? = some (.cells #[.int .i64 id, .int .i64 kd, .string tx, .slice ka len cap] 35 (0, 0)) := by
      rw [hgrow.block _ (by simp; omega) (fun e => by have := hob _ e.symm; omega)]; exact heap_alloc2_old w _ _
     have HG := hH (aN hg1 (aN hsp1 (aN hob hbox)))
     clear hg1 hsp1 hob hbox hgrow hown1 hat
     go_loopw [0, 9] (fun l i wr => Qt w B (.slice ra n rcap) n #[.int .i64 id, .int .i64 kd, .string tx, .slice ka len cap] ks len l i wr) (fun _ i _ => len - (intOf i).toNat)
     case atStart => exact ⟨0, n + 1, Nat.zero_le _, rfl, HG.out.2.1, HG.out.1, Or.inr rfl, by omega, Nat.le_refl _, HG.out.2.2.2⟩
     case round =>
      obtain ⟨k, nk, hk, rfl, hsp, hgr, hnk, hnk2, hnk3, hbx⟩ := hrel
      have p1 : wr.cell? ⟨w.heap.size, 3, none⟩ = some (.slice ka len cap) := by rw [cell_of_row wr _ 3 _ _ _ hbx]; rfl
      have HR := hH (aN hsp (aN hgr (aN hnk hbx)))
      clear hsp hgr hnk hbx
      by_cases hlt : k < len
      · have hlow := HR.out.2.1.low ⟨xs, HO.out⟩ hBw
        have hk1 : zi wr S ks ka := HK.out.kept fun x hx => ⟨hx, hlow x (HSS.out.1 x hx)⟩
        obtain ⟨b0, o0, ⟨ki, kk, kt⟩, l', r, hd1', b, off, a1, n1, rfl, hSb, c0, c1, c2, c3, hc1, hl1⟩ := hk1.at k (by rw [← HLEN.out]; exact hlt)
        obtain ⟨_, _, _, _, _, e1, e2, hsz1, htk⟩ := zR k ks (by rw [← HLEN.out]; exact hlt)
        rw [hd1'] at e1; cases e1
        have hft := vk k HN.out.2 hd1'
        have hcall := HIH.out wr S (.agg #[.int .i64 ki, .int .i64 kk, .string kt, .slice a1 (foLen l') n1]) ⟨ki, kk, kt, l'⟩ B u0 nk (d + 1) (by have := HN.out.1; simp only; omega) hft.1 hft.2 HSS.out.1 (Nat.le_trans hBw HR.out.2.1.1.size) ⟨a1, n1, rfl, hc1, hl1⟩ HR.out.1 hnk2 (by omega) (by omega)
        obtain ⟨m1, hm1⟩ : ∃ m, m = foLen l' := ⟨_, rfl⟩
        rw [← hm1] at hcall c3
        simp only at c0 c1 c2
        have HC := hH hcall
        have htk2 : zb (zJ (k + 1) ks) = zb (zJ k ks) + zb l' + 1 := by rw [htk, jf]
        have HTK := hH htk2
        have hkl : (k : Int) < (len : Int) := by omega
        clear hk1 hlow hd1' hcall hm1 htk htk2 hl1 hc1 hsz1 hSb e2 hft
        go_wp2_with fail
        refine HC.out.mono ?_
        rintro e w2 ⟨l2, n2, rfl, hsp2, hg2, hn2, hn22, hn23⟩
        have HE := hH (aN hsp2 (aN hg2 hn2))
        clear hsp2 hg2 hn2
        go_wp2_with fail
        have hne : some w.heap.size ≠ u0.ownBlock := fun e => by
         rcases HR.out.2.1.2 with h | h
         · have := HG.out.2.2.1 _ (h.symm.trans e.symm); omega
         · have := h _ e.symm; omega
        exact ⟨⟨k + 1, n2, by omega, by go_num, HE.out.1, HR.out.2.1.trans HE.out.2.1, by
         have h1 := HR.out.2.2.1
         have h2 : 2001 ≤ n2 ∨ n2 = nk + zb l' + 1 := HE.out.2.2
         have h3 := HTK.out
         omega, hn22, by omega, (HE.out.2.1.1.block _ (lt_of_some HR.out.2.2.2) hne).trans HR.out.2.2.2⟩, by simp [intOf]; omega⟩
      · have hkk : k = len := by omega
        have HKK := hH hkk
        clear hkk
        go_wp2_with fail
        go_ret
        exact ⟨_, nk, rfl, HR.out.1, HR.out.2.1, by
         rcases HR.out.2.2.1 with h | h
         · exact Or.inl h
         · right
           rw [qx k ks (by rw [HKK.out, HLEN.out]; exact Nat.le_refl _)] at h
           show nk = n + zb ks + 1; omega, hnk2, by omega⟩
end Go.Proofs.YtchccbfljamjnaaGreat
