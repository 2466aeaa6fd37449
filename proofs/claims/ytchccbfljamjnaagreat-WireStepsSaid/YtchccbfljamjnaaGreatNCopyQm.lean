/-
  .
-/
import Derived.Deep.Cut
import Derived.Deep.AppendLies
import Derived.Test.YtchccbfljamjnaaGreatGRiseQm
import Derived.Test.YtchccbfljamjnaaGreatELoneQm
import Derived.Test.YtchccbfljamjnaaGreatJPgQm
set_option maxRecDepth 100000
set_option maxHeartbeats 40000000
namespace Go.Proofs.YtchccbfljamjnaaGreat
open Go.RowKit Go.Shelf
set_option linter.unusedVariables false
set_option linter.unusedSimpArgs false
def Ji (w w' : World) : Nat → Prop := fun x => w.heap.size ≤ x ∧ x < w'.heap.size
def Jl (t : Tr) (w : World) (e : Ending) (w' : World) : Prop := ∃ v, e = .returned v ∧ qj w' (Ji w w') v t ∧ Below w.heap.size w w'
def jB (t : Tr) (w : World) (e : Ending) (w' : World) : Prop := ∃ ra rc xs, e = .returned (.agg #[.int .i64 t.id, .int .i64 t.kind, .string t.text, .slice ra (foLen t.kids) rc]) ∧ foLen t.kids ≤ rc ∧ w'.ownsRow w.heap.size 35 4 (.slice ra (foLen t.kids) rc) (foLen t.kids) xs ∧ yG w' (fun x => Ji w w' x ∧ (Value.slice ra (foLen t.kids) rc).ownBlock ≠ some x) t.kids xs ∧ Below w.heap.size w w'
theorem zaV {w' : World} {B n rc : Nat} {S : Nat → Prop} {ra : Option Addr} {ks : Fo} {xs : List Value} (hn : n = foLen ks) (h : w'.ownsRow B 35 4 (.slice ra n rc) n xs) (hr : yG w' S ks xs) (hg : ∀ x, (Value.slice ra n rc).ownBlock = some x → S x) : zi w' S ks ra := by
 cases hks : ks with
 | nil => exact True.intro
 | node b o a l r =>
   rw [← hks]
   have hgg : ∃ g, ra = some ⟨g, 0, none⟩ := by
    rcases h.2 with ⟨hv, h0⟩ | ⟨g, cap, cur, hv, _⟩
    · rw [hn, hks] at h0; simp [foLen] at h0
    · cases hv; exact ⟨g, rfl⟩
   obtain ⟨g, rfl⟩ := hgg
   refine hr.lies (hg g rfl) 0 fun j u hj => ?_
   rw [Nat.zero_add]
   exact zK h rfl j u hj
theorem jB.weak {t : Tr} {w : World} {e : Ending} {w' : World} (h : jB t w e w') : Jl t w e w' := by
 obtain ⟨ra, rc, xs, rfl, hrc, ho, hr, hb⟩ := h
 exact ⟨_, rfl, ⟨ra, rc, rfl, hrc, zaV rfl ho (hr.kept fun x hx => ⟨hx.1, rfl⟩) (fun x hx => zA ho hx)⟩, hb⟩
theorem zbk {w : World} {b : Nat} {t : TypeId} {c0 c1 c2 c3 : Value} (h : w.heap[b]? = some (.cells #[c0, c1, c2, c3] t (0, 0))) (u0 u1 u2 u3 : Value) :
 ((((w.setCell ⟨b, 0, none⟩ u0).setCell ⟨b, 1, none⟩ u1).setCell ⟨b, 2, none⟩ u2).setCell ⟨b, 3, none⟩ u3).heap[b]? = some (.cells #[u0, u1, u2, u3] t (0, 0)) ∧
 (∀ B, B ≤ b → Below B w ((((w.setCell ⟨b, 0, none⟩ u0).setCell ⟨b, 1, none⟩ u1).setCell ⟨b, 2, none⟩ u2).setCell ⟨b, 3, none⟩ u3)) ∧
 ∀ x, x ≠ b → ((((w.setCell ⟨b, 0, none⟩ u0).setCell ⟨b, 1, none⟩ u1).setCell ⟨b, 2, none⟩ u2).setCell ⟨b, 3, none⟩ u3).heap[x]? = w.heap[x]? := by
 have h0 := heap_setCell_same w b 0 _ _ u0 h
 have h1 := heap_setCell_same _ b 1 _ _ u1 h0
 have h2 := heap_setCell_same _ b 2 _ _ u2 h1
 have h3 := heap_setCell_same _ b 3 _ _ u3 h2
 exact ⟨h3, fun B hB => ((((Below.refl _ _).setCell hB _).setCell hB _).setCell hB _).setCell hB _, fun x hx => by
  rw [Below.heap_setCell _ _ _ _ hx, Below.heap_setCell _ _ _ _ hx, Below.heap_setCell _ _ _ _ hx, Below.heap_setCell _ _ _ _ hx]⟩
theorem jV {w : World} {B : Nat} {e : TypeId} {size : Nat} {v : Value} {n : Nat} {xs : List Value} (h : w.ownsRow B e size v n xs) : ∃ a cap, v = .slice a n cap ∧ n ≤ cap := by
 rcases h.2 with ⟨hv, h0⟩ | ⟨g', cap, cur, hv, _, _, hc, _⟩
 · exact ⟨none, 0, by rw [hv, h0], by omega⟩
 · exact ⟨_, _, hv, hc⟩
def Jm (w wr : World) (rv : Value) : Nat → Prop := fun x => w.heap.size + 3 ≤ x ∧ x < wr.heap.size ∧ rv.ownBlock ≠ some x
def zM (w : World) (c1 : Array Value) (id kd : Int) (tx : ByteArray) (ks : Fo) (k : Nat) (rv : Value) (xs : List Value) (wr : World) : Prop :=
 wr.heap[w.heap.size]? = some (.cells c1 35 (0, 0)) ∧ wr.heap[w.heap.size + 1]? = some (.cells #[.int .i64 0, .int .i64 0, .string ⟨#[]⟩, .slice none 0 0] 35 (0, 0)) ∧
 wr.heap[w.heap.size + 1 + 1]? = some (.cells #[.int .i64 id, .int .i64 kd, .string tx, rv] 35 (0, 0)) ∧ Below w.heap.size w wr ∧
 wr.ownsRow (w.heap.size + 3) 35 4 rv k xs ∧ yG wr (Jm w wr rv) (zJ k ks) xs
def Yr (w : World) (c1 : Array Value) (id kd : Int) (tx : ByteArray) (ks : Fo) (len : Nat) (i : Value) (wr : World) : Prop :=
 ∃ k rv xs, k ≤ len ∧ i = .int .i64 k ∧ zM w c1 id kd tx ks k rv xs wr
section
variable {w wr w2 : World} {c1 : Array Value} {id kd : Int} {tx : ByteArray} {ks : Fo} {k : Nat} {rv : Value} {xs : List Value}
theorem zM.start (w : World) (c1 : Array Value) (id kd : Int) (tx : ByteArray) (ks : Fo) : zM w c1 id kd tx ks 0 (.slice none 0 0) []
 (((w.alloc (.cells c1 35)).alloc (.cells #[.int .i64 0, .int .i64 0, .string ⟨#[]⟩, .slice none 0 0] 35)).alloc (.cells #[.int .i64 id, .int .i64 kd, .string tx, .slice none 0 0] 35)) := by
 refine ⟨?_, ?_, ?_, ?_, World.ownsRow_nil _ _ _ _, rfl⟩
 · rw [Below.heap_alloc _ _ _ (by simp; omega), Below.heap_alloc _ _ _ (by simp)]; exact heap_alloc_new w _
 · rw [Below.heap_alloc _ _ _ (by simp)]
   have := heap_alloc_new (w.alloc (.cells c1 35)) (.cells #[.int .i64 0, .int .i64 0, .string ⟨#[]⟩, .slice none 0 0] 35)
   simpa using this
 · have := heap_alloc_new ((w.alloc (.cells c1 35)).alloc (.cells #[.int .i64 0, .int .i64 0, .string ⟨#[]⟩, .slice none 0 0] 35)) (.cells #[.int .i64 id, .int .i64 kd, .string tx, .slice none 0 0] 35)
   simpa using this
 · exact (((Below.refl _ _).alloc (Nat.le_refl _) _).alloc (by simp) _).alloc (by simp; omega) _
theorem zM.size (h : zM w c1 id kd tx ks k rv xs wr) : w.heap.size + 1 + 1 < wr.heap.size := lt_of_some h.2.2.1
theorem zM.below (h : zM w c1 id kd tx ks k rv xs wr) (hb : Below wr.heap.size wr w2) : zM w c1 id kd tx ks k rv xs w2 := by
 have hs := h.size
 obtain ⟨h0, h1, h2, h3, h4, h5⟩ := h
 refine ⟨(hb.block _ (by omega)).trans h0, (hb.block _ (by omega)).trans h1, (hb.block _ (by omega)).trans h2, h3.trans (hb.mono (by omega)), zw h4 (fun g cur hg _ => hb.block g (lt_of_some hg)), h5.kept fun x hx => ⟨⟨hx.1, nL hx.2.1 hb.size, hx.2.2⟩, hb.block x hx.2.1⟩⟩
theorem zM.kid (h : zM w c1 id kd tx ks k rv xs wr) {l : Fo} {ka : Option Addr} (hf : zi w2 (Ji wr w2) l ka) : zi w2 (Jm w w2 rv) l ka := hf.kept fun x hx => by
 have hs := h.size
 refine ⟨⟨by have := hx.1; omega, hx.2, fun e => ?_⟩, rfl⟩
 have := (zA h.2.2.2.2.1 e).2
 have := hx.1
 omega
theorem zM.step {w1 : World} {o1 o2 : Obj} {b o : Nat} {ki kk : Int} {kt : ByteArray} {l : Fo} {ka : Option Addr} {kc gg cap : Nat} (hkc : foLen l ≤ kc) (h : zM w c1 id kd tx ks k rv xs w2) (hl : zi w2 (Jm w w2 rv) l ka) (ht : zJ (k + 1) ks = yY (zJ k ks) b o (ki, kk, kt) l)
 (hown : w1.ownsRow (w.heap.size + 3) 35 4 (.slice (some ⟨gg, 0, none⟩) (k + 1) cap) (k + 1) (xs ++ [.int .i64 ki, .int .i64 kk, .string kt, .slice ka (foLen l) kc]))
 (hgrow : ((w2.alloc o1).alloc o2).grownBy w1 rv.ownBlock) (hat : rv.ownBlock = some gg ∨ gg = w2.heap.size + 1 + 1) :
 zM w c1 id kd tx ks (k + 1) (.slice (some ⟨gg, 0, none⟩) (k + 1) cap) (xs ++ [.int .i64 ki, .int .i64 kk, .string kt, .slice ka (foLen l) kc]) (w1.setCell ⟨w.heap.size + 1 + 1, 3, none⟩ (.slice (some ⟨gg, 0, none⟩) (k + 1) cap)) := by
 have hs := h.size
 obtain ⟨h0, h1, h2, h3, h4, h5⟩ := h
 have hob : ∀ g, rv.ownBlock = some g → w.heap.size + 3 ≤ g ∧ g < w2.heap.size := fun g hg => zA h4 hg
 have old : ∀ x, x < w2.heap.size → rv.ownBlock ≠ some x → w1.heap[x]? = w2.heap[x]? := fun x hx hn => by
  rw [hgrow.block x (by simp; omega) (fun e => hn e.symm), Below.heap_alloc _ _ _ (by simp; omega), Below.heap_alloc _ _ _ hx]
 have nob : ∀ x, x < w.heap.size + 3 → rv.ownBlock ≠ some x := fun x hx e => by have := (hob x e).1; omega
 have hgs : w2.heap.size ≤ w1.heap.size := by have := hgrow.size; simp at this; omega
 have hgg : gg ≠ w.heap.size + 1 + 1 := fun e => by
  rcases hat with hat | hat
  · have := (hob gg hat).1; omega
  · omega
 have hout : w1.heap[w.heap.size + 1 + 1]? = some (.cells #[.int .i64 id, .int .i64 kd, .string tx, rv] 35 (0, 0)) := (old _ hs (nob _ (by omega))).trans h2
 have keep : ∀ x, x < w2.heap.size → rv.ownBlock ≠ some x → x ≠ w.heap.size + 1 + 1 → (w1.setCell ⟨w.heap.size + 1 + 1, 3, none⟩ (.slice (some ⟨gg, 0, none⟩) (k + 1) cap)).heap[x]? = w2.heap[x]? := fun x hx hn hne => by
  rw [Below.heap_setCell _ _ _ _ hne]; exact old x hx hn
 have hmid : ∀ x, Jm w w2 rv x → Jm w (w1.setCell ⟨w.heap.size + 1 + 1, 3, none⟩ (.slice (some ⟨gg, 0, none⟩) (k + 1) cap)) (.slice (some ⟨gg, 0, none⟩) (k + 1) cap) x ∧ (w1.setCell ⟨w.heap.size + 1 + 1, 3, none⟩ (.slice (some ⟨gg, 0, none⟩) (k + 1) cap)).heap[x]? = w2.heap[x]? := fun x hx => by
  refine ⟨⟨hx.1, by simp [World.setCell]; have := hx.2.1; omega, fun e => ?_⟩, keep x hx.2.1 hx.2.2 (by have := hx.1; omega)⟩
  simp only [Value.ownBlock, Option.some.injEq] at e
  rcases hat with hat | hat
  · exact hx.2.2 (by rw [hat, e])
  · have := hx.2.1; omega
 refine ⟨(keep _ (by omega) (nob _ (by omega)) (by omega)).trans h0, (keep _ (by omega) (nob _ (by omega)) (by omega)).trans h1, ?_, ?_, ?_, ?_⟩
 · rw [heap_setCell_same w1 _ 3 _ _ _ hout]; rfl
 · have hB : Below w.heap.size w ((w2.alloc o1).alloc o2) := (h3.alloc (by omega) _).alloc (by simp; omega) _
   exact (hB.grown hgrow (by simp; omega) (fun g hg => by have := (hob g hg).1; omega)).setCell (by simp; omega) _
 · exact zw hown (fun g cur hg hgo => Below.heap_setCell _ _ _ _ (fun e => hgg (by cases hgo; exact e)))
 · rw [ht]
   exact (h5.kept hmid).snoc (hl.kept hmid) kc hkc
theorem zM.done {w' : World} {ra : Option Addr} {rcap : Nat} (h : zM w c1 id kd tx ks k (.slice ra k rcap) xs wr) (hk : k = foLen ks) (hrc : k ≤ rcap) (hb : Below w.heap.size wr w') (ho : ∀ x, x ≠ w.heap.size + 1 → w'.heap[x]? = wr.heap[x]?) :
 jB ⟨id, kd, tx, ks⟩ w (.returned (.agg #[.int .i64 id, .int .i64 kd, .string tx, .slice ra k rcap])) w' := by
 obtain ⟨_, _, _, h3, h4, h5⟩ := h
 rw [qx k ks (by omega)] at h5
 refine ⟨ra, rcap, xs, by rw [← hk], by simp only; rw [← hk]; exact hrc, ?_, ?_, h3.trans hb⟩
 · simp only; rw [← hk]
   have h6 := zw (w' := w') h4 (fun g cur hg hgo => ho g (by have := (zA h4 hgo).1; omega))
   exact ⟨h6.1, h6.2.imp (fun h => h) (fun ⟨g, cap, cur, e1, e2, e3⟩ => ⟨g, cap, cur, e1, by omega, e3⟩)⟩
 · simp only; rw [← hk]
   exact h5.kept fun x hx => ⟨⟨⟨by have := hx.1; omega, nL hx.2.1 hb.size⟩, hx.2.2⟩, ho x (by have := hx.1; omega)⟩
end
theorem YU : ∀ (n : Nat) (w : World) (S : Nat → Prop) (v : Value) (t : Tr), zb t.kids < n → zb t.kids ≤ 1000000 → (∀ k, S k → k < w.heap.size) → qj w S v t →
 Calls Tryz.prog 113 #[v] w (jB t w) := by
 intro n
 induction n with
 | zero => intro w S v t h; omega
 | succ n ih =>
   intro w S v t hn hm hS hv
   obtain ⟨ka, cap, rfl, hcp0, hk⟩ := hv
   obtain ⟨id, kd, tx, ks⟩ := t
   simp only at hk hn hm
   simp only
   obtain ⟨len, hlen⟩ : ∃ len, len = foLen ks := ⟨_, rfl⟩
   rw [← hlen]
   have hlen6 : len ≤ 1000000 := by rw [hlen]; exact Nat.le_trans (yN ks) hm
   have HN := hH (aN hn hm)
   have HLEN := hH hlen
   have HK := hH hk
   clear hcp0
   have HSS := hH hS
   have HIH := hH ih
   clear hlen hk hn hm hS ih
   go_enter Tryz.func113, Tryz.ntmps113
   go_wp2_with fail
   go_loopw [4] (fun i wr => Yr w #[.int .i64 id, .int .i64 kd, .string tx, .slice ka len cap] id kd tx ks len i wr) (fun i _ => len - (intOf i).toNat)
   case atStart => exact ⟨0, _, _, Nat.zero_le _, rfl, zM.start _ _ _ _ _ _⟩
   case round =>
    obtain ⟨k, rv, xs, hk, rfl, hinv⟩ := hrel
    have p1 : wr.cell? ⟨w.heap.size, 3, none⟩ = some (.slice ka len cap) := by rw [cell_of_row wr _ 3 _ _ _ hinv.1]; rfl
    have HI := hH hinv
    clear hinv
    by_cases hlt : k < len
    · have hk1 := HK.out.below HI.out.2.2.2.1 HSS.out
      obtain ⟨b0, o0, ⟨ki, kk, kt⟩, l, r, hd1, b, off, a1, n1, rfl, hSb, c0, c1, c2, c3, hcp1, hl1⟩ := hk1.at k (by rw [← HLEN.out]; exact hlt)
      obtain ⟨_, _, _, _, _, e1, e2, hsz1, htk⟩ := zR k ks (by rw [← HLEN.out]; exact hlt)
      rw [hd1] at e1; cases e1
      have hcall := HIH.out wr S (.agg #[.int .i64 ki, .int .i64 kk, .string kt, .slice a1 (foLen l) n1]) ⟨ki, kk, kt, l⟩ (by have := HN.out.1; simp only; omega) (by have := HN.out.2; simp only; omega) (fun x hx => nL (HSS.out x hx) HI.out.2.2.2.1.size) ⟨a1, n1, rfl, hcp1, hl1⟩
      obtain ⟨m1, hm1⟩ : ∃ m, m = foLen l := ⟨_, rfl⟩
      rw [← hm1] at hcall c3
      simp only at c0 c1 c2
      have HC := hH hcall
      have HM1 := hH hm1
      have HTK := hH htk
      have hkl : (k : Int) < (len : Int) := by omega
      clear hk1 hd1 hcall hm1 htk hl1 hsz1 hSb e2 hcp1
      go_wp2_with fail
      refine (HC.out.mono fun _ _ h => jB.weak h).mono ?_
      rintro e w2 ⟨_, rfl, ⟨ka2, cap2, rfl, hcp2, hf2⟩, hb2⟩
      have hi2 := HI.out.below hb2
      have hkid := HI.out.kid hf2
      have hs2 := hi2.size
      have ho := hi2.2.2.2.2.1
      simp only
      rw [← HM1.out]
      have d3 : w2.cell? ⟨w.heap.size + 1 + 1, 3, none⟩ = some rv := by rw [cell_of_row w2 _ 3 _ _ _ hi2.2.2.1]; rfl
      have f3 : w2.frozen? ⟨w.heap.size + 1 + 1, 3, none⟩ = false := frozen_of_row w2 _ 3 _ _ hi2.2.2.1
      obtain ⟨i0, z0, hi0, hz0, hz1, hz2, hz3⟩ := yI Tryz.zaG
      have hnew : (((w2.alloc (.cells #[.int .i64 ki, .int .i64 kk, .string kt, .slice ka2 m1 cap2] 35)).alloc (.cells #[.int .i64 ki, .int .i64 kk, .string kt, .slice ka2 m1 cap2] 35)).heap[w2.heap.size + 1]? = some (.cells #[.int .i64 ki, .int .i64 kk, .string kt, .slice ka2 m1 cap2] 35 (0, 0))) := by
       have := heap_alloc_new (w2.alloc (.cells #[.int .i64 ki, .int .i64 kk, .string kt, .slice ka2 m1 cap2] 35)) (.cells #[.int .i64 ki, .int .i64 kk, .string kt, .slice ka2 m1 cap2] 35)
       simpa using this
      have HNEW := hH hnew
      clear hnew
      have hB : w.heap.size + 3 ≤ w2.heap.size := hs2
      have hstep := fun w1 gg cap' h1 h2 h3 => hi2.step (hkc := hcp2) (w1 := w1) (gg := gg) (cap := cap') (kc := cap2) (o1 := .cells #[.int .i64 ki, .int .i64 kk, .string kt, .slice ka2 m1 cap2] 35) (o2 := .cells #[.int .i64 ki, .int .i64 kk, .string kt, .slice ka2 m1 cap2] 35) hkid HTK.out h1 h2 h3
      rw [← HM1.out] at hstep
      have HST := hH hstep
      have hne : rv.ownBlock ≠ some (w.heap.size + 1 + 1) := fun e => by have := (zA ho e).1; omega
      have hlt2 : (⟨w.heap.size + 1 + 1, 3, none⟩ : Addr).block < ((w2.alloc (.cells #[.int .i64 ki, .int .i64 kk, .string kt, .slice ka2 m1 cap2] 35)).alloc (.cells #[.int .i64 ki, .int .i64 kk, .string kt, .slice ka2 m1 cap2] 35)).heap.size := by simp; omega
      have hheap : ((w2.alloc (.cells #[.int .i64 ki, .int .i64 kk, .string kt, .slice ka2 m1 cap2] 35)).alloc (.cells #[.int .i64 ki, .int .i64 kk, .string kt, .slice ka2 m1 cap2] 35)).heap[w.heap.size + 1 + 1]? = w2.heap[w.heap.size + 1 + 1]? := by rw [Below.heap_alloc _ _ _ (by simp; omega), Below.heap_alloc _ _ _ hs2]
      have HAUX := hH (aN hne (aN hlt2 (aN ((World.cell?_of_block (a := ⟨w.heap.size + 1 + 1, 3, none⟩) hheap).trans d3) ((World.frozen?_of_block (a := ⟨w.heap.size + 1 + 1, 3, none⟩) hheap).trans f3))))
      clear hi2 hkid hf2 hb2 hstep hne hlt2 hheap f3 hcp2
      go_wp2_with (at_builtin; refine wpList_append_lies _ rfl (.tmp 27) (.tmp 29) _ rfl (w.heap.size + 3) 35 i0 z0 4 56 Tryz.underlying33 hi0 hz0 hz1 hz2 hz3 (by omega) rv k xs rfl ((ho.alloc _).alloc _) ⟨w2.heap.size + 1, 0, none⟩ 1 1 [.int .i64 ki, .int .i64 kk, .string kt, .slice ka2 m1 cap2] rfl rfl (World.news_of_block (cs := #[.int .i64 ki, .int .i64 kk, .string kt, .slice ka2 m1 cap2]) (t := 35) (fr := (0, 0)) HNEW.out) (by simp [Value.oneCell']) (by omega) (by unfold maxLen; omega) (by omega) (by simp; omega) (w2.heap.size + 1 + 1) (by simp) ?_; intro gg cap' w1 hown1 hgrow hat hlt1; have c1w := (hgrow.cell_far _ HAUX.out.2.1 (Ne.symm HAUX.out.1)).trans HAUX.out.2.2.1; have f1w := (hgrow.frozen_far _ HAUX.out.2.1 (Ne.symm HAUX.out.1)).trans HAUX.out.2.2.2)
      exact ⟨⟨k + 1, _, _, by omega, by go_num, HST.out _ _ _ hown1 hgrow hat⟩, by simp [intOf]; omega⟩
    · have hkk : k = len := by omega
      have hi := HI.out
      obtain ⟨ra, rcap, rfl, hrc⟩ := jV hi.2.2.2.2.1
      have HRC := hH hrc
      clear hrc
      have q0 : wr.cell? ⟨w.heap.size + 1 + 1, 0, none⟩ = some (.int .i64 id) := by rw [cell_of_row wr _ 0 _ _ _ hi.2.2.1]; rfl
      have q1 : wr.cell? ⟨w.heap.size + 1 + 1, 1, none⟩ = some (.int .i64 kd) := by rw [cell_of_row wr _ 1 _ _ _ hi.2.2.1]; rfl
      have q2 : wr.cell? ⟨w.heap.size + 1 + 1, 2, none⟩ = some (.string tx) := by rw [cell_of_row wr _ 2 _ _ _ hi.2.2.1]; rfl
      have q3 : wr.cell? ⟨w.heap.size + 1 + 1, 3, none⟩ = some (.slice ra k rcap) := by rw [cell_of_row wr _ 3 _ _ _ hi.2.2.1]; rfl
      have z0 : wr.cell? ⟨w.heap.size + 1, 0, none⟩ = some (.int .i64 0) := by rw [cell_of_row wr _ 0 _ _ _ hi.2.1]; rfl
      have z1 : wr.cell? ⟨w.heap.size + 1, 1, none⟩ = some (.int .i64 0) := by rw [cell_of_row wr _ 1 _ _ _ hi.2.1]; rfl
      have z2 : wr.cell? ⟨w.heap.size + 1, 2, none⟩ = some (.string ⟨#[]⟩) := by rw [cell_of_row wr _ 2 _ _ _ hi.2.1]; rfl
      have z3 : wr.cell? ⟨w.heap.size + 1, 3, none⟩ = some (.slice none 0 0) := by rw [cell_of_row wr _ 3 _ _ _ hi.2.1]; rfl
      have g0 := frozen_of_row wr _ 0 _ _ hi.2.1
      have g1 := frozen_of_row wr _ 1 _ _ hi.2.1
      have g2 := frozen_of_row wr _ 2 _ _ hi.2.1
      have g3 := frozen_of_row wr _ 3 _ _ hi.2.1
      clear hi
      have HLK : Hid (k = foLen ks) := show k = foLen ks by rw [hkk, HLEN.out]
      clear hkk
      go_wp2_with fail
      have hz := zbk HI.out.2.1 (.int .i64 id) (.int .i64 kd) (.string tx) (.slice ra k rcap)
      refine bodyPost_ret (results_cell_row rfl _ _ (w.heap.size + 1) 35 _ (0, 0) _ rfl hz.1 Tryz.underlying35 rfl (by kernel_rfl)) rfl ?_
      exact HI.out.done HLK.out HRC.out (hz.2.1 _ (by omega)) hz.2.2
theorem Q0 (n : Nat) (w : World) (S : Nat → Prop) (v : Value) (t : Tr) (h1 : zb t.kids < n) (h2 : zb t.kids ≤ 1000000) (h3 : ∀ k, S k → k < w.heap.size) (h4 : qj w S v t) : Calls Tryz.prog 113 #[v] w (Jl t w) :=
 (YU n w S v t h1 h2 h3 h4).mono fun _ _ h => h.weak
end Go.Proofs.YtchccbfljamjnaaGreat
