/-
  .
-/
import Derived.Deep.Cut
import Derived.Deep.AppendLies
import Derived.Test.YtchccbfljamjnaaGreatERowQn
import Derived.Test.YtchccbfljamjnaaGreatETSameQn
import Derived.Test.YtchccbfljamjnaaGreatWSameQn
import Derived.Test.YtchccbfljamjnaaGreatJPgQn
set_option maxRecDepth 100000
set_option maxHeartbeats 40000000
set_option linter.unusedVariables false
set_option linter.unusedSimpArgs false
namespace Go.Proofs.YtchccbfljamjnaaGreat
open Go.RowKit Go.Shelf
def zcw (w w' : World) : Nat → Prop := fun x => w.heap.size ≤ x ∧ x < w'.heap.size
def zcB (t : Tr) (w : World) (e : Ending) (w' : World) : Prop := ∃ v, e = .returned v ∧ qP w' (zcw w w') v t ∧ Below w.heap.size w w'
def ZI (t : Tr) (w : World) (e : Ending) (w' : World) : Prop := ∃ ra rc xs, e = .returned (.agg #[.int .i64 t.id, .int .i64 t.kind, .string t.text, .slice ra (foLen t.kids) rc]) ∧ foLen t.kids ≤ rc ∧ w'.ownsRow w.heap.size 35 4 (.slice ra (foLen t.kids) rc) (foLen t.kids) xs ∧ qI w' (fun x => zcw w w' x ∧ (Value.slice ra (foLen t.kids) rc).ownBlock ≠ some x) t.kids xs ∧ Below w.heap.size w w'
theorem zeB {w' : World} {B n rc : Nat} {S : Nat → Prop} {ra : Option Addr} {ks : Fo} {xs : List Value} (hn : n = foLen ks) (h : w'.ownsRow B 35 4 (.slice ra n rc) n xs) (hr : qI w' S ks xs) (hg : ∀ x, (Value.slice ra n rc).ownBlock = some x → S x) : zB w' S ks ra := by
 cases hks : ks with
 | nil => exact True.intro
 | node b o a l r =>
   rw [← hks]
   have hgg : ∃ g, ra = some ⟨g, 0, none⟩ := by
    rcases h.2 with ⟨hv, h0⟩ | ⟨g, cap, cur, hv, _⟩
    · rw [hn, hks] at h0; simp [foLen] at h0
    · cases hv; exact ⟨g, rfl⟩
   obtain ⟨g, rfl⟩ := hgg
   refine hr.lies (hg g rfl) 0 fun j u hj => ?_
   rw [Nat.zero_add]
   exact zW h rfl j u hj
theorem ZI.weak {t : Tr} {w : World} {e : Ending} {w' : World} (h : ZI t w e w') : zcB t w e w' := by
 obtain ⟨ra, rc, xs, rfl, hrc, ho, hr, hb⟩ := h
 exact ⟨_, rfl, ⟨ra, rc, rfl, hrc, zeB rfl ho (hr.kept fun x hx => ⟨hx.1, rfl⟩) (fun x hx => zF ho hx)⟩, hb⟩
theorem zfh {w : World} {b : Nat} {t : TypeId} {c0 c1 c2 c3 : Value} (h : w.heap[b]? = some (.cells #[c0, c1, c2, c3] t (0, 0))) (u0 u1 u2 u3 : Value) :
 ((((w.setCell ⟨b, 0, none⟩ u0).setCell ⟨b, 1, none⟩ u1).setCell ⟨b, 2, none⟩ u2).setCell ⟨b, 3, none⟩ u3).heap[b]? = some (.cells #[u0, u1, u2, u3] t (0, 0)) ∧
 (∀ B, B ≤ b → Below B w ((((w.setCell ⟨b, 0, none⟩ u0).setCell ⟨b, 1, none⟩ u1).setCell ⟨b, 2, none⟩ u2).setCell ⟨b, 3, none⟩ u3)) ∧
 ∀ x, x ≠ b → ((((w.setCell ⟨b, 0, none⟩ u0).setCell ⟨b, 1, none⟩ u1).setCell ⟨b, 2, none⟩ u2).setCell ⟨b, 3, none⟩ u3).heap[x]? = w.heap[x]? := by
 have h0 := heap_setCell_same w b 0 _ _ u0 h
 have h1 := heap_setCell_same _ b 1 _ _ u1 h0
 have h2 := heap_setCell_same _ b 2 _ _ u2 h1
 have h3 := heap_setCell_same _ b 3 _ _ u3 h2
 exact ⟨h3, fun B hB => ((((Below.refl _ _).setCell hB _).setCell hB _).setCell hB _).setCell hB _, fun x hx => by
  rw [Below.heap_setCell _ _ _ _ hx, Below.heap_setCell _ _ _ _ hx, Below.heap_setCell _ _ _ _ hx, Below.heap_setCell _ _ _ _ hx]⟩
theorem Yf {w : World} {B : Nat} {e : TypeId} {size : Nat} {v : Value} {n : Nat} {xs : List Value} (h : w.ownsRow B e size v n xs) : ∃ a cap, v = .slice a n cap ∧ n ≤ cap := by
 rcases h.2 with ⟨hv, h0⟩ | ⟨g', cap, cur, hv, _, _, hc, _⟩
 · exact ⟨none, 0, by rw [hv, h0], by omega⟩
 · exact ⟨_, _, hv, hc⟩
def zcC (w wr : World) (rv : Value) : Nat → Prop := fun x => w.heap.size + 3 ≤ x ∧ x < wr.heap.size ∧ rv.ownBlock ≠ some x
def yu (w : World) (c1 : Array Value) (id kd : Int) (tx : ByteArray) (ks : Fo) (k : Nat) (rv : Value) (xs : List Value) (wr : World) : Prop :=
 wr.heap[w.heap.size]? = some (.cells c1 35 (0, 0)) ∧ wr.heap[w.heap.size + 1]? = some (.cells #[.int .i64 0, .int .i64 0, .string ⟨#[]⟩, .slice none 0 0] 35 (0, 0)) ∧
 wr.heap[w.heap.size + 1 + 1]? = some (.cells #[.int .i64 id, .int .i64 kd, .string tx, rv] 35 (0, 0)) ∧ Below w.heap.size w wr ∧
 wr.ownsRow (w.heap.size + 3) 35 4 rv k xs ∧ qI wr (zcC w wr rv) (zC k ks) xs
def J7 (w : World) (c1 : Array Value) (id kd : Int) (tx : ByteArray) (ks : Fo) (len : Nat) (i : Value) (wr : World) : Prop :=
 ∃ k rv xs, k ≤ len ∧ i = .int .i64 k ∧ yu w c1 id kd tx ks k rv xs wr
section
variable {w wr w2 : World} {c1 : Array Value} {id kd : Int} {tx : ByteArray} {ks : Fo} {k : Nat} {rv : Value} {xs : List Value}
theorem yu.start (w : World) (c1 : Array Value) (id kd : Int) (tx : ByteArray) (ks : Fo) : yu w c1 id kd tx ks 0 (.slice none 0 0) []
 (((w.alloc (.cells c1 35)).alloc (.cells #[.int .i64 0, .int .i64 0, .string ⟨#[]⟩, .slice none 0 0] 35)).alloc (.cells #[.int .i64 id, .int .i64 kd, .string tx, .slice none 0 0] 35)) := by
 refine ⟨?_, ?_, ?_, ?_, World.ownsRow_nil _ _ _ _, rfl⟩
 · rw [Below.heap_alloc _ _ _ (by simp; omega), Below.heap_alloc _ _ _ (by simp)]; exact heap_alloc_new w _
 · rw [Below.heap_alloc _ _ _ (by simp)]
   have := heap_alloc_new (w.alloc (.cells c1 35)) (.cells #[.int .i64 0, .int .i64 0, .string ⟨#[]⟩, .slice none 0 0] 35)
   simpa using this
 · have := heap_alloc_new ((w.alloc (.cells c1 35)).alloc (.cells #[.int .i64 0, .int .i64 0, .string ⟨#[]⟩, .slice none 0 0] 35)) (.cells #[.int .i64 id, .int .i64 kd, .string tx, .slice none 0 0] 35)
   simpa using this
 · exact (((Below.refl _ _).alloc (Nat.le_refl _) _).alloc (by simp) _).alloc (by simp; omega) _
theorem yu.size (h : yu w c1 id kd tx ks k rv xs wr) : w.heap.size + 1 + 1 < wr.heap.size := lt_of_some h.2.2.1
theorem yu.below (h : yu w c1 id kd tx ks k rv xs wr) (hb : Below wr.heap.size wr w2) : yu w c1 id kd tx ks k rv xs w2 := by
 have hs := h.size
 obtain ⟨h0, h1, h2, h3, h4, h5⟩ := h
 refine ⟨(hb.block _ (by omega)).trans h0, (hb.block _ (by omega)).trans h1, (hb.block _ (by omega)).trans h2, h3.trans (hb.mono (by omega)), zI h4 (fun g cur hg _ => hb.block g (lt_of_some hg)), h5.kept fun x hx => ⟨⟨hx.1, nL hx.2.1 hb.size, hx.2.2⟩, hb.block x hx.2.1⟩⟩
theorem yu.kid (h : yu w c1 id kd tx ks k rv xs wr) {l : Fo} {ka : Option Addr} (hf : zB w2 (zcw wr w2) l ka) : zB w2 (zcC w w2 rv) l ka := hf.kept fun x hx => by
 have hs := h.size
 refine ⟨⟨by have := hx.1; omega, hx.2, fun e => ?_⟩, rfl⟩
 have := (zF h.2.2.2.2.1 e).2
 have := hx.1
 omega
theorem yu.step {w1 : World} {o1 o2 : Obj} {b o : Nat} {ki kk : Int} {kt : ByteArray} {l : Fo} {ka : Option Addr} {kc gg cap : Nat} (hkc : foLen l ≤ kc) (h : yu w c1 id kd tx ks k rv xs w2) (hl : zB w2 (zcC w w2 rv) l ka) (ht : zC (k + 1) ks = qG (zC k ks) b o (ki, kk, kt) l)
 (hown : w1.ownsRow (w.heap.size + 3) 35 4 (.slice (some ⟨gg, 0, none⟩) (k + 1) cap) (k + 1) (xs ++ [.int .i64 ki, .int .i64 kk, .string kt, .slice ka (foLen l) kc]))
 (hgrow : ((w2.alloc o1).alloc o2).grownBy w1 rv.ownBlock) (hat : rv.ownBlock = some gg ∨ gg = w2.heap.size + 1 + 1) :
 yu w c1 id kd tx ks (k + 1) (.slice (some ⟨gg, 0, none⟩) (k + 1) cap) (xs ++ [.int .i64 ki, .int .i64 kk, .string kt, .slice ka (foLen l) kc]) (w1.setCell ⟨w.heap.size + 1 + 1, 3, none⟩ (.slice (some ⟨gg, 0, none⟩) (k + 1) cap)) := by
 have hs := h.size
 obtain ⟨h0, h1, h2, h3, h4, h5⟩ := h
 have hob : ∀ g, rv.ownBlock = some g → w.heap.size + 3 ≤ g ∧ g < w2.heap.size := fun g hg => zF h4 hg
 have old : ∀ x, x < w2.heap.size → rv.ownBlock ≠ some x → w1.heap[x]? = w2.heap[x]? := fun x hx hn => by
  rw [hgrow.block x (by simp; omega) (fun e => hn e.symm), Below.heap_alloc _ _ _ (by simp; omega), Below.heap_alloc _ _ _ hx]
 have nob : ∀ x, x < w.heap.size + 3 → rv.ownBlock ≠ some x := fun x hx e => by have := (hob x e).1; omega
 have hgs : w2.heap.size ≤ w1.heap.size := by have := hgrow.size; simp at this; omega
 have hgg : gg ≠ w.heap.size + 1 + 1 := fun e => by
  rcases hat with hat | hat
  · have := (hob gg hat).1; omega
  · omega
 have hout : w1.heap[w.heap.size + 1 + 1]? = some (.cells #[.int .i64 id, .int .i64 kd, .string tx, rv] 35 (0, 0)) := (old _ hs (nob _ (by omega))).trans h2
 have keep : ∀ x, x < w2.heap.size → rv.ownBlock ≠ some x → x ≠ w.heap.size + 1 + 1 → (w1.setCell ⟨w.heap.size + 1 + 1, 3, none⟩ (.slice (some ⟨gg, 0, none⟩) (k + 1) cap)).heap[x]? = w2.heap[x]? := fun x hx hn hne => by
  rw [Below.heap_setCell _ _ _ _ hne]; exact old x hx hn
 have hmid : ∀ x, zcC w w2 rv x → zcC w (w1.setCell ⟨w.heap.size + 1 + 1, 3, none⟩ (.slice (some ⟨gg, 0, none⟩) (k + 1) cap)) (.slice (some ⟨gg, 0, none⟩) (k + 1) cap) x ∧ (w1.setCell ⟨w.heap.size + 1 + 1, 3, none⟩ (.slice (some ⟨gg, 0, none⟩) (k + 1) cap)).heap[x]? = w2.heap[x]? := fun x hx => by
  refine ⟨⟨hx.1, by simp [World.setCell]; have := hx.2.1; omega, fun e => ?_⟩, keep x hx.2.1 hx.2.2 (by have := hx.1; omega)⟩
  simp only [Value.ownBlock, Option.some.injEq] at e
  rcases hat with hat | hat
  · exact hx.2.2 (by rw [hat, e])
  · have := hx.2.1; omega
 refine ⟨(keep _ (by omega) (nob _ (by omega)) (by omega)).trans h0, (keep _ (by omega) (nob _ (by omega)) (by omega)).trans h1, ?_, ?_, ?_, ?_⟩
 · rw [heap_setCell_same w1 _ 3 _ _ _ hout]; rfl
 · have hB : Below w.heap.size w ((w2.alloc o1).alloc o2) := (h3.alloc (by omega) _).alloc (by simp; omega) _
   exact (hB.grown hgrow (by simp; omega) (fun g hg => by have := (hob g hg).1; omega)).setCell (by simp; omega) _
 · exact zI hown (fun g cur hg hgo => Below.heap_setCell _ _ _ _ (fun e => hgg (by cases hgo; exact e)))
 · rw [ht]
   exact (h5.kept hmid).snoc (hl.kept hmid) kc hkc
theorem yu.done {w' : World} {ra : Option Addr} {rcap : Nat} (h : yu w c1 id kd tx ks k (.slice ra k rcap) xs wr) (hk : k = foLen ks) (hrc : k ≤ rcap) (hb : Below w.heap.size wr w') (ho : ∀ x, x ≠ w.heap.size + 1 → w'.heap[x]? = wr.heap[x]?) :
 ZI ⟨id, kd, tx, ks⟩ w (.returned (.agg #[.int .i64 id, .int .i64 kd, .string tx, .slice ra k rcap])) w' := by
 obtain ⟨_, _, _, h3, h4, h5⟩ := h
 rw [qp k ks (by omega)] at h5
 refine ⟨ra, rcap, xs, by rw [← hk], by simp only; rw [← hk]; exact hrc, ?_, ?_, h3.trans hb⟩
 · simp only; rw [← hk]
   have h6 := zI (w' := w') h4 (fun g cur hg hgo => ho g (by have := (zF h4 hgo).1; omega))
   exact ⟨h6.1, h6.2.imp (fun h => h) (fun ⟨g, cap, cur, e1, e2, e3⟩ => ⟨g, cap, cur, e1, by omega, e3⟩)⟩
 · simp only; rw [← hk]
   exact h5.kept fun x hx => ⟨⟨⟨by have := hx.1; omega, nL hx.2.1 hb.size⟩, hx.2.2⟩, ho x (by have := hx.1; omega)⟩
end
theorem zaG : ∀ (n : Nat) (w : World) (S : Nat → Prop) (v : Value) (t : Tr), ze t.kids < n → ze t.kids ≤ 1000000 → (∀ k, S k → k < w.heap.size) → qP w S v t →
 Calls Tryz.prog 113 #[v] w (ZI t w) := by
 intro n
 induction n with
 | zero => intro w S v t h; omega
 | succ n ih =>
   intro w S v t hn hm hS hv
   obtain ⟨ka, cap, rfl, hcp0, hk⟩ := hv
   obtain ⟨id, kd, tx, ks⟩ := t
   simp only at hk hn hm
   simp only
   obtain ⟨len, hlen⟩ : ∃ len, len = foLen ks := ⟨_, rfl⟩
   rw [← hlen]
   have hlen6 : len ≤ 1000000 := by rw [hlen]; exact Nat.le_trans (yG ks) hm
   have HN := hH (aN hn hm)
   have HLEN := hH hlen
   have HK := hH hk
   clear hcp0
   have HSS := hH hS
   have HIH := hH ih
   clear hlen hk hn hm hS ih
   go_enter Tryz.func113, Tryz.ntmps113
   go_wp2_with fail
   go_loopw [4] (fun i wr => J7 w #[.int .i64 id, .int .i64 kd, .string tx, .slice ka len cap] id kd tx ks len i wr) (fun i _ => len - (intOf i).toNat)
   case atStart => exact ⟨0, _, _, Nat.zero_le _, rfl, yu.start _ _ _ _ _ _⟩
   case round =>
    obtain ⟨k, rv, xs, hk, rfl, hinv⟩ := hrel
    have p1 : wr.cell? ⟨w.heap.size, 3, none⟩ = some (.slice ka len cap) := by rw [cell_of_row wr _ 3 _ _ _ hinv.1]; rfl
    have HI := hH hinv
    clear hinv
    by_cases hlt : k < len
    · have hk1 := HK.out.below HI.out.2.2.2.1 HSS.out
      obtain ⟨b0, o0, ⟨ki, kk, kt⟩, l, r, hd1, b, off, a1, n1, rfl, hSb, c0, c1, c2, c3, hcp1, hl1⟩ := hk1.at k (by rw [← HLEN.out]; exact hlt)
      obtain ⟨_, _, _, _, _, e1, e2, hsz1, htk⟩ := yw k ks (by rw [← HLEN.out]; exact hlt)
      rw [hd1] at e1; cases e1
      have hcall := HIH.out wr S (.agg #[.int .i64 ki, .int .i64 kk, .string kt, .slice a1 (foLen l) n1]) ⟨ki, kk, kt, l⟩ (by have := HN.out.1; simp only; omega) (by have := HN.out.2; simp only; omega) (fun x hx => nL (HSS.out x hx) HI.out.2.2.2.1.size) ⟨a1, n1, rfl, hcp1, hl1⟩
      obtain ⟨m1, hm1⟩ : ∃ m, m = foLen l := ⟨_, rfl⟩
      rw [← hm1] at hcall c3
      simp only at c0 c1 c2
      have HC := hH hcall
      have HM1 := hH hm1
      have HTK := hH htk
      have hkl : (k : Int) < (len : Int) := by omega
      clear hk1 hd1 hcall hm1 htk hl1 hsz1 hSb e2 hcp1
      go_wp2_with fail
      refine (HC.out.mono fun _ _ h => ZI.weak h).mono ?_
      rintro e w2 ⟨_, rfl, ⟨ka2, cap2, rfl, hcp2, hf2⟩, hb2⟩
      have hi2 := HI.out.below hb2
      have hkid := HI.out.kid hf2
      have hs2 := hi2.size
      have ho := hi2.2.2.2.2.1
      simp only
      rw [← HM1.out]
      have d3 : w2.cell? ⟨w.heap.size + 1 + 1, 3, none⟩ = some rv := by rw [cell_of_row w2 _ 3 _ _ _ hi2.2.2.1]; rfl
      have f3 : w2.frozen? ⟨w.heap.size + 1 + 1, 3, none⟩ = false := frozen_of_row w2 _ 3 _ _ hi2.2.2.1
      obtain ⟨i0, z0, hi0, hz0, hz1, hz2, hz3⟩ := qK Tryz.zeh
      have hnew : (((w2.alloc (.cells #[.int .i64 ki, .int .i64 kk, .string kt, .slice ka2 m1 cap2] 35)).alloc (.cells #[.int .i64 ki, .int .i64 kk, .string kt, .slice ka2 m1 cap2] 35)).heap[w2.heap.size + 1]? = some (.cells #[.int .i64 ki, .int .i64 kk, .string kt, .slice ka2 m1 cap2] 35 (0, 0))) := by
       have := heap_alloc_new (w2.alloc (.cells #[.int .i64 ki, .int .i64 kk, .string kt, .slice ka2 m1 cap2] 35)) (.cells #[.int .i64 ki, .int .i64 kk, .string kt, .slice ka2 m1 cap2] 35)
       simpa using this
      have HNEW := hH hnew
      clear hnew
      have hB : w.heap.size + 3 ≤ w2.heap.size := hs2
      have hstep := fun w1 gg cap' h1 h2 h3 => hi2.step (hkc := hcp2) (w1 := w1) (gg := gg) (cap := cap') (kc := cap2) (o1 := .cells #[.int .i64 ki, .int .i64 kk, .string kt, .slice ka2 m1 cap2] 35) (o2 := .cells #[.int .i64 ki, .int .i64 kk, .string kt, .slice ka2 m1 cap2] 35) hkid HTK.out h1 h2 h3
      rw [← HM1.out] at hstep
      have HST := hH hstep
      have hne : rv.ownBlock ≠ some (w.heap.size + 1 + 1) := fun e => by have := (zF ho e).1; omega
      have hlt2 : (⟨w.heap.size + 1 + 1, 3, none⟩ : Addr).block < ((w2.alloc (.cells #[.int .i64 ki, .int .i64 kk, .string kt, .slice ka2 m1 cap2] 35)).alloc (.cells #[.int .i64 ki, .int .i64 kk, .string kt, .slice ka2 m1 cap2] 35)).heap.size := by simp; omega
      have hheap : ((w2.alloc (.cells #[.int .i64 ki, .int .i64 kk, .string kt, .slice ka2 m1 cap2] 35)).alloc (.cells #[.int .i64 ki, .int .i64 kk, .string kt, .slice ka2 m1 cap2] 35)).heap[w.heap.size + 1 + 1]? = w2.heap[w.heap.size + 1 + 1]? := by rw [Below.heap_alloc _ _ _ (by simp; omega), Below.heap_alloc _ _ _ hs2]
      have HAUX := hH (aN hne (aN hlt2 (aN ((World.cell?_of_block (a := ⟨w.heap.size + 1 + 1, 3, none⟩) hheap).trans d3) ((World.frozen?_of_block (a := ⟨w.heap.size + 1 + 1, 3, none⟩) hheap).trans f3))))
      clear hi2 hkid hf2 hb2 hstep hne hlt2 hheap f3 hcp2
      go_wp2_with (at_builtin; refine wpList_append_lies _ rfl (.tmp 27) (.tmp 29) _ rfl (w.heap.size + 3) 35 i0 z0 4 56 Tryz.underlying33 hi0 hz0 hz1 hz2 hz3 (by omega) rv k xs rfl ((ho.alloc _).alloc _) ⟨w2.heap.size + 1, 0, none⟩ 1 1 [.int .i64 ki, .int .i64 kk, .string kt, .slice ka2 m1 cap2] rfl rfl (World.news_of_block (cs := #[.int .i64 ki, .int .i64 kk, .string kt, .slice ka2 m1 cap2]) (t := 35) (fr := (0, 0)) HNEW.out) (by simp [Value.oneCell']) (by omega) (by unfold maxLen; omega) (by omega) (by simp; omega) (w2.heap.size + 1 + 1) (by simp) ?_; intro gg cap' w1 hown1 hgrow hat hlt1; have c1w := (hgrow.cell_far _ HAUX.out.2.1 (Ne.symm HAUX.out.1)).trans HAUX.out.2.2.1; have f1w := (hgrow.frozen_far _ HAUX.out.2.1 (Ne.symm HAUX.out.1)).trans HAUX.out.2.2.2)
      exact ⟨⟨k + 1, _, _, by omega, by go_num, HST.out _ _ _ hown1 hgrow hat⟩, by simp [intOf]; omega⟩
    · have hkk : k = len := by omega
      have hi := HI.out
      obtain ⟨ra, rcap, rfl, hrc⟩ := Yf hi.2.2.2.2.1
      have HRC := hH hrc
      clear hrc
      have q0 : wr.cell? ⟨w.heap.size + 1 + 1, 0, none⟩ = some (.int .i64 id) := by rw [cell_of_row wr _ 0 _ _ _ hi.2.2.1]; rfl
      have q1 : wr.cell? ⟨w.heap.size + 1 + 1, 1, none⟩ = some (.int .i64 kd) := by rw [cell_of_row wr _ 1 _ _ _ hi.2.2.1]; rfl
      have q2 : wr.cell? ⟨w.heap.size + 1 + 1, 2, none⟩ = some (.string tx) := by rw [cell_of_row wr _ 2 _ _ _ hi.2.2.1]; rfl
      have q3 : wr.cell? ⟨w.heap.size + 1 + 1, 3, none⟩ = some (.slice ra k rcap) := by rw [cell_of_row wr _ 3 _ _ _ hi.2.2.1]; rfl
      have z0 : wr.cell? ⟨w.heap.size + 1, 0, none⟩ = some (.int .i64 0) := by rw [cell_of_row wr _ 0 _ _ _ hi.2.1]; rfl
      have z1 : wr.cell? ⟨w.heap.size + 1, 1, none⟩ = some (.int .i64 0) := by rw [cell_of_row wr _ 1 _ _ _ hi.2.1]; rfl
      have z2 : wr.cell? ⟨w.heap.size + 1, 2, none⟩ = some (.string ⟨#[]⟩) := by rw [cell_of_row wr _ 2 _ _ _ hi.2.1]; rfl
      have z3 : wr.cell? ⟨w.heap.size + 1, 3, none⟩ = some (.slice none 0 0) := by rw [cell_of_row wr _ 3 _ _ _ hi.2.1]; rfl
      have g0 := frozen_of_row wr _ 0 _ _ hi.2.1
      have g1 := frozen_of_row wr _ 1 _ _ hi.2.1
      have g2 := frozen_of_row wr _ 2 _ _ hi.2.1
      have g3 := frozen_of_row wr _ 3 _ _ hi.2.1
      clear hi
      have HLK : Hid (k = foLen ks) := show k = foLen ks by rw [hkk, HLEN.out]
      clear hkk
      go_wp2_with fail
      have hz := zfh HI.out.2.1 (.int .i64 id) (.int .i64 kd) (.string tx) (.slice ra k rcap)
      refine bodyPost_ret (results_cell_row rfl _ _ (w.heap.size + 1) 35 _ (0, 0) _ rfl hz.1 Tryz.underlying35 rfl (by kernel_rfl)) rfl ?_
      exact HI.out.done HLK.out HRC.out (hz.2.1 _ (by omega)) hz.2.2
theorem zb4 (n : Nat) (w : World) (S : Nat → Prop) (v : Value) (t : Tr) (h1 : ze t.kids < n) (h2 : ze t.kids ≤ 1000000) (h3 : ∀ k, S k → k < w.heap.size) (h4 : qP w S v t) : Calls Tryz.prog 113 #[v] w (zcB t w) :=
 (zaG n w S v t h1 h2 h3 h4).mono fun _ _ h => h.weak
end Go.Proofs.YtchccbfljamjnaaGreat
namespace Go.Proofs.YtchccbfljamjnaaGreat
open Go.RowKit Go.Shelf
theorem Jp (w : World) (S : Nat → Prop) (nv : Value) (t : Tr) (hS : ∀ y, S y → y < w.heap.size) (ht : qP w S nv t) (hsz : ze t.kids ≤ 100000) : Calls Tryz.prog 113 #[nv] w (kz w S t) := by
 refine (zb4 200000 w S nv t (by omega) (by omega) hS ht).mono ?_
 rintro e w' ⟨v, rfl, h, hb⟩
 exact ⟨v, rfl, h.kept fun y hy => ⟨⟨Or.inr hy.1, hy.2⟩, rfl⟩, hb⟩
theorem zdQ (w : World) (S : Nat → Prop) (id par at_ s1 s2 : Int) (tx s3 : ByteArray) (sa : Option Addr) (sn sc : Nat) :
 Calls Tryz.prog 67 #[.agg #[.int .i8 2, .int .i64 id, .int .i64 par, .int .i64 at_, .string tx, .int .i64 s1, .int .i64 s2, .string s3, .slice sa sn sc]] w (yK w S ⟨2, id, 0, 0, ⟨#[]⟩, zk⟩) := by
 obtain ⟨B, hB⟩ : ∃ B, B = zn w [.cells #[.int .i8 2, .int .i64 id, .int .i64 par, .int .i64 at_, .string tx, .int .i64 s1, .int .i64 s2, .string s3, .slice sa sn sc] 41, .cells #[.int .i8 0, .int .i64 0, .int .i64 0, .int .i64 0, .string ⟨#[]⟩, .int .i64 0, .int .i64 0, .string ⟨#[]⟩, .slice none 0 0] 41] := ⟨_, rfl⟩
 have hb : Below w.heap.size w B := by rw [hB]; exact zl _ _
 have hs0 : B.heap[w.heap.size]? = some (.cells #[.int .i8 2, .int .i64 id, .int .i64 par, .int .i64 at_, .string tx, .int .i64 s1, .int .i64 s2, .string s3, .slice sa sn sc] 41 (0, 0)) := by rw [hB]; exact zg _ _ 0 _ rfl
 have hr0 : B.heap[w.heap.size + 1]? = some (.cells #[.int .i8 0, .int .i64 0, .int .i64 0, .int .i64 0, .string ⟨#[]⟩, .int .i64 0, .int .i64 0, .string ⟨#[]⟩, .slice none 0 0] 41 (0, 0)) := by rw [hB]; exact zg _ _ 1 _ rfl
 obtain ⟨V9, hV9, v1, v2, v3, v4, v5, v6⟩ := qH (u0 := .int .i8 2) (u1 := .int .i64 id) (u2 := .int .i64 0) (u3 := .int .i64 0) (u4 := .string ⟨#[]⟩) (u5 := .int .i64 0) (u6 := .int .i64 0) (u7 := .string ⟨#[]⟩) (u8 := .slice none 0 0) hr0
 obtain ⟨m0, m1, m2, m3, m4, m5, m6, m7, m8⟩ := yV hs0
 obtain ⟨z0, z1, z2, z3, z4, z5, z6, z7, z8⟩ := yV hr0
 have zf : ∀ j, B.frozen? ⟨w.heap.size + 1, j, none⟩ = false := fun j => frozen_of_row _ _ j _ _ hr0
 have HEND : Hid (yK w S ⟨2, id, 0, 0, ⟨#[]⟩, zk⟩ (.returned (.agg #[.int .i8 2, .int .i64 id, .int .i64 0, .int .i64 0, .string ⟨#[]⟩, .int .i64 0, .int .i64 0, .string ⟨#[]⟩, .slice none 0 0])) V9) := hH ⟨_, rfl, ⟨none, 0, rfl, Nat.le_refl _, True.intro⟩, ⟨v3.trans hb.os, v4.trans hb.tape, v5.trans hb.output, by rw [v6]; exact hb.size, fun y hy => (v2 y (by omega)).trans (hb.block y hy)⟩⟩
 have HV9 := hH (aN hV9 v1)
 have HBE := hH hB
 clear hb hs0 hr0 hB hV9 v1 v2 v3 v4 v5 v6
 go_enter Tryz.func67, Tryz.ntmps67
 go_upto_region 1 with fail
 change Code.wp _ _ _ _ (zn w [.cells #[.int .i8 2, .int .i64 id, .int .i64 par, .int .i64 at_, .string tx, .int .i64 s1, .int .i64 s2, .string s3, .slice sa sn sc] 41, .cells #[.int .i8 0, .int .i64 0, .int .i64 0, .int .i64 0, .string ⟨#[]⟩, .int .i64 0, .int .i64 0, .string ⟨#[]⟩, .slice none 0 0] 41])
 rw [← HBE.out]
 clear HBE
 go_wp2_with fail
 rw [← HV9.out.1]
 refine bodyPost_ret (zQ rfl _ _ (w.heap.size + 1) 41 _ (0, 0) _ rfl HV9.out.2 Tryz.underlying41 rfl (by kernel_rfl)) rfl ?_
 exact HEND.out
theorem zdR (w : World) (S : Nat → Prop) (id par at_ s1 s2 : Int) (tx s3 : ByteArray) (sa : Option Addr) (sn sc : Nat) :
 Calls Tryz.prog 67 #[.agg #[.int .i8 3, .int .i64 id, .int .i64 par, .int .i64 at_, .string tx, .int .i64 s1, .int .i64 s2, .string s3, .slice sa sn sc]] w (yK w S ⟨3, id, par, at_, ⟨#[]⟩, zk⟩) := by
 obtain ⟨B, hB⟩ : ∃ B, B = zn w [.cells #[.int .i8 3, .int .i64 id, .int .i64 par, .int .i64 at_, .string tx, .int .i64 s1, .int .i64 s2, .string s3, .slice sa sn sc] 41, .cells #[.int .i8 0, .int .i64 0, .int .i64 0, .int .i64 0, .string ⟨#[]⟩, .int .i64 0, .int .i64 0, .string ⟨#[]⟩, .slice none 0 0] 41] := ⟨_, rfl⟩
 have hb : Below w.heap.size w B := by rw [hB]; exact zl _ _
 have hs0 : B.heap[w.heap.size]? = some (.cells #[.int .i8 3, .int .i64 id, .int .i64 par, .int .i64 at_, .string tx, .int .i64 s1, .int .i64 s2, .string s3, .slice sa sn sc] 41 (0, 0)) := by rw [hB]; exact zg _ _ 0 _ rfl
 have hr0 : B.heap[w.heap.size + 1]? = some (.cells #[.int .i8 0, .int .i64 0, .int .i64 0, .int .i64 0, .string ⟨#[]⟩, .int .i64 0, .int .i64 0, .string ⟨#[]⟩, .slice none 0 0] 41 (0, 0)) := by rw [hB]; exact zg _ _ 1 _ rfl
 obtain ⟨V9, hV9, v1, v2, v3, v4, v5, v6⟩ := qH (u0 := .int .i8 3) (u1 := .int .i64 id) (u2 := .int .i64 par) (u3 := .int .i64 at_) (u4 := .string ⟨#[]⟩) (u5 := .int .i64 0) (u6 := .int .i64 0) (u7 := .string ⟨#[]⟩) (u8 := .slice none 0 0) hr0
 obtain ⟨m0, m1, m2, m3, m4, m5, m6, m7, m8⟩ := yV hs0
 obtain ⟨z0, z1, z2, z3, z4, z5, z6, z7, z8⟩ := yV hr0
 have zf : ∀ j, B.frozen? ⟨w.heap.size + 1, j, none⟩ = false := fun j => frozen_of_row _ _ j _ _ hr0
 have HEND : Hid (yK w S ⟨3, id, par, at_, ⟨#[]⟩, zk⟩ (.returned (.agg #[.int .i8 3, .int .i64 id, .int .i64 par, .int .i64 at_, .string ⟨#[]⟩, .int .i64 0, .int .i64 0, .string ⟨#[]⟩, .slice none 0 0])) V9) := hH ⟨_, rfl, ⟨none, 0, rfl, Nat.le_refl _, True.intro⟩, ⟨v3.trans hb.os, v4.trans hb.tape, v5.trans hb.output, by rw [v6]; exact hb.size, fun y hy => (v2 y (by omega)).trans (hb.block y hy)⟩⟩
 have HV9 := hH (aN hV9 v1)
 have HBE := hH hB
 clear hb hs0 hr0 hB hV9 v1 v2 v3 v4 v5 v6
 go_enter Tryz.func67, Tryz.ntmps67
 go_upto_region 1 with fail
 change Code.wp _ _ _ _ (zn w [.cells #[.int .i8 3, .int .i64 id, .int .i64 par, .int .i64 at_, .string tx, .int .i64 s1, .int .i64 s2, .string s3, .slice sa sn sc] 41, .cells #[.int .i8 0, .int .i64 0, .int .i64 0, .int .i64 0, .string ⟨#[]⟩, .int .i64 0, .int .i64 0, .string ⟨#[]⟩, .slice none 0 0] 41])
 rw [← HBE.out]
 clear HBE
 go_wp2_with fail
 rw [← HV9.out.1]
 refine bodyPost_ret (zQ rfl _ _ (w.heap.size + 1) 41 _ (0, 0) _ rfl HV9.out.2 Tryz.underlying41 rfl (by kernel_rfl)) rfl ?_
 exact HEND.out
theorem zdS (w : World) (S : Nat → Prop) (id par at_ s1 s2 : Int) (tx s3 : ByteArray) (sa : Option Addr) (sn sc : Nat) :
 Calls Tryz.prog 67 #[.agg #[.int .i8 4, .int .i64 id, .int .i64 par, .int .i64 at_, .string tx, .int .i64 s1, .int .i64 s2, .string s3, .slice sa sn sc]] w (yK w S ⟨4, id, 0, 0, tx, zk⟩) := by
 obtain ⟨B, hB⟩ : ∃ B, B = zn w [.cells #[.int .i8 4, .int .i64 id, .int .i64 par, .int .i64 at_, .string tx, .int .i64 s1, .int .i64 s2, .string s3, .slice sa sn sc] 41, .cells #[.int .i8 0, .int .i64 0, .int .i64 0, .int .i64 0, .string ⟨#[]⟩, .int .i64 0, .int .i64 0, .string ⟨#[]⟩, .slice none 0 0] 41] := ⟨_, rfl⟩
 have hb : Below w.heap.size w B := by rw [hB]; exact zl _ _
 have hs0 : B.heap[w.heap.size]? = some (.cells #[.int .i8 4, .int .i64 id, .int .i64 par, .int .i64 at_, .string tx, .int .i64 s1, .int .i64 s2, .string s3, .slice sa sn sc] 41 (0, 0)) := by rw [hB]; exact zg _ _ 0 _ rfl
 have hr0 : B.heap[w.heap.size + 1]? = some (.cells #[.int .i8 0, .int .i64 0, .int .i64 0, .int .i64 0, .string ⟨#[]⟩, .int .i64 0, .int .i64 0, .string ⟨#[]⟩, .slice none 0 0] 41 (0, 0)) := by rw [hB]; exact zg _ _ 1 _ rfl
 obtain ⟨V9, hV9, v1, v2, v3, v4, v5, v6⟩ := qH (u0 := .int .i8 4) (u1 := .int .i64 id) (u2 := .int .i64 0) (u3 := .int .i64 0) (u4 := .string tx) (u5 := .int .i64 0) (u6 := .int .i64 0) (u7 := .string ⟨#[]⟩) (u8 := .slice none 0 0) hr0
 obtain ⟨m0, m1, m2, m3, m4, m5, m6, m7, m8⟩ := yV hs0
 obtain ⟨z0, z1, z2, z3, z4, z5, z6, z7, z8⟩ := yV hr0
 have zf : ∀ j, B.frozen? ⟨w.heap.size + 1, j, none⟩ = false := fun j => frozen_of_row _ _ j _ _ hr0
 have HEND : Hid (yK w S ⟨4, id, 0, 0, tx, zk⟩ (.returned (.agg #[.int .i8 4, .int .i64 id, .int .i64 0, .int .i64 0, .string tx, .int .i64 0, .int .i64 0, .string ⟨#[]⟩, .slice none 0 0])) V9) := hH ⟨_, rfl, ⟨none, 0, rfl, Nat.le_refl _, True.intro⟩, ⟨v3.trans hb.os, v4.trans hb.tape, v5.trans hb.output, by rw [v6]; exact hb.size, fun y hy => (v2 y (by omega)).trans (hb.block y hy)⟩⟩
 have HV9 := hH (aN hV9 v1)
 have HBE := hH hB
 clear hb hs0 hr0 hB hV9 v1 v2 v3 v4 v5 v6
 go_enter Tryz.func67, Tryz.ntmps67
 go_upto_region 1 with fail
 change Code.wp _ _ _ _ (zn w [.cells #[.int .i8 4, .int .i64 id, .int .i64 par, .int .i64 at_, .string tx, .int .i64 s1, .int .i64 s2, .string s3, .slice sa sn sc] 41, .cells #[.int .i8 0, .int .i64 0, .int .i64 0, .int .i64 0, .string ⟨#[]⟩, .int .i64 0, .int .i64 0, .string ⟨#[]⟩, .slice none 0 0] 41])
 rw [← HBE.out]
 clear HBE
 go_wp2_with fail
 rw [← HV9.out.1]
 refine bodyPost_ret (zQ rfl _ _ (w.heap.size + 1) 41 _ (0, 0) _ rfl HV9.out.2 Tryz.underlying41 rfl (by kernel_rfl)) rfl ?_
 exact HEND.out
theorem zdP (w : World) (Sx : Nat → Prop) (x : Tr) (id par at_ : Int) (tx : ByteArray) (sa : Option Addr) (sn sc : Nat) (hSx : ∀ y, Sx y → y < w.heap.size) (hx : qP w Sx (.agg #[.int .i64 x.id, .int .i64 x.kind, .string x.text, .slice sa sn sc]) x) (hxz : ze x.kids ≤ 100000) :
 Calls Tryz.prog 67 #[.agg #[.int .i8 1, .int .i64 id, .int .i64 par, .int .i64 at_, .string tx, .int .i64 x.id, .int .i64 x.kind, .string x.text, .slice sa sn sc]] w (yK w Sx ⟨1, 0, par, at_, ⟨#[]⟩, x⟩) := by
 obtain ⟨B, hB⟩ : ∃ B, B = zn w [.cells #[.int .i8 1, .int .i64 id, .int .i64 par, .int .i64 at_, .string tx, .int .i64 x.id, .int .i64 x.kind, .string x.text, .slice sa sn sc] 41, .cells #[.int .i8 0, .int .i64 0, .int .i64 0, .int .i64 0, .string ⟨#[]⟩, .int .i64 0, .int .i64 0, .string ⟨#[]⟩, .slice none 0 0] 41] := ⟨_, rfl⟩
 have hb : Below w.heap.size w B := by rw [hB]; exact zl _ _
 have hs : B.heap.size = w.heap.size + 2 := by rw [hB]; exact yM _ _
 have hs0 : B.heap[w.heap.size]? = some (.cells #[.int .i8 1, .int .i64 id, .int .i64 par, .int .i64 at_, .string tx, .int .i64 x.id, .int .i64 x.kind, .string x.text, .slice sa sn sc] 41 (0, 0)) := by rw [hB]; exact zg _ _ 0 _ rfl
 have hr0 : B.heap[w.heap.size + 1]? = some (.cells #[.int .i8 0, .int .i64 0, .int .i64 0, .int .i64 0, .string ⟨#[]⟩, .int .i64 0, .int .i64 0, .string ⟨#[]⟩, .slice none 0 0] 41 (0, 0)) := by rw [hB]; exact zg _ _ 1 _ rfl
 have hcp : ∀ X, Tc B X (w.heap.size + 1) → Calls Tryz.prog 113 #[.agg #[.int .i64 x.id, .int .i64 x.kind, .string x.text, .slice sa sn sc]] X (kz X Sx x) := fun X hX => Jp X Sx _ x (fun y hy => nL (hSx y hy) (Nat.le_trans hb.size hX.size)) (hx.kept fun y hy => ⟨hy, (hX.block y (by have := hSx y hy; omega) (by have := hSx y hy; omega)).trans (hb.block y (hSx y hy))⟩) hxz
 obtain ⟨m0, m1, m2, m3, m4, m5, m6, m7, m8⟩ := yV hs0
 have HCP := hH hcp
 have HST := hH hs0
 have HSX := hH hSx
 have HB := hH (aN hb (aN hs hr0))
 have HBE := hH hB
 clear hcp hs0 hb hs hr0 hB hx hSx hxz
 go_enter Tryz.func67, Tryz.ntmps67
 go_upto_region 1 with fail
 change Code.wp _ _ _ _ (zn w [.cells #[.int .i8 1, .int .i64 id, .int .i64 par, .int .i64 at_, .string tx, .int .i64 x.id, .int .i64 x.kind, .string x.text, .slice sa sn sc] 41, .cells #[.int .i8 0, .int .i64 0, .int .i64 0, .int .i64 0, .string ⟨#[]⟩, .int .i64 0, .int .i64 0, .string ⟨#[]⟩, .slice none 0 0] 41])
 rw [← HBE.out]
 clear HBE
 go_upto_region 3 with fail
 clear m0 m1 m2 m3 m4 m5 m6 m7 m8
 refine wp_region_held_drew (S := fun X => Tc B X (w.heap.size + 1)) (by kernel_rfl) (Tc.of (below_drewN (Below.refl _ B) 1)) (fun hHeld => ?_)
 refine tkH (i := 0) (.pointer (some ⟨w.heap.size, 0, none⟩)) rfl (Or.inl ⟨by rfl, fun X _ => by clear hHeld; go_simp⟩) (by assumption) ?_
 simp only [Act.put, pg]
 refine tkH (i := 1) (.int .i8 1) rfl (Or.inl ⟨by rfl, ?_⟩) (by assumption) ?_
 · clear hHeld; intro X hSw; obtain ⟨m0, m1, m2, m3, m4, m5, m6, m7, m8⟩ := yV ((hSw.block _ (lt_of_heap HST.out) (by omega)).trans HST.out); clear hSw; go_simp
 simp only [Act.put, pg]
 refine tkH (i := 2) (.pointer (some ⟨w.heap.size, 2, none⟩)) rfl (Or.inl ⟨by rfl, fun X _ => by clear hHeld; go_simp⟩) (by assumption) ?_
 simp only [Act.put, pg]
 refine tkH (i := 3) (.int .i64 par) rfl (Or.inl ⟨by rfl, ?_⟩) (by assumption) ?_
 · clear hHeld; intro X hSw; obtain ⟨m0, m1, m2, m3, m4, m5, m6, m7, m8⟩ := yV ((hSw.block _ (lt_of_heap HST.out) (by omega)).trans HST.out); clear hSw; go_simp
 simp only [Act.put, pg]
 refine tkH (i := 4) (.pointer (some ⟨w.heap.size, 3, none⟩)) rfl (Or.inl ⟨by rfl, fun X _ => by clear hHeld; go_simp⟩) (by assumption) ?_
 simp only [Act.put, pg]
 refine tkH (i := 5) (.int .i64 at_) rfl (Or.inl ⟨by rfl, ?_⟩) (by assumption) ?_
 · clear hHeld; intro X hSw; obtain ⟨m0, m1, m2, m3, m4, m5, m6, m7, m8⟩ := yV ((hSw.block _ (lt_of_heap HST.out) (by omega)).trans HST.out); clear hSw; go_simp
 simp only [Act.put, pg]
 refine tkH (i := 6) (.pointer (some ⟨w.heap.size, 5, none⟩)) rfl (Or.inl ⟨by rfl, fun X _ => by clear hHeld; go_simp⟩) (by assumption) ?_
 simp only [Act.put, pg]
 refine tkH (i := 7) (.agg #[.int .i64 x.id, .int .i64 x.kind, .string x.text, .slice sa sn sc]) rfl (Or.inl ⟨by rfl, ?_⟩) (by assumption) ?_
 · clear hHeld; intro X hSw; obtain ⟨m0, m1, m2, m3, m4, m5, m6, m7, m8⟩ := yV ((hSw.block _ (lt_of_heap HST.out) (by omega)).trans HST.out); clear hSw; go_simp
 simp only [Act.put, pg]
 refine wpAnyH_ready (rs := [8]) (by kernel_rfl) (by simp) ?_
 refine AllReadyH.cons (o := _) rfl (fun K hK => ?_) AllReadyH.nil
 rw [if_pos (by rfl)]
 simp only [pg3]
 have HK := hH hK
 have HS := hH hHeld
 clear hK hHeld
 go_wp2_with (go_at_call 113; refine (HCP.out _ HS.out).mono ?_; rintro e w5 ⟨_, rfl, ⟨yb, yc, rfl, hyc, hyk⟩, hb5⟩; have H5 := hH (aN hyc (aN hyk (aN hb5 ((hb5.block _ (lt_of_heap HB.out.2.2)).trans HB.out.2.2)))); have HS5 := hH (HS.out.then hb5); clear hyc hyk hb5)
 refine HK.out _ _ HS5.out (fun hHeld => ?_)
 clear HK HS
 obtain ⟨xn, hxn⟩ : ∃ xn, xn = foLen x.kids := ⟨_, rfl⟩
 refine tkH (i := 9) (.agg #[.int .i8 1, .int .i64 0, .int .i64 par, .int .i64 at_, .string ⟨#[]⟩, .int .i64 x.id, .int .i64 x.kind, .string x.text, .slice yb (foLen x.kids) yc]) rfl (Or.inl ⟨by rfl, fun X _ => by clear hHeld; go_simp⟩) (by assumption) ?_
 simp only [Act.put, pg]
 refine wpAnyH_ready (rs := [10]) (by kernel_rfl) (by simp) ?_
 refine AllReadyH.cons (o := _) rfl (fun K hK => ?_) AllReadyH.nil
 rw [if_pos (by rfl)]
 simp only [pg3]
 have HK := hH hK
 have HS := hH hHeld
 clear hK hHeld
 have hz := H5.out.2.2.2
 obtain ⟨z0, z1, z2, z3, z4, z5, z6, z7, z8⟩ := yV hz
 have zf : ∀ j, w5.frozen? ⟨w.heap.size + 1, j, none⟩ = false := fun j => frozen_of_row _ _ j _ _ hz
 obtain ⟨V9, hV9, v1, v2, v3, v4, v5, v6⟩ := qH (u0 := .int .i8 1) (u1 := .int .i64 0) (u2 := .int .i64 par) (u3 := .int .i64 at_) (u4 := .string ⟨#[]⟩) (u5 := .int .i64 x.id) (u6 := .int .i64 x.kind) (u7 := .string x.text) (u8 := .slice yb (foLen x.kids) yc) hz
 have hT9 : Tc B V9 (w.heap.size + 1) := ⟨v3.trans HS5.out.os, v4.trans HS5.out.tape, v5.trans HS5.out.output, by rw [v6]; exact HS5.out.size, fun y hy hn => (v2 y hn).trans (HS5.out.block y hy hn)⟩
 have hE : yK w Sx ⟨1, 0, par, at_, ⟨#[]⟩, x⟩ (.returned (.agg #[.int .i8 1, .int .i64 0, .int .i64 par, .int .i64 at_, .string ⟨#[]⟩, .int .i64 x.id, .int .i64 x.kind, .string x.text, .slice yb (foLen x.kids) yc])) V9 := ⟨_, rfl, ⟨yb, yc, rfl, H5.out.1, ?kept⟩, hT9.below HB.out.1 (by omega)⟩
 case kept =>
  exact H5.out.2.1.kept fun y hy => by
   have hy1 : Sx y ∨ B.heap.size ≤ y := hy.1
   have hne : y ≠ w.heap.size + 1 := by
    rcases hy1 with h | h
    · have := HSX.out y h; omega
    · have := HB.out.2.1; omega
   exact ⟨⟨hy1.imp (fun h => h) (fun h => by have := HB.out.2.1; omega), by rw [v6]; exact hy.2⟩, v2 y hne⟩
 have HE := hH (aN hE (aN hV9 (aN v1 hT9)))
 clear hz hV9 v1 v2 v3 v4 v5 v6 hT9 hE
 go_wp2_with fail
 rw [← HE.out.2.1]
 refine HK.out _ _ HE.out.2.2.2 (fun hHeld => ?_)
 clear HK HS z0 z1 z2 z3 z4 z5 z6 z7 z8 zf H5 HS5
 refine wpAnyH_done (by kernel_rfl) ?_ _
 clear hHeld
 go_wp2_with fail
 refine bodyPost_ret (zQ rfl _ _ (w.heap.size + 1) 41 _ (0, 0) _ rfl HE.out.2.2.1 Tryz.underlying41 rfl (by kernel_rfl)) rfl ?_
 exact HE.out.1
theorem zdO (w : World) (S : Nat → Prop) (op id par at_ s1 s2 : Int) (tx s3 : ByteArray) (sa : Option Addr) (sn sc : Nat) (h1 : ¬ op = 1) (h2 : ¬ op = 2) (h3 : ¬ op = 3) (h4 : ¬ op = 4) :
 Calls Tryz.prog 67 #[.agg #[.int .i8 op, .int .i64 id, .int .i64 par, .int .i64 at_, .string tx, .int .i64 s1, .int .i64 s2, .string s3, .slice sa sn sc]] w (yK w S ⟨op, 0, 0, 0, ⟨#[]⟩, zk⟩) := by
 obtain ⟨B, hB⟩ : ∃ B, B = zn w [.cells #[.int .i8 op, .int .i64 id, .int .i64 par, .int .i64 at_, .string tx, .int .i64 s1, .int .i64 s2, .string s3, .slice sa sn sc] 41, .cells #[.int .i8 0, .int .i64 0, .int .i64 0, .int .i64 0, .string ⟨#[]⟩, .int .i64 0, .int .i64 0, .string ⟨#[]⟩, .slice none 0 0] 41] := ⟨_, rfl⟩
 have hb : Below w.heap.size w B := by rw [hB]; exact zl _ _
 have hs0 : B.heap[w.heap.size]? = some (.cells #[.int .i8 op, .int .i64 id, .int .i64 par, .int .i64 at_, .string tx, .int .i64 s1, .int .i64 s2, .string s3, .slice sa sn sc] 41 (0, 0)) := by rw [hB]; exact zg _ _ 0 _ rfl
 have hr0 : B.heap[w.heap.size + 1]? = some (.cells #[.int .i8 0, .int .i64 0, .int .i64 0, .int .i64 0, .string ⟨#[]⟩, .int .i64 0, .int .i64 0, .string ⟨#[]⟩, .slice none 0 0] 41 (0, 0)) := by rw [hB]; exact zg _ _ 1 _ rfl
 obtain ⟨V9, hV9, v1, v2, v3, v4, v5, v6⟩ := qH (u0 := .int .i8 op) (u1 := .int .i64 0) (u2 := .int .i64 0) (u3 := .int .i64 0) (u4 := .string ⟨#[]⟩) (u5 := .int .i64 0) (u6 := .int .i64 0) (u7 := .string ⟨#[]⟩) (u8 := .slice none 0 0) hr0
 obtain ⟨m0, m1, m2, m3, m4, m5, m6, m7, m8⟩ := yV hs0
 obtain ⟨z0, z1, z2, z3, z4, z5, z6, z7, z8⟩ := yV hr0
 have zf : ∀ j, B.frozen? ⟨w.heap.size + 1, j, none⟩ = false := fun j => frozen_of_row _ _ j _ _ hr0
 have HEND : Hid (yK w S ⟨op, 0, 0, 0, ⟨#[]⟩, zk⟩ (.returned (.agg #[.int .i8 op, .int .i64 0, .int .i64 0, .int .i64 0, .string ⟨#[]⟩, .int .i64 0, .int .i64 0, .string ⟨#[]⟩, .slice none 0 0])) V9) := hH ⟨_, rfl, ⟨none, 0, rfl, Nat.le_refl _, True.intro⟩, ⟨v3.trans hb.os, v4.trans hb.tape, v5.trans hb.output, by rw [v6]; exact hb.size, fun y hy => (v2 y (by omega)).trans (hb.block y hy)⟩⟩
 have HV9 := hH (aN hV9 v1)
 have HBE := hH hB
 have q1 : (op == 1) = false := by simpa using h1
 have q2 : (op == 2) = false := by simpa using h2
 have q3 : (op == 3) = false := by simpa using h3
 have q4 : (op == 4) = false := by simpa using h4
 clear h1 h2 h3 h4
 clear hb hs0 hr0 hB hV9 v1 v2 v3 v4 v5 v6
 go_enter Tryz.func67, Tryz.ntmps67
 go_upto_region 1 with fail
 change Code.wp _ _ _ _ (zn w [.cells #[.int .i8 op, .int .i64 id, .int .i64 par, .int .i64 at_, .string tx, .int .i64 s1, .int .i64 s2, .string s3, .slice sa sn sc] 41, .cells #[.int .i8 0, .int .i64 0, .int .i64 0, .int .i64 0, .string ⟨#[]⟩, .int .i64 0, .int .i64 0, .string ⟨#[]⟩, .slice none 0 0] 41])
 rw [← HBE.out]
 clear HBE
 go_wp2_with fail
 rw [← HV9.out.1]
 refine bodyPost_ret (zQ rfl _ _ (w.heap.size + 1) 41 _ (0, 0) _ rfl HV9.out.2 Tryz.underlying41 rfl (by kernel_rfl)) rfl ?_
 exact HEND.out
end Go.Proofs.YtchccbfljamjnaaGreat
