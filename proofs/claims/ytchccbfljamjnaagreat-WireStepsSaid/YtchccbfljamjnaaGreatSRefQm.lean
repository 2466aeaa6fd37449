/-
  .
-/
import Derived.Test.YtchccbfljamjnaaGreatSOwnQm
import Derived.Test.YtchccbfljamjnaaGreatJPgQm
set_option maxRecDepth 100000
set_option maxHeartbeats 40000000

namespace Go.Proofs.YtchccbfljamjnaaGreat
open Go.RowKit
theorem Yj (r : Nat) (h : r < 4294967296) : bits .and .u32 (r : Int) 1 = ((r % 2 : Nat) : Int) := by
 have := u32_and_nat r 1 h (by decide)
 rw [nat_mask1] at this
 exact this
theorem Qn (r : Nat) (h : r < 4294967296) (ho : r % 2 = 1) : bits .and .u32 (r : Int) 1 = 1 := by rw [Yj r h, ho]; rfl
theorem Yk (r : Nat) (h : r < 4294967296) (ho : ¬ r % 2 = 1) : bits .and .u32 (r : Int) 1 = 0 := by rw [Yj r h, show r % 2 = 0 by omega]; rfl
theorem Yl (r : Nat) (h : r < 4294967296) : bits .xor .u32 ((r : Int) / 2) 2197175160 = ((r / 2 ^^^ 2197175160 : Nat) : Int) := by
 rw [show (r : Int) / 2 = ((r / 2 : Nat) : Int) by omega]
 exact u32_xor_nat _ 2197175160 (by omega) (by decide)
def qW (r : Nat) (w : World) (v i : Value) (wr : World) : Prop := ∃ q k : Nat, v = .int .u32 (q : Int) ∧ i = .int .i64 (k : Int) ∧ q < 4294967296 ∧ k ≤ 8 ∧ zW (8 - k) q = sh8 r ∧ w = wr
theorem qW.odd {r q k : Nat} {w : World} (hq : q < 4294967296) (hk : k < 8) (hs : zW (8 - k) q = sh8 r) (ho : q % 2 = 1) : qW r w (.int .u32 ((q / 2 ^^^ 2197175160 : Nat) : Int)) (.int .i64 ((k : Int) + 1)) w := by
 refine ⟨_, k + 1, rfl, by congr 1, ?_, by omega, ?_, rfl⟩
 · have := Yg q hq; unfold step1 at this; rw [if_pos ho] at this; exact this
 · rw [show 8 - k = (8 - (k + 1)) + 1 by omega] at hs
   rw [← hs]; show _ = zW _ (step1 q)
   unfold step1; rw [if_pos ho]
theorem qW.even {r q k : Nat} {w : World} (hq : q < 4294967296) (hk : k < 8) (hs : zW (8 - k) q = sh8 r) (ho : ¬ q % 2 = 1) : qW r w (.int .u32 ((q : Int) / 2)) (.int .i64 ((k : Int) + 1)) w := by
 refine ⟨q / 2, k + 1, by congr 1, by congr 1, by omega, by omega, ?_, rfl⟩
 rw [show 8 - k = (8 - (k + 1)) + 1 by omega] at hs
 rw [← hs]; show _ = zW _ (step1 q)
 unfold step1; rw [if_neg ho]
theorem Ye (w : World) (r : Nat) (hr : r < 4294967296) :
 Calls Tryz.prog 197 #[.int .u32 (r : Int)] w fun e w' => e = .returned (.int .u32 (sh8 r : Int)) ∧ w = w' := by
 go_enter Tryz.func197, Tryz.ntmps197
 go_wp2_with fail
 go_loopw [0, 4] (fun v i wr => qW r w v i wr) (fun _ i _ => (8 - intOf i).toNat)
 case atStart => exact ⟨r, 0, rfl, rfl, hr, by omega, rfl, rfl⟩
 case round =>
  obtain ⟨q, k, rfl, rfl, hq, hk, hs, rfl⟩ := hrel
  by_cases hlt : k < 8
  · by_cases ho : q % 2 = 1
    · have H := hH (qW.odd (w := w) hq hlt hs ho)
      have e1 := Qn q hq ho
      have e2 := Yl q hq
      clear hs ho
      go_wp2_with fail
      exact ⟨H.out, by simp [intOf]; omega⟩
    · have H := hH (qW.even (w := w) hq hlt hs ho)
      have e1 := Yk q hq ho
      clear hs ho
      go_wp2_with fail
      exact ⟨H.out, by simp [intOf]; omega⟩
  · have hk8 : k = 8 := by omega
    subst hk8
    have H := hH hs
    clear hlt hs hk
    go_wp2_with fail
    go_ret
    have := H.out
    simp only [Nat.sub_self, zW] at this
    exact ⟨by rw [this]; rfl, rfl⟩
def TabAt (w : World) (tb : Nat) : Prop := ∃ cs : Array Value, w.heap[tb]? = some (.cells cs 223 (0, 0)) ∧ cs.size = 256 ∧ ∀ x : Nat, x < 256 → cs[x]? = some (.int .u32 0) ∨ cs[x]? = some (.int .u32 (sh8 x : Int))
structure Qs (w : World) (tb : Nat) (x : Nat) (e : Ending) (w' : World) : Prop where
 ret : e = .returned (.int .u32 (sh8 x : Int))
 tab : TabAt w' tb
 os : w'.os = w.os
 tape : w'.tape = w.tape
 output : w'.output = w.output
 size : w'.heap.size = w.heap.size
 block : ∀ k, k ≠ tb → w'.heap[k]? = w.heap[k]?
theorem TabAt.made {w : World} {tb : Nat} (h : TabAt w tb) (x : Nat) (hx : x < 256) : Qs w tb x (.returned (.int .u32 (sh8 x : Int))) (w.setCell ⟨tb, x, none⟩ (.int .u32 (sh8 x : Int))) := by
 obtain ⟨cs, h1, h2, h3⟩ := h
 refine ⟨rfl, ⟨cs.set! x (.int .u32 (sh8 x : Int)), heap_setCell_same w tb x _ _ _ h1, by simp [h2], fun y hy => ?_⟩, rfl, rfl, rfl, by simp [World.setCell], fun k hk => Below.heap_setCell _ _ _ _ hk⟩
 by_cases he : y = x
 · subst he
   exact Or.inr (by simp [h2, hy])
 · rw [show (cs.set! x (.int .u32 (sh8 x : Int)))[y]? = cs[y]? by simp [Ne.symm he]]
   exact h3 y hy
theorem Q5 (w : World) (tb x : Nat) (hx : x < 256) (h : TabAt w tb) :
 Calls Tryz.prog 196 #[.int .u8 (x : Int), .pointer (some ⟨tb, 0, none⟩)] w (Qs w tb x) := by
 have HM := hH (h.made x hx)
 have HS := hH (Ye w x (by omega))
 obtain ⟨cs, h1, h2, h3⟩ := h
 have hc := cell_of_row w tb x _ _ _ h1
 have hf := frozen_of_row w tb x _ _ h1
 have HT := hH (aN h1 (aN h2 h3))
 rcases h3 x hx with h4 | h4
 · rw [h4] at hc
   clear h1 h2 h3 h4
   go_enter Tryz.func196, Tryz.ntmps196
   go_wp2_with (go_at_call 197; refine HS.out.mono ?_; clear HS; rintro e w1 ⟨rfl, rfl⟩)
   go_ret
   exact HM.out
 · rw [h4] at hc
   clear h1 h2 h3 h4
   go_enter Tryz.func196, Tryz.ntmps196
   go_wp2_with (go_at_call 197; refine HS.out.mono ?_; clear HS; rintro e w1 ⟨rfl, rfl⟩)
   · go_ret
     exact HM.out
   · go_ret
     exact ⟨rfl, ⟨cs, HT.out.1, HT.out.2.1, HT.out.2.2⟩, rfl, rfl, rfl, rfl, fun _ _ => rfl⟩
theorem Tryz.zaE (w : World) : (zeroValue 223).run Tryz.prog w = .ok (.agg (Array.replicate 256 (.int .u32 0))) w := by kernel_rfl
def zbb (w : World) (e : Ending) (w' : World) : Prop := e = .returned (.func (.func 196) #[] #[.pointer (some ⟨w.heap.size, 0, none⟩)]) ∧ TabAt w' w.heap.size ∧ Below w.heap.size w w' ∧ w'.heap.size = w.heap.size + 1
theorem Jc (w : World) : Calls Tryz.prog 177 #[] w (zbb w) := by
 have hmf : ∀ (fn : Fn) (first cap : Array Value) (w : World), (Instr.makeFunc fn first cap).run Tryz.prog w = .ok (.func fn first cap) w := fun _ _ _ _ => rfl
 obtain ⟨z, hz, h1⟩ : ∃ z, (∀ w, (zeroValue 223).run Tryz.prog w = .ok (.agg z) w) ∧ z = Array.replicate 256 (.int .u32 0) := ⟨_, Tryz.zaE, rfl⟩
 have H := hH h1
 clear h1
 go_enter Tryz.func177, Tryz.ntmps177
 go_wp2_with fail
 go_ret
 refine ⟨rfl, ⟨z, heap_alloc_new w _, by rw [H.out]; simp, fun x hx => Or.inl (by rw [H.out]; simp [hx])⟩, (Below.refl _ _).alloc (Nat.le_refl _) _, by simp⟩
end Go.Proofs.YtchccbfljamjnaaGreat
namespace Go.Proofs.YtchccbfljamjnaaGreat
open Go.RowKit
open Extern.Stop (cell)
theorem jy (s : Nat) (h : s < 4294967296) : bits .xor .u32 IntKind.u32.max (s : Int) = ((4294967295 - s : Nat) : Int) := by
 rw [show IntKind.u32.max = ((4294967295 : Nat) : Int) by rfl, u32_xor_nat 4294967295 s (by decide) h]
 congr 1
 have h1 : (BitVec.ofNat 32 s).toNat = s := by simp; omega
 have h2 := BitVec.toNat_not (x := BitVec.ofNat 32 s)
 have h3 : ~~~ (BitVec.ofNat 32 s) = BitVec.allOnes 32 ^^^ BitVec.ofNat 32 s := by rw [BitVec.allOnes_xor]
 rw [h3, BitVec.toNat_xor, h1] at h2
 exact h2
theorem zaB (q : Nat) (x : UInt8) : bits .xor .u8 ((q : Int) % 256) (x.toNat : Int) = ((q % 256 ^^^ x.toNat : Nat) : Int) := by
 rw [show (q : Int) % 256 = ((q % 256 : Nat) : Int) by omega]
 exact u8_xor_nat _ _ (by omega) (qQ x)
theorem zaA (t q : Nat) (ht : t < 4294967296) (hq : q < 4294967296) : bits .xor .u32 (t : Int) ((q : Int) / 256) = ((t ^^^ q / 256 : Nat) : Int) := by
 rw [show (q : Int) / 256 = ((q / 256 : Nat) : Int) by omega]
 exact u32_xor_nat _ _ ht (by omega)
theorem Qs.below {w w' : World} {tb x : Nat} {e : Ending} (h : Qs w tb x e w') {B : Nat} (hB : B ≤ tb) : Below B w w' :=
 ⟨h.os, h.tape, h.output, by rw [h.size]; exact Nat.le_refl _, fun k hk => h.block k (by omega)⟩
theorem Qs.parts {w w' : World} {tb x : Nat} {e : Ending} (h : Qs w tb x e w') : e = .returned (.int .u32 (sh8 x : Int)) ∧ TabAt w' tb ∧ Below tb w w' := ⟨h.ret, h.tab, h.below (Nat.le_refl _)⟩
def zab (w : World) (tb s : Nat) (bs : List UInt8) (v i : Value) (wr : World) : Prop := ∃ k : Nat, k ≤ bs.length ∧ v = .int .u32 (jq (4294967295 - s) (bs.take k) : Int) ∧ i = .int .i64 (k : Int) ∧ Below tb w wr ∧ TabAt wr tb ∧ tb = w.heap.size
def Jj (w : World) (n : Nat) (e : Ending) (w' : World) : Prop := e = .returned (.int .u32 (n : Int)) ∧ Below w.heap.size w w'
theorem JN (w : World) (s : Nat) (hs : s < 4294967296) (a : Option Addr) (cap : Nat) (bs : List UInt8) (h : zx w a bs) (hl : bs.length ≤ 1000000000000) :
 Calls Tryz.prog 154 #[.int .u32 (s : Int), .slice a bs.length cap] w (Jj w (qI s bs)) := by
 have HT := hH (Jc w)
 have e0 := jy s hs
 have HB := hH h
 clear h
 go_enter Tryz.func154, Tryz.ntmps154
 go_wp2_with (go_at_call 177; refine HT.out.mono ?_; clear HT; rintro e w1 ⟨rfl, h1, h2, _⟩; have H1 := hH (aN h1 h2); clear h1 h2)
 clear e0
 have HW := hH (rfl : w.heap.size = w.heap.size)
 go_loopw [6, 14] (fun v i wr => zab w w.heap.size s bs v i wr) (fun _ i _ => (bs.length - intOf i).toNat)
 case atStart => exact ⟨0, Nat.zero_le _, rfl, rfl, H1.out.2, H1.out.1, rfl⟩
 case round =>
  obtain ⟨k, hk, rfl, rfl, hb, ht, -⟩ := hrel
  have HK := hH (aN hb ht)
  obtain ⟨q, hq⟩ : ∃ q, q = jq (4294967295 - s) (bs.take k) := ⟨_, rfl⟩
  have hql : q < 4294967296 := by rw [hq]; exact Y8 _ _ (by omega)
  rw [← hq]
  have HQ := hH hq
  clear hb ht hq
  by_cases hlt : k < bs.length
  · obtain ⟨x, hx⟩ : ∃ x, bs[k]? = some x := ⟨bs[k], List.getElem?_eq_getElem hlt⟩
    cases a with
    | none => have := HB.out.1 rfl; subst this; simp at hlt
    | some ad =>
      have hadl := HB.out.lt (by omega)
      have hc : wr.cell? (ad.add k) = some (.int .u8 (x.toNat : Int)) := (HB.out.kept (w' := wr) (fun ad' e => by cases e; exact HK.out.1.block _ hadl)).2 ad rfl k x hx
      have e1 := zaB q x
      have HR := hH (Q5 wr w.heap.size (q % 256 ^^^ x.toNat) (Nat.xor_lt_two_pow (n := 8) (by omega) (qQ x)) HK.out.2)
      have e2 := zaA (sh8 (q % 256 ^^^ x.toNat)) q (JZ _ (J6 _ _ (by omega) (by have := qQ x; omega))) hql
      have HX := hH hx
      clear hx
      go_wp2_with (go_at_call 196; refine HR.out.mono ?_; clear HR; rintro e w2 h2; obtain ⟨rfl, h3, h4⟩ := h2.parts; have H2 := hH (aN h3 h4); clear h2 h3 h4)
      refine ⟨⟨k + 1, by omega, ?_, by congr 1, HK.out.1.trans H2.out.2, H2.out.1, rfl⟩, by simp [intOf]; omega⟩
      rw [kQ _ _ _ _ HX.out, ← HQ.out, Q8 q]
  · have hke : k = bs.length := by omega
    subst hke
    have e0 := jy q hql
    go_wp2_with fail
    go_ret
    refine ⟨?_, HK.out.1⟩
    have e1 : qI s bs = 4294967295 - q := by rw [HQ.out, List.take_length]; rfl
    rw [e1]; rfl
theorem Jb (w : World) (a : Option Addr) (cap : Nat) (bs : List UInt8) (h : zx w a bs) (hl : bs.length ≤ 1000000000000) :
 Calls Tryz.prog 115 #[.slice a bs.length cap] w (Jj w (qI 0 bs)) := by
 have H := hH (JN w 0 (by decide) a cap bs h hl)
 clear h
 go_enter Tryz.func115, Tryz.ntmps115
 go_wp2_with (go_at_call 154; refine H.out.mono ?_; clear H; rintro e w1 ⟨rfl, h1⟩)
 go_ret
 exact ⟨rfl, h1⟩
theorem J3 (q : Nat) (x : UInt8) (hq : q < 4294967296) : bits .xor .u32 (q : Int) ((x.toNat : Int) % 4294967296) = ((q ^^^ x.toNat : Nat) : Int) := by
 have hb := qQ x
 rw [show (x.toNat : Int) % 4294967296 = (x.toNat : Int) by omega]
 exact u32_xor_nat _ _ hq (by omega)
def Jh (r : Nat) (w : World) (v i : Value) (wr : World) : Prop := qW r w v i wr
def zaR (w : World) (s : Nat) (bs : List UInt8) (v i : Value) (wr : World) : Prop := ∃ k : Nat, k ≤ bs.length ∧ v = .int .u32 (jq (4294967295 - s) (bs.take k) : Int) ∧ i = .int .i64 (k : Int) ∧ w = wr
theorem Z7 (w : World) (s : Nat) (hs : s < 4294967296) (a : Option Addr) (cap : Nat) (bs : List UInt8) (h : zx w a bs) (hl : bs.length ≤ 1000000000000) :
 Calls Tryz.prog 155 #[.int .u32 (s : Int), .slice a bs.length cap] w fun e w' => e = .returned (.int .u32 (qI s bs : Int)) ∧ w = w' := by
 have e0 := jy s hs
 have HB := hH h
 clear h
 go_enter Tryz.func155, Tryz.ntmps155
 go_wp2_with fail
 clear e0
 go_loopw [5, 6] (fun v i wr => zaR w s bs v i wr) (fun _ i _ => (bs.length - intOf i).toNat)
 case atStart => exact ⟨0, Nat.zero_le _, rfl, rfl, rfl⟩
 case round =>
  obtain ⟨k, hk, rfl, rfl, rfl⟩ := hrel
  obtain ⟨q, hq⟩ : ∃ q, q = jq (4294967295 - s) (bs.take k) := ⟨_, rfl⟩
  have hql : q < 4294967296 := by rw [hq]; exact Y8 _ _ (by omega)
  rw [← hq]
  have HQ := hH hq
  clear hq
  by_cases hlt : k < bs.length
  · obtain ⟨x, hx⟩ : ∃ x, bs[k]? = some x := ⟨bs[k], List.getElem?_eq_getElem hlt⟩
    cases a with
    | none => have := HB.out.1 rfl; subst this; simp at hlt
    | some ad =>
      have hc : w.cell? (ad.add k) = some (.int .u8 (x.toNat : Int)) := HB.out.2 ad rfl k x hx
      have e1 := J3 q x hql
      have HX := hH hx
      have hr := J6 q x.toNat hql (by have := qQ x; omega)
      obtain ⟨r, hre⟩ : ∃ r, r = q ^^^ x.toNat := ⟨_, rfl⟩
      rw [← hre] at e1 hr
      have HR := hH hre
      clear hx hre
      go_wp2_with fail
      clear e1 hc
      go_loopw [5, 7] (fun v i wr => Jh r w v i wr) (fun _ i _ => (8 - intOf i).toNat)
      case atStart => exact ⟨r, 0, rfl, rfl, hr, by omega, rfl, rfl⟩
      case round =>
       obtain ⟨q2, j, rfl, rfl, hq2, hj, hs2, rfl⟩ := hrel
       by_cases hlt2 : j < 8
       · by_cases ho : q2 % 2 = 1
         · have H := hH (qW.odd (w := w) hq2 hlt2 hs2 ho)
           have e1 := Qn q2 hq2 ho
           have e2 := Yl q2 hq2
           clear hs2 ho
           go_wp2_with fail
           exact ⟨H.out, by simp [intOf]; omega⟩
         · have H := hH (qW.even (w := w) hq2 hlt2 hs2 ho)
           have e1 := Yk q2 hq2 ho
           clear hs2 ho
           go_wp2_with fail
           exact ⟨H.out, by simp [intOf]; omega⟩
       · have hj8 : j = 8 := by omega
         subst hj8
         have H := hH hs2
         clear hlt2 hs2 hj
         go_wp2_with fail
         have h1 := H.out
         simp only [Nat.sub_self, zW] at h1
         refine ⟨⟨k + 1, by omega, ?_, by congr 1, rfl⟩, by simp [intOf]; omega⟩
         rw [kQ _ _ _ _ HX.out, ← HQ.out, ← HR.out, h1]
  · have hke : k = bs.length := by omega
    subst hke
    have e0 := jy q hql
    go_wp2_with fail
    go_ret
    refine ⟨?_, rfl⟩
    have e1 : qI s bs = 4294967295 - q := by rw [HQ.out, List.take_length]; rfl
    rw [e1]; rfl
theorem YV (w : World) (a : Option Addr) (cap : Nat) (bs : List UInt8) (h : zx w a bs) (hl : bs.length ≤ 1000000000000) :
 Calls Tryz.prog 118 #[.slice a bs.length cap] w fun e w' => e = .returned (.int .u32 (qI 0 bs : Int)) ∧ w = w' := by
 have H := hH (Z7 w 0 (by decide) a cap bs h hl)
 clear h
 go_enter Tryz.func118, Tryz.ntmps118
 go_wp2_with (go_at_call 155; refine H.out.mono ?_; clear H; rintro e w1 ⟨rfl, rfl⟩)
 go_ret
 exact ⟨rfl, rfl⟩
end Go.Proofs.YtchccbfljamjnaaGreat
