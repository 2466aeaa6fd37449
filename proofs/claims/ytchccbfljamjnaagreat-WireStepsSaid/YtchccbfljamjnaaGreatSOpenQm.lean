/-
  .
-/
import Derived.Test.YtchccbfljamjnaaGreatSRefQm
import Derived.Deep.RegionWith
import Derived.Deep.CutRange
import Derived.Test.YtchccbfljamjnaaGreatJPgQm
set_option maxRecDepth 100000
set_option maxHeartbeats 40000000

namespace Go.Proofs.YtchccbfljamjnaaGreat
open Go.RowKit
open Extern.Stop (cell)
def zZ (n : Int) (s : Nat) : UInt8 := UInt8.ofNat (n / (2 ^ s : Nat) % 256).toNat
def be4 (n : Int) : List UInt8 := [zZ n 24, zZ n 16, zZ n 8, zZ n 0]
def yh (bs : List UInt8) : List UInt8 := bs ++ be4 (qI 0 bs : Int)
theorem zaT (n : Int) (k : Nat) (h : k < 4) : (be4 n)[k]? = some (zZ n (24 - 8 * k)) := by
 have : k = 0 ∨ k = 1 ∨ k = 2 ∨ k = 3 := by omega
 rcases this with rfl | rfl | rfl | rfl <;> rfl
theorem qZ (n : Int) : (be4 n).length = 4 := rfl
theorem zS (bs : List UInt8) : (yh bs).length = bs.length + 4 := by simp [yh, qZ]
theorem qJ (n : Int) (q : Nat) : cell (zZ n q) = .int .u8 (n / 2 ^ q % 256) := by
 have h0 : 0 ≤ n / 2 ^ q % 256 := Int.emod_nonneg _ (by decide)
 have h1 : n / 2 ^ q % 256 < 256 := Int.emod_lt_of_pos _ (by decide)
 have e : (zZ n q).toNat = (n / 2 ^ q % 256).toNat := by
  have e2 : zZ n q = UInt8.ofNat (n / 2 ^ q % 256).toNat := by unfold zZ; push_cast; rfl
  rw [e2, UInt8.toNat_ofNat']; omega
 show Value.int .u8 ((zZ n q).toNat : Int) = _
 rw [e, Int.toNat_of_nonneg h0]
theorem ZB (bs : List UInt8) (n : Int) (k : Nat) (h : k < 4) : (bs ++ (be4 n).take (k + 1)).length = (bs ++ (be4 n).take k).length + 1 ∧ (bs ++ (be4 n).take (k + 1)).map cell = (bs ++ (be4 n).take k).map cell ++ [.int .u8 (n / 2 ^ (24 - 8 * k) % 256)] := by
 rw [List.take_add_one, zaT n k h]
 refine ⟨by simp; omega, ?_⟩
 simp [qJ]
theorem Z4 {w w' : World} {B : Nat} {v : Value} (hB : B ≤ w.heap.size) (ho : w'.ownsRow B 5 1 v 0 []) (hg : w.grownBy w' none) : zD B v 0 [] w w' :=
 ⟨ho, ⟨hg.os, hg.tape, hg.output, hg.size, fun k hk => hg.block k (by omega) (by simp)⟩, Nat.le_trans hB hg.size⟩
def Y7 (B : Nat) (bs : List UInt8) (n : Int) (W0 : World) (v i : Value) (wr : World) : Prop := ∃ k : Nat, k ≤ 4 ∧ i = .int .i64 (24 - 8 * (k : Int)) ∧ yQ B v (bs ++ (be4 n).take k) W0 wr
theorem zx.cells {w : World} {ad : Addr} {bs : List UInt8} (h : zx w (some ad) bs) : ∀ j u, bs[j]? = some u → w.cell? (ad.add j) = some (cell u) := h.2 ad rfl
theorem qz {w w1 w2 : World} {v : Value} {bs : List UInt8} (h1 : Below w.heap.size w w1) (h2 : zD w.heap.size v (0 + bs.length) ([] ++ bs.map cell) w1 w2) : yQ w.heap.size v bs w w2 := by
 rw [Nat.zero_add, List.nil_append] at h2
 exact ⟨h2.1, h1.trans h2.2.1, h2.2.2⟩
theorem Yc (w : World) (a : Option Addr) (cap : Nat) (bs : List UInt8) (h : zx w a bs) (hl : bs.length ≤ 1000000000) :
 Calls Tryz.prog 71 #[.slice a bs.length cap] w (Jk w.heap.size (yh bs) w) := by
 have HS := hH (Jb w a cap bs h (by omega))
 obtain ⟨i0, hi, hz, hs, hby⟩ := ZU Tryz.Qd
 have HI := hH (aN hi (aN hz (aN hs hby)))
 have HB := hH h
 have HL := hH hl
 have hlen : 0 ≤ (bs.length : Int) + 4 := by omega
 clear h hi hz hs hby
 cases a with
 | none =>
   have HE := hH (HB.out.1 rfl)
   go_enter Tryz.func71, Tryz.ntmps71
   go_wp2_with (first
    | (go_at_call 115; refine HS.out.mono ?_; clear HS; rintro e w1 ⟨rfl, h1⟩; obtain ⟨w2, hm, ho, hg⟩ := run_make_own (P := Tryz.prog) w1 w.heap.size 45 5 i0 (.int .u8 0) 1 Tryz.underlying45 HI.out.1 HI.out.2.1 HI.out.2.2.1 .i64 .i64 (bs.length + 4) (by rw [HI.out.2.2.2]; have := HL.out; omega) (by unfold maxLen; have := HL.out; omega) h1.size; have H1 := hH (aN h1 (Z4 h1.size ho hg)); clear h1 ho hg; rw [show ((bs.length + 4 : Nat) : Int) = (bs.length : Int) + 4 by push_cast; rfl] at hm)
    | (at_builtin; (with_reducible refine jm rfl (.tmp 12) (.tmp 13) 45 rfl w.heap.size i0 Tryz.underlying45 HI.out.1 (.slice (some ⟨w1.heap.size, 0, none⟩) 0 (bs.length + 4)) 0 [] rfl w1 H1.out.2 cap bs HE.out rfl ?_); intro v' w3 ho; have HO := hH (qz H1.out.1 ho); clear ho H1))
   obtain ⟨n, hn⟩ : ∃ n : Nat, n = qI 0 bs := ⟨_, rfl⟩
   rw [← hn]
   have HN := hH hn
   clear hn
   go_loopw [4, 5] (fun v i wr => Y7 w.heap.size bs (n : Int) w v i wr) (fun _ i _ => (intOf i + 8).toNat)
   case atStart => exact ⟨0, Nat.zero_le _, rfl, by simpa using HO.out⟩
   case round =>
    obtain ⟨k, hk, rfl, hinv⟩ := hrel
    have HV := hH hinv
    clear hinv
    by_cases hlt : k < 4
    · obtain ⟨q, hq⟩ : ∃ q : Nat, q = 24 - 8 * k := ⟨_, rfl⟩
      have hqi : (24 - 8 * (k : Int)) = (q : Int) := by omega
      have hq24 : q ≤ 24 := by omega
      have HQ := hH (aN hq (aN hlt hqi))
      rw [hqi]
      clear hq hqi hlt hk
      go_wp2_with (at_builtin; refine qX rfl (.tmp 19) (.tmp 24) 45 rfl w.heap.size i0 Tryz.underlying45 HI.out.1 HI.out.2.1 HI.out.2.2.1 HI.out.2.2.2 _ (bs ++ (be4 n).take k).length ((bs ++ (be4 n).take k).map cell) rfl w wr ((n : Int) / 2 ^ q % 256) HV.out _ rfl rfl (by have := HQ.out.2.1; have := HL.out; simp only [List.length_append, List.length_take, qZ]; omega) ?_; intro v' w1 ho; have HO2 := hH ho; clear ho)
      refine ⟨⟨k + 1, by have := HQ.out.2.1; omega, by have := HQ.out.2.2; congr 1; omega, ?_⟩, by simp [intOf]; omega⟩
      have h1 := ZB bs n k HQ.out.2.1
      rw [← HQ.out.1] at h1
      have h2 := HO2.out
      show zD w.heap.size v' (bs ++ (be4 n).take (k + 1)).length ((bs ++ (be4 n).take (k + 1)).map cell) w w1
      rw [h1.1, h1.2]
      exact h2
    · have hk4 : k = 4 := by omega
      subst hk4
      have hi4 : (24 - 8 * ((4 : Nat) : Int)) = -8 := by omega
      rw [hi4]
      clear hlt hk hi4
      go_wp2_with fail
      go_ret
      have h2 := HV.out
      rw [HN.out] at h2
      exact ⟨_, rfl, h2⟩
 | some ad =>
   go_enter Tryz.func71, Tryz.ntmps71
   go_wp2_with (first
    | (go_at_call 115; refine HS.out.mono ?_; clear HS; rintro e w1 ⟨rfl, h1⟩; obtain ⟨w2, hm, ho, hg⟩ := run_make_own (P := Tryz.prog) w1 w.heap.size 45 5 i0 (.int .u8 0) 1 Tryz.underlying45 HI.out.1 HI.out.2.1 HI.out.2.2.1 .i64 .i64 (bs.length + 4) (by rw [HI.out.2.2.2]; have := HL.out; omega) (by unfold maxLen; have := HL.out; omega) h1.size; have H1 := hH (aN h1 (Z4 h1.size ho hg)); clear h1 ho hg; rw [show ((bs.length + 4 : Nat) : Int) = (bs.length : Int) + 4 by push_cast; rfl] at hm)
    | (at_builtin; (with_reducible refine qN rfl (.tmp 12) (.tmp 13) 45 rfl w.heap.size i0 Tryz.underlying45 HI.out.1 HI.out.2.1 HI.out.2.2.1 HI.out.2.2.2 (.slice (some ⟨w1.heap.size, 0, none⟩) 0 (bs.length + 4)) 0 [] rfl w1 H1.out.2 ad cap bs rfl ((HB.out.below (H1.out.1.trans H1.out.2.below)).cells) (by have := HL.out; omega) ?_); intro v' w3 ho; have HO := hH (qz H1.out.1 ho); clear ho H1))
   obtain ⟨n, hn⟩ : ∃ n : Nat, n = qI 0 bs := ⟨_, rfl⟩
   rw [← hn]
   have HN := hH hn
   clear hn
   go_loopw [4, 5] (fun v i wr => Y7 w.heap.size bs (n : Int) w v i wr) (fun _ i _ => (intOf i + 8).toNat)
   case atStart => exact ⟨0, Nat.zero_le _, rfl, by simpa using HO.out⟩
   case round =>
    obtain ⟨k, hk, rfl, hinv⟩ := hrel
    have HV := hH hinv
    clear hinv
    by_cases hlt : k < 4
    · obtain ⟨q, hq⟩ : ∃ q : Nat, q = 24 - 8 * k := ⟨_, rfl⟩
      have hqi : (24 - 8 * (k : Int)) = (q : Int) := by omega
      have hq24 : q ≤ 24 := by omega
      have HQ := hH (aN hq (aN hlt hqi))
      rw [hqi]
      clear hq hqi hlt hk
      go_wp2_with (at_builtin; refine qX rfl (.tmp 19) (.tmp 24) 45 rfl w.heap.size i0 Tryz.underlying45 HI.out.1 HI.out.2.1 HI.out.2.2.1 HI.out.2.2.2 _ (bs ++ (be4 n).take k).length ((bs ++ (be4 n).take k).map cell) rfl w wr ((n : Int) / 2 ^ q % 256) HV.out _ rfl rfl (by have := HQ.out.2.1; have := HL.out; simp only [List.length_append, List.length_take, qZ]; omega) ?_; intro v' w1 ho; have HO2 := hH ho; clear ho)
      refine ⟨⟨k + 1, by have := HQ.out.2.1; omega, by have := HQ.out.2.2; congr 1; omega, ?_⟩, by simp [intOf]; omega⟩
      have h1 := ZB bs n k HQ.out.2.1
      rw [← HQ.out.1] at h1
      have h2 := HO2.out
      show zD w.heap.size v' (bs ++ (be4 n).take (k + 1)).length ((bs ++ (be4 n).take (k + 1)).map cell) w w1
      rw [h1.1, h1.2]
      exact h2
    · have hk4 : k = 4 := by omega
      subst hk4
      have hi4 : (24 - 8 * ((4 : Nat) : Int)) = -8 := by omega
      rw [hi4]
      clear hlt hk hi4
      go_wp2_with fail
      go_ret
      have h2 := HV.out
      rw [HN.out] at h2
      exact ⟨_, rfl, h2⟩
theorem zD.empty (w : World) : zD w.heap.size (.slice none 0 0) 0 [] w w := yQ.none w
section
variable {P : Program}
theorem jl {ops : Array Oper} {rest : List Oper} {o : Oper} {a : Act} {Q : Exit → Act → World → Prop} (hgd : o.guard = none) (s x : Operand) (t : TypeId)
 (ho : o.op = .call { callee := .builtin .append, args := #[s, x], argTypes := #[t, t] })
 (B : Nat) (i : TypeInfo) (ht : P.underlying t = some (.slice 5)) (hi : P.info? 5 = some i) (hz : i.zero = some (.int .u8 0)) (hsize : i.size = 1) (hby : i.bytes = 1)
 (v : Value) (bs : List UInt8) (hs : a.eval s = v) (W0 w0 : World) (c0 c1 c2 c3 : Int) (hb : yQ B v bs W0 w0)
 (g0 : Nat) (hg0 : g0 = w0.heap.size) (hx : a.eval x = .slice (some ⟨g0, 0, none⟩) 4 4) (hlen : bs.length + 4 ≤ 140737488355328)
 (h : ∀ v' w', zD B v' (bs.length + 4) (bs.map cell ++ [.int .u8 c0, .int .u8 c1, .int .u8 c2, .int .u8 c3]) W0 w' → wpList P ops Q rest (a.put o.dst v') w') : wpList P ops Q (o :: rest) a (w0.alloc (.cells #[.int .u8 c0, .int .u8 c1, .int .u8 c2, .int .u8 c3] 5)) := by
 subst hg0
 have hb' := zD.alloc hb (.cells #[.int .u8 c0, .int .u8 c1, .int .u8 c2, .int .u8 c3] 5)
 exact wpList_append_own _ hgd s x t ho B 5 i (.int .u8 0) 1 1 ht hi hz hsize hby rfl (by decide) v bs.length (bs.map cell) hs hb'.1 ⟨w0.heap.size, 0, none⟩ 4 4 [.int .u8 c0, .int .u8 c1, .int .u8 c2, .int .u8 c3] hx rfl
  (World.news_of_block (cs := #[.int .u8 c0, .int .u8 c1, .int .u8 c2, .int .u8 c3]) (heap_alloc_new w0 _)) (by simp [Value.oneCell']) (by unfold maxLen; omega) (by omega) hb'.2.2 fun v' w' ho' hg _ => h v' w' (hb'.grown ho' hg)
end
theorem Qw (n : Nat) : (be4 (n : Int)).map cell = [.int .u8 ((n : Int) / 16777216 % 256), .int .u8 ((n : Int) / 65536 % 256), .int .u8 ((n : Int) / 256 % 256), .int .u8 ((n : Int) % 256)] := by
 simp [be4, qJ]
theorem ZR {w w4 : World} {v : Value} {bs : List UInt8} {n : Nat} (hn : n = qI 0 bs) (h : zD w.heap.size v (bs.length + 4) (bs.map cell ++ [.int .u8 ((n : Int) / 16777216 % 256), .int .u8 ((n : Int) / 65536 % 256), .int .u8 ((n : Int) / 256 % 256), .int .u8 ((n : Int) % 256)]) w w4) : yQ w.heap.size v (yh bs) w w4 := by
 show zD _ _ (yh bs).length ((yh bs).map cell) _ _
 rw [zS]
 unfold yh
 rw [List.map_append, ← hn, Qw]
 exact h
theorem zaJ (w : World) (a : Option Addr) (cap : Nat) (bs : List UInt8) (h : zx w a bs) (hl : bs.length ≤ 1000000000) :
 Calls Tryz.prog 75 #[.slice a bs.length cap] w (Jk w.heap.size (yh bs) w) := by
 have HS := hH (YV w a cap bs h (by omega))
 obtain ⟨i0, hi, hz, hs, hby⟩ := ZU Tryz.Qd
 have HI := hH (aN hi (aN hz (aN hs hby)))
 have HB := hH h
 have HL := hH hl
 obtain ⟨n, hn⟩ : ∃ n : Nat, n = qI 0 bs := ⟨_, rfl⟩
 have HN := hH hn
 clear h hi hz hs hby hn
 cases a with
 | none =>
   have HE := hH (HB.out.1 rfl)
   go_enter Tryz.func75, Tryz.ntmps75
   go_wp2_with (first
    | (go_at_call 118; refine HS.out.mono ?_; clear HS; rintro e w1 ⟨rfl, rfl⟩; rw [← HN.out])
    | (at_builtin; (with_reducible refine jm rfl (.tmp 7) (.tmp 8) 45 rfl w.heap.size i0 Tryz.underlying45 HI.out.1 (.slice none 0 0) 0 [] rfl w (zD.empty w) cap bs HE.out rfl ?_); intro v' w3 ho; have HO := hH (qz (Below.refl _ _) ho); clear ho)
    | (at_builtin; (with_reducible refine jl rfl (.tmp 10) (.tmp 22) 45 rfl w.heap.size i0 Tryz.underlying45 HI.out.1 HI.out.2.1 HI.out.2.2.1 HI.out.2.2.2 v' bs rfl w w3 ((n : Int) / 16777216 % 256) ((n : Int) / 65536 % 256) ((n : Int) / 256 % 256) ((n : Int) % 256) HO.out _ rfl rfl (by have := HL.out; omega) ?_); intro v2 w4 ho; have HO2 := hH ho; clear ho))
   go_ret
   exact ⟨_, rfl, ZR HN.out HO2.out⟩
 | some ad =>
   go_enter Tryz.func75, Tryz.ntmps75
   go_wp2_with (first
    | (go_at_call 118; refine HS.out.mono ?_; clear HS; rintro e w1 ⟨rfl, rfl⟩; rw [← HN.out])
    | (at_builtin; (with_reducible refine qN rfl (.tmp 7) (.tmp 8) 45 rfl w.heap.size i0 Tryz.underlying45 HI.out.1 HI.out.2.1 HI.out.2.2.1 HI.out.2.2.2 (.slice none 0 0) 0 [] rfl w (zD.empty w) ad cap bs rfl HB.out.cells (by have := HL.out; omega) ?_); intro v' w3 ho; have HO := hH (qz (Below.refl _ _) ho); clear ho)
    | (at_builtin; (with_reducible refine jl rfl (.tmp 10) (.tmp 22) 45 rfl w.heap.size i0 Tryz.underlying45 HI.out.1 HI.out.2.1 HI.out.2.2.1 HI.out.2.2.2 v' bs rfl w w3 ((n : Int) / 16777216 % 256) ((n : Int) / 65536 % 256) ((n : Int) / 256 % 256) ((n : Int) % 256) HO.out _ rfl rfl (by have := HL.out; omega) ?_); intro v2 w4 ho; have HO2 := hH ho; clear ho))
   go_ret
   exact ⟨_, rfl, ZR HN.out HO2.out⟩
theorem ZK (w : World) (a b : Option Addr) (na nb ca cb : Nat) (bs cs : List UInt8) (hna : na = bs.length) (hnb : nb = cs.length) (h : zx w a bs) (k : zx w b cs) :
 Calls Tryz.prog 119 #[.slice a na ca, .slice b nb cb] w fun e w' => e = .returned (.bool (bs == cs)) ∧ w = w' := by
 subst hna hnb
 have e1 := h.text ca
 have e2 := k.text cb
 clear h k
 go_enter Tryz.func119, Tryz.ntmps119
 go_wp2_with fail
 go_ret
 exact ⟨rfl, rfl⟩
theorem yQ.some {B : Nat} {v : Value} {bs : List UInt8} {W0 w : World} (h : yQ B v bs W0 w) (h0 : 0 < bs.length) : ∃ a cap, v = .slice (some a) bs.length cap ∧ zx w (some a) bs ∧ bs.length ≤ cap ∧ (cap : Int) ≤ 9223372036854775807 := by
 obtain ⟨a, cap, e, h1, h2, h3⟩ := h.zbu
 cases a with
 | none => have := h1.1 rfl; rw [this] at h0; simp at h0
 | some a => exact ⟨a, cap, e, h1, h2, h3⟩
def okN (bs : List UInt8) : Bool := yh (bs.take (bs.length - 4)) == bs
def qK (bs : List UInt8) : List UInt8 := if okN bs then bs.take (bs.length - 4) else []
theorem QU {bs : List UInt8} (h : bs.length < 4) : okN bs = false := by
 unfold okN
 rw [beq_eq_false_iff_ne]
 intro e
 have := congrArg List.length e
 rw [zS] at this
 simp at this
 omega
def zbc (w : World) (bs : List UInt8) (e : Ending) (w' : World) : Prop := ∃ a c, e = .returned (.tuple #[.slice a (qK bs).length c, .bool (okN bs)]) ∧ zx w' a (qK bs) ∧ Below w.heap.size w w'
theorem JQ (w : World) (a : Option Addr) (cap : Nat) (bs : List UInt8) (h : zx w a bs) (hl : bs.length ≤ 1000000000) (hc : bs.length ≤ cap) (hc2 : (cap : Int) ≤ 9223372036854775807) :
 Calls Tryz.prog 76 #[.slice a bs.length cap] w (zbc w bs) := by
 by_cases h4 : bs.length < 4
 · have ho := QU h4
   have HO := hH ho
   have h4' : ((bs.length : Int) - 4) < 0 := by omega
   clear ho h
   go_enter Tryz.func76, Tryz.ntmps76
   go_wp2_with fail
   go_ret2
   have e : qK bs = [] := by unfold qK; rw [HO.out]; rfl
   exact ⟨none, 0, by rw [e, HO.out]; rfl, by rw [e]; exact zx.nil _ _, Below.refl _ _⟩
 · obtain ⟨m, hm⟩ : ∃ m, bs.length = m + 4 := ⟨bs.length - 4, by omega⟩
   have htl : (bs.take m).length = m := by simp; omega
   cases a with
   | none => have := h.1 rfl; subst this; simp at h4
   | some ad =>
     have HS := hH (Yc w (some ad) cap (bs.take m) (h.take m) (by omega))
     rw [htl] at HS
     have HB := hH h
     have HM := hH (aN hm htl)
     rw [hm]
     rw [hm] at hc
     clear h hm htl h4
     go_enter Tryz.func76, Tryz.ntmps76
     go_wp2_with (first
      | (go_at_call 71; refine HS.out.mono ?_; clear HS; rintro e w1 ⟨v1, rfl, h1⟩; obtain ⟨a1, c1, rfl, hb1, hle1, hc1⟩ := h1.some (by rw [zS]; omega); have hsl : (yh (bs.take m)).length = m + 4 := by { rw [zS, HM.out.2] }; rw [hsl] at hle1; rw [hsl]; have HE := hH (ZK w1 (some a1) (some ad) (m + 4) (m + 4) c1 cap (yh (bs.take m)) bs hsl.symm HM.out.1.symm hb1 (HB.out.below h1.below)); have H1 := hH (aN h1.below hb1); obtain ⟨ok, hok⟩ : ∃ ok, ok = (yh (bs.take m) == bs) := ⟨_, rfl⟩; rw [← hok] at HE; have HK := hH hok; clear h1 hb1 hok hsl)
      | (go_at_call 119; refine HE.out.mono ?_; clear HE; rintro e w2 ⟨rfl, rfl⟩; cases ok))
     · go_ret2
       have e : okN bs = false := by unfold okN; rw [show bs.length - 4 = m by have := HM.out.1; omega, ← HK.out]
       have e2 : qK bs = [] := by unfold qK; rw [e]; rfl
       exact ⟨none, 0, by rw [e2, e]; rfl, by rw [e2]; exact zx.nil _ _, H1.out.1⟩
     · go_ret2
       have hm4 : bs.length - 4 = m := by have := HM.out.1; omega
       have e : okN bs = true := by unfold okN; rw [hm4, ← HK.out]
       have e2 : qK bs = bs.take m := by unfold qK; rw [e, hm4]; rfl
       have e3 : yh (bs.take m) = bs := by have := HK.out; exact eq_of_beq this.symm
       refine ⟨some a1, m, by rw [e2, e, HM.out.2]; rfl, ?_, H1.out.1⟩
       rw [e2]
       have h5 := H1.out.2
       rw [e3] at h5
       exact h5.take m
end Go.Proofs.YtchccbfljamjnaaGreat
