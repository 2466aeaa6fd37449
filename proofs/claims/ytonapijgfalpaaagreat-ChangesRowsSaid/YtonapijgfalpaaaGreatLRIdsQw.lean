/-
  .
-/
import Derived.StillTailTactics
import Derived.Test.YtonapijgfalpaaaGreatJSeqQw
import Derived.Test.YtonapijgfalpaaaGreatJGreatQw
import Derived.Test.YtonapijgfalpaaaGreatLRowQw
import Derived.Test.YtonapijgfalpaaaGreatLRNamesQw
import Derived.Test.YtonapijgfalpaaaGreatVFaultQw
import Derived.Deep.Cut
import Derived.Test.YtonapijgfalpaaaGreatKOpenQw
import Derived.Test.YtonapijgfalpaaaGreatJPgQw
set_option maxRecDepth 100000
set_option maxHeartbeats 40000000
set_option linter.unusedVariables false
set_option linter.unusedSimpArgs false
namespace Go.Proofs.YtonapijgfalpaaaGreat
open Go.RowKit
theorem zcQ {X0 X1 X : World} {s : Sf} {aa ba : Option Addr} {ac bc n m : Nat} (h0 : zU X0 s.sub.kids aa ac) (h1 : zU X1 s.sub.kids ba bc) (b0 : Below X0.heap.size X0 X) (b1 : Below X1.heap.size X1 X) (hz : ze s.sub.kids + 1 ≤ 100000) (hn : n = zb s.sub.kids) (hm : m = zb s.sub.kids) :
 Calls Tryz.prog 27 #[.agg #[.int .i8 s.op, .int .i64 s.id, .int .i64 s.par, .int .i64 s.at_, .string s.tx, .int .i64 s.sub.id, .int .i64 s.sub.kind, .string s.sub.text, .slice aa n ac], .agg #[.int .i8 s.op, .int .i64 s.id, .int .i64 s.par, .int .i64 s.at_, .string s.tx, .int .i64 s.sub.id, .int .i64 s.sub.kind, .string s.sub.text, .slice ba m bc]] X (ze5 X) := by
 have HC : Hid (∀ w', Below X.heap.size X w' → Calls Tryz.prog 21 #[.agg #[.int .i64 s.sub.id, .int .i64 s.sub.kind, .string s.sub.text, .slice aa n ac], .agg #[.int .i64 s.sub.id, .int .i64 s.sub.kind, .string s.sub.text, .slice ba m bc]] w' (vO s.sub s.sub w')) :=
  hH fun w' hb => by rw [hn, hm]; exact zfB h0 h1 (b0.trans (hb.mono b0.size)) (b1.trans (hb.mono b1.size)) hz
 have HS := hH (Y9 s.sub)
 clear h0 h1 b0 b1 hz hn hm
 go_enter Tryz.func27, Tryz.ntmps27
 go_wp2_with fail
 refine (HC.out _ (zn _ _ _)).mono ?_
 rintro e w2 ⟨rfl, hb⟩
 rw [HS.out]
 have HB := hH ((zn _ _ _).trans (hb.mono (zn _ _ _).size))
 clear hb
 go_wp2_with fail
 go_ret
 exact ⟨rfl, HB.out⟩
theorem Row.at {w X : World} {a : Option Addr} {vs : List SV} (h : Row w a vs) (hb : Below w.heap.size w X) {k : Nat} {x : SV} (hx : vs[k]? = some x) : ∃ b off, a = some ⟨b, off, none⟩ ∧ X.cell? ⟨b, off + k * 9, none⟩ = some (.int .i8 x.s.op) ∧ X.cell? ⟨b, off + k * 9 + 1, none⟩ = some (.int .i64 x.s.id) ∧ X.cell? ⟨b, off + k * 9 + 2, none⟩ = some (.int .i64 x.s.par) ∧ X.cell? ⟨b, off + k * 9 + 3, none⟩ = some (.int .i64 x.s.at_) ∧ X.cell? ⟨b, off + k * 9 + 4, none⟩ = some (.string x.s.tx) ∧ X.cell? ⟨b, off + k * 9 + 5, none⟩ = some (.int .i64 x.s.sub.id) ∧ X.cell? ⟨b, off + k * 9 + 6, none⟩ = some (.int .i64 x.s.sub.kind) ∧ X.cell? ⟨b, off + k * 9 + 7, none⟩ = some (.string x.s.sub.text) ∧ X.cell? ⟨b, off + k * 9 + 8, none⟩ = some (.slice x.a (zb x.s.sub.kids) x.c) := by
 obtain ⟨b, off, e, hbl, hc⟩ := h.cells k x hx
 have hg := fun j u hj => (World.cell?_of_block (a := ⟨b, off + k * 9 + j, none⟩) (hb.block b hbl)).trans (hc j u hj)
 exact ⟨b, off, e, hg 0 _ rfl, hg 1 _ rfl, hg 2 _ rfl, hg 3 _ rfl, hg 4 _ rfl, hg 5 _ rfl, hg 6 _ rfl, hg 7 _ rfl, hg 8 _ rfl⟩
theorem zbF (w : World) (la lb : Option Addr) (n ca cb : Nat) (pa pb : List SV) (hn : n = pa.length) (he : steps pa = steps pb) (ha : Row w la pa) (hb : Row w lb pb) :
 Calls Tryz.prog 9 #[.slice la n ca, .slice lb n cb] w (ze5 w) := by
 have hl : n ≤ 1000000 := by have := ha.len; omega
 have hnb : n = pb.length := by rw [← zD pb, ← he, zD, hn]
 have H := hH (aN ha (aN hb (aN hn (aN hnb he))))
 clear ha hb hn hnb he
 go_enter Tryz.func9, Tryz.ntmps9
 go_wp2_with fail
 go_loopw [5] (fun i wr => ∃ k : Nat, k ≤ n ∧ i = .int .i64 (k : Int) ∧ Hid (Below w.heap.size w wr)) (fun i _ => n - (intOf i).toNat)
 case atStart => exact ⟨0, Nat.zero_le _, rfl, hH (Below.refl _ _)⟩
 case round =>
  obtain ⟨k, hk, rfl, hbel⟩ := hrel
  by_cases hlt : k < n
  · obtain ⟨x, hx⟩ : ∃ x, pa[k]? = some x := ⟨_, List.getElem?_eq_getElem (by rw [← H.out.2.2.1]; exact hlt)⟩
    obtain ⟨y, hy⟩ : ∃ y, pb[k]? = some y := ⟨_, List.getElem?_eq_getElem (by rw [← H.out.2.2.2.1]; exact hlt)⟩
    have hxy : y.s = x.s := by
     have h1 := yD hx
     rw [H.out.2.2.2.2, yD hy] at h1
     exact Option.some.inj h1
    obtain ⟨W, hW⟩ : ∃ W, W = wr.drew := ⟨_, rfl⟩
    have hW0 : Below w.heap.size w W := by rw [hW]; exact below_drewN hbel.out 1
    obtain ⟨b, off, rfl, c0, c1, c2, c3, c4, c5, c6, c7, c8⟩ := H.out.1.at hW0 hx
    obtain ⟨b', off', rfl, d0, d1, d2, d3, d4, d5, d6, d7, d8⟩ := H.out.2.1.at hW0 hy
    have hlx := H.out.1.lies x (List.mem_of_getElem? hx)
    have hly := H.out.2.1.lies y (List.mem_of_getElem? hy)
    have hfx := H.out.1.fit x (List.mem_of_getElem? hx)
    unfold qE at hlx hly
    rw [hxy] at hly d0 d1 d2 d3 d4 d5 d6 d7 d8
    obtain ⟨xs, xa, xc⟩ := x
    obtain ⟨ys, ya, yc⟩ := y
    simp only at hxy hlx hly hfx c0 c1 c2 c3 c4 c5 c6 c7 c8 d0 d1 d2 d3 d4 d5 d6 d7 d8
    subst hxy
    obtain ⟨m, hm⟩ : ∃ m, m = zb ys.sub.kids := ⟨_, rfl⟩
    rw [← hm] at c8 d8
    have HC := hH (zcQ (X := W) hlx hly hW0 hW0 (by have := hfx.size; omega) hm hm)
    have HW := hH hW
    have HW0 := hH hW0
    have HKN := hH (aN hk hlt)
    have hkl : (k : Int) < (n : Int) := by omega
    clear hx hy hlx hly hfx hm hW hW0 hk hlt hbel
    go_wp2_with fail
    have hdr : ({ heap := wr.heap, tape := wr.tape, drawn := wr.drawn + 1, os := wr.os, output := wr.output } : World) = W := HW.out.symm
    refine wp_region_still_tail 8 (by kernel_rfl) (by kernel_rfl) ?_
    simp only [List.take_succ_cons, List.take_zero, List.drop_succ_cons, List.drop_zero]
    rw [hdr]
    clear hdr
    repeat still_step
    try refine wpStill_nil ?_
    go_wp2_with (go_at_call 27; refine HC.out.mono ?_; rintro e w2 ⟨rfl, hb2⟩; have HB2 := hH hb2; clear hb2)
    exact ⟨⟨k + 1, by have := HKN.out; omega, by go_num, hH (HW0.out.trans (HB2.out.mono HW0.out.size))⟩, by have := HKN.out; simp [intOf]; omega⟩
  · have hkl : ¬ (k : Int) < (n : Int) := by omega
    go_wp2_with fail
    go_ret
    exact ⟨rfl, hbel.out⟩
end Go.Proofs.YtonapijgfalpaaaGreat
namespace Go.Proofs.YtonapijgfalpaaaGreat
def yz (s : Sf) : List Int := yK s.op s.id s.par s.sub
def yh (l : List Sf) : List Int := l.flatMap yz
theorem Yj {l : List Sf} {k : Nat} {s : Sf} (h : l[k]? = some s) : yh (l.take (k + 1)) = yh (l.take k) ++ yz s := by
 rw [List.take_add_one, h, yh, List.flatMap_append]; simp [yh]
theorem Zd {s : Sf} (h : ze s.sub.kids + 1 ≤ 250) : 0 < (yz s).length ∧ (yz s).length ≤ 252 := by
 unfold yz yK
 split
 · rw [List.length_cons, yL]; omega
 · split <;> simp
theorem Qt : ∀ {l : List Sf}, (∀ s ∈ l, ze s.sub.kids + 1 ≤ 250) → (yh l).length ≤ 252 * l.length
 | [], _ => Nat.zero_le _
 | s :: l, h => by
   have h1 := (Zd (h s (List.mem_cons_self ..))).2
   have h2 := Qt (l := l) fun t ht => h t (List.mem_cons_of_mem _ ht)
   show ((s :: l).flatMap yz).length ≤ _
   rw [List.flatMap_cons, List.length_append, List.length_cons]
   unfold yh at h2
   omega
theorem kr {vs : List SV} (k : Nat) (h : ∀ x ∈ vs, ze x.s.sub.kids + 1 ≤ 250) (hl : vs.length ≤ 70) : (yh ((steps vs).take k)).length ≤ 17640 := by
 have h1 := Qt (l := (steps vs).take k) fun s hs => by
  obtain ⟨x, hx, rfl⟩ := List.mem_map.1 (List.mem_of_mem_take hs)
  exact h x hx
 have h2 : ((steps vs).take k).length ≤ 70 := by rw [List.length_take, zD]; omega
 omega
theorem zcY {l : List Int} {m : List Int} : qD (l ++ m) = m.foldl yJ (qD l) := by simp [qD]
theorem zcL {a : List Int} {m : List Int} {j : Nat} {x : Int} (h : m[j]? = some x) : (m.take (j + 1)).foldl yJ a = yJ ((m.take j).foldl yJ a) x := by
 rw [List.take_add_one, h]; simp
def WfS (s : Sf) : Prop := (Lit.int .i64 s.id).wf = true ∧ (Lit.int .i64 s.par).wf = true
theorem zfs {t : Tr} (h : okF (spF 1 (zm t))) : ∀ i ∈ idT t, (Lit.int .i64 i).wf = true := fun i hi => by
 rw [← zcj] at hi
 obtain ⟨x, hx, rfl⟩ := List.mem_map.1 hi
 exact (h x hx).2
theorem zc6 {s : Sf} (h : WfS s) (hf : okF (spF 1 (zm s.sub))) : ∀ i ∈ yz s, (Lit.int .i64 i).wf = true := by
 unfold yz yK
 intro i hi
 split at hi
 · rcases List.mem_cons.1 hi with e | hi
   · rw [e]; exact h.2
   · exact zfs hf i hi
 · split at hi
   · simp only [List.mem_cons, List.not_mem_nil, or_false] at hi
     rcases hi with e | e <;> rw [e]
     · exact h.1
     · exact h.2
   · simp only [List.mem_cons, List.not_mem_nil, or_false] at hi
     rw [hi]; exact h.1
end Go.Proofs.YtonapijgfalpaaaGreat
namespace Go.Proofs.YtonapijgfalpaaaGreat
open Go.RowKit Go.Shelf
def zgV (w : World) (l : List Int) (x : Int) (v d i : Value) (X : World) : Prop := ∃ (k : Nat) (o : List Int) (b : Bool), k ≤ l.length ∧ i = .int .i64 (k : Int) ∧ d = .bool b ∧ X.ownsRow w.heap.size 3 1 v o.length (o.map qF) ∧ Below w.heap.size w X ∧ (b = false → o = l.take k ∧ ∀ y ∈ l.take k, y < x) ∧ (b = true → o ++ l.drop k = yJ l x) ∧ o.length ≤ k + 1
theorem zfz {l : List Int} {x y : Int} {k : Nat} (hy : l[k]? = some y) (h : ∀ z ∈ l.take k, z < x) : yJ l x = l.take k ++ (if x ≤ y then (if y = x then y :: l.drop (k + 1) else x :: y :: l.drop (k + 1)) else y :: yJ (l.drop (k + 1)) x) := by
 have e : l = l.take k ++ l.drop k := (List.take_append_drop k l).symm
 conv => lhs; rw [e]
 rw [ZG h, QZ hy, yJ]
theorem jo {X : World} {B : Nat} {v : Value} {n : Nat} {o : List Int} {y : Int} (h : X.ownsRow B 3 1 v (n + 1) (o.map qF ++ [.int .i64 y])) (hn : n = o.length) : X.ownsRow B 3 1 v (o ++ [y]).length ((o ++ [y]).map qF) := by
 subst hn
 rw [List.length_append, List.map_append]; exact h
theorem zdN (w : World) (B0 : Nat) (la : Option Addr) (n c : Nat) (l : List Int) (x : Int) (hn : n = l.length) (h : w.ownsRow B0 3 1 (.slice la n c) n (l.map qF)) (hl : l.length ≤ 100000) :
 Calls Tryz.prog 35 #[.slice la n c, .int .i64 x] w (Ju w (yJ l x)) := by
 have hnl : n ≤ 100000 := by omega
 have H := hH (aN h hn)
 clear h hn hl
 obtain ⟨i0, hi, hz0, hz1, hz2⟩ := info_parts Tryz.kw
 have HI := hH (aN hi (aN hz0 (aN hz1 hz2)))
 clear hi hz0 hz1 hz2
 go_enter Tryz.func35, Tryz.ntmps35
 go_wp2_with fail
 go_loopw [5, 6, 7] (fun v d i wr => Hid (zgV w l x v d i wr)) (fun _ _ i _ => n - (RowKit.intOf i).toNat)
 case atStart => exact hH ⟨0, [], false, Nat.zero_le _, rfl, rfl, World.ownsRow_nil _ _ _ _, Below.refl _ _, fun _ => ⟨rfl, fun y hy => by simp at hy⟩, (fun h => by cases h), Nat.zero_le _⟩
 case round =>
  obtain ⟨k, o, b, hk, rfl, rfl, hown, hbr, hf, ht, hol⟩ := hrel.out
  clear hrel
  rw [← H.out.2] at hk
  obtain ⟨m, hm⟩ : ∃ m, m = o.length := ⟨_, rfl⟩
  rw [← hm] at hown hol
  obtain ⟨oa, oc, rfl⟩ := zw hown
  have HR := hH (aN hown hbr)
  have HM := hH hm
  have HF := hH hf
  have HT := hH ht
  have hmb : m ≤ 100001 := by omega
  have HKM := hH (aN hk hol)
  clear hown hm hf ht hol
  by_cases hlt : k < n
  · obtain ⟨y, hy⟩ : ∃ y, l[k]? = some y := ⟨_, List.getElem?_eq_getElem (by rw [← H.out.2]; exact hlt)⟩
    obtain ⟨g, rfl, hgc, hgl, hcell⟩ := YD H.out.1 (by omega)
    have HC : Hid (∀ X, Below w.heap.size w X → X.cell? ⟨g, k, none⟩ = some (.int .i64 y)) := hH fun X hX => (World.cell?_of_block (a := ⟨g, k, none⟩) (hX.block g hgl)).trans (hcell k y hy)
    have c0 := HC.out wr hbr
    have hkl : (k : Int) < (n : Int) := by omega
    have HY := hH hy
    have HLT := hH hlt
    clear hy hlt hcell hgl hk hgc
    cases b
    · clear HT
      have HF := hH (HF.out rfl)
      have HPA := hH (zfz HY.out HF.out.2)
      by_cases hxy : x ≤ y
      · by_cases he : y = x
        · have hb : (y == x) = true := by simpa using he
          have HP := hH (show (o ++ [y]) ++ l.drop (k + 1) = yJ l x by rw [HPA.out, if_pos hxy, if_pos he, HF.out.1]; simp)
          clear he
          go_wp2_with (at_builtin; refine wpList_append_own _ rfl (.tmp 34) (.tmp 39) 30 rfl w.heap.size 3 i0 (.int .i64 0) 1 8 Tryz.underlying30 HI.out.1 HI.out.2.1 HI.out.2.2.1 HI.out.2.2.2 rfl (by decide) (.slice oa m oc) (m) _ rfl (HR.out.1.alloc _) ⟨wr.heap.size, 0, none⟩ 1 1 [.int .i64 y] rfl rfl (World.news_of_block (cs := #[.int .i64 y]) (heap_alloc_new wr _)) (by simp [Value.oneCell']) (by unfold maxLen; omega) (by omega) (by have := HR.out.2.size; simp; omega) ?_; intro v2 w4 hown hgrow _; have HE := hH (show w4.ownsRow w.heap.size 3 1 v2 (m + 1) (_ ++ [.int .i64 y]) ∧ Below w.heap.size w w4 from ⟨hown, (HR.out.2.alloc HR.out.2.size _).grown hgrow (by have := HR.out.2.size; simp; omega) (fun y hy => (zq HR.out.1 hy).1)⟩); clear hown hgrow)
          refine ⟨hH ⟨k + 1, o ++ [y], true, by rw [← H.out.2]; have := HLT.out; omega, by go_num, rfl, jo HE.out.1 HM.out, HE.out.2, (fun h => by cases h), fun _ => HP.out, by rw [List.length_append, ← HM.out, List.length_singleton]; have := HKM.out.2; omega⟩, by have := HLT.out; simp [RowKit.intOf]; omega⟩
        · have hb : (y == x) = false := by simpa using he
          have HP := hH (show ((o ++ [x]) ++ [y]) ++ l.drop (k + 1) = yJ l x by rw [HPA.out, if_pos hxy, if_neg he, HF.out.1]; simp)
          have HKO := hH (show m = k by rw [HM.out, HF.out.1, List.length_take, ← H.out.2]; have := HLT.out; omega)
          clear he
          go_upto_region 10 with (at_builtin; refine wpList_append_own _ rfl (.tmp 30) (.tmp 32) 30 rfl w.heap.size 3 i0 (.int .i64 0) 1 8 Tryz.underlying30 HI.out.1 HI.out.2.1 HI.out.2.2.1 HI.out.2.2.2 rfl (by decide) (.slice oa m oc) (m) _ rfl (HR.out.1.alloc _) ⟨wr.heap.size, 0, none⟩ 1 1 [.int .i64 x] rfl rfl (World.news_of_block (cs := #[.int .i64 x]) (heap_alloc_new wr _)) (by simp [Value.oneCell']) (by unfold maxLen; omega) (by omega) (by have := HR.out.2.size; simp; omega) ?_; intro v2 w4 hown hgrow _; have HE := hH (show w4.ownsRow w.heap.size 3 1 v2 (m + 1) (_ ++ [.int .i64 x]) ∧ Below w.heap.size w w4 from ⟨hown, (HR.out.2.alloc HR.out.2.size _).grown hgrow (by have := HR.out.2.size; simp; omega) (fun y hy => (zq HR.out.1 hy).1)⟩); clear hown hgrow)
          obtain ⟨pa, pc, rfl⟩ := zw HE.out.1
          clear c0
          have c0 := HC.out w4 HE.out.2
          obtain ⟨wo, hwo⟩ : ∃ wo, wo = w4 := ⟨_, rfl⟩
          subst hwo
          have HE0 := HE
          clear HE
          go_wp2_with (at_builtin; refine wpList_append_own _ rfl (.tmp 34) (.tmp 39) 30 rfl w.heap.size 3 i0 (.int .i64 0) 1 8 Tryz.underlying30 HI.out.1 HI.out.2.1 HI.out.2.2.1 HI.out.2.2.2 rfl (by decide) (.slice pa (m + 1) pc) (m + 1) _ rfl (HE0.out.1.alloc _) ⟨wo.heap.size, 0, none⟩ 1 1 [.int .i64 y] rfl rfl (World.news_of_block (cs := #[.int .i64 y]) (heap_alloc_new wo _)) (by simp [Value.oneCell']) (by unfold maxLen; omega) (by omega) (by have := HE0.out.2.size; simp; omega) ?_; intro v2 w4 hown hgrow _; have HE := hH (show w4.ownsRow w.heap.size 3 1 v2 (m + 1 + 1) (_ ++ [.int .i64 y]) ∧ Below w.heap.size w w4 from ⟨hown, (HE0.out.2.alloc HE0.out.2.size _).grown hgrow (by have := HE0.out.2.size; simp; omega) (fun y hy => (zq HE0.out.1 hy).1)⟩); clear hown hgrow)
          have HO1 := hH (jo HE0.out.1 HM.out)
          refine ⟨hH ⟨k + 1, (o ++ [x]) ++ [y], true, by rw [← H.out.2]; have := HLT.out; omega, by go_num, rfl, jo (o := o ++ [x]) (by rw [List.map_append]; exact HE.out.1) (by rw [List.length_append, ← HM.out]; rfl), HE.out.2, (fun h => by cases h), fun _ => HP.out, by rw [List.length_append, List.length_append, ← HM.out, List.length_singleton]; have := HKO.out; simp; omega⟩, by have := HLT.out; simp [RowKit.intOf]; omega⟩
      · have hyx : y < x := by omega
        have HO : Hid (o ++ [y] = l.take (k + 1) ∧ ∀ z ∈ l.take (k + 1), z < x) := hH ⟨by rw [List.take_add_one, HY.out, HF.out.1]; rfl, fun z hz => by
         rw [List.take_add_one, HY.out] at hz
         rcases List.mem_append.1 hz with h | h
         · exact HF.out.2 z h
         · simp at h; omega⟩
        go_wp2_with (at_builtin; refine wpList_append_own _ rfl (.tmp 34) (.tmp 39) 30 rfl w.heap.size 3 i0 (.int .i64 0) 1 8 Tryz.underlying30 HI.out.1 HI.out.2.1 HI.out.2.2.1 HI.out.2.2.2 rfl (by decide) (.slice oa m oc) (m) _ rfl (HR.out.1.alloc _) ⟨wr.heap.size, 0, none⟩ 1 1 [.int .i64 y] rfl rfl (World.news_of_block (cs := #[.int .i64 y]) (heap_alloc_new wr _)) (by simp [Value.oneCell']) (by unfold maxLen; omega) (by omega) (by have := HR.out.2.size; simp; omega) ?_; intro v2 w4 hown hgrow _; have HE := hH (show w4.ownsRow w.heap.size 3 1 v2 (m + 1) (_ ++ [.int .i64 y]) ∧ Below w.heap.size w w4 from ⟨hown, (HR.out.2.alloc HR.out.2.size _).grown hgrow (by have := HR.out.2.size; simp; omega) (fun y hy => (zq HR.out.1 hy).1)⟩); clear hown hgrow)
        refine ⟨hH ⟨k + 1, o ++ [y], false, by rw [← H.out.2]; have := HLT.out; omega, by go_num, rfl, jo HE.out.1 HM.out, HE.out.2, fun _ => HO.out, (fun h => by cases h), by rw [List.length_append, ← HM.out, List.length_singleton]; have := HKM.out.2; omega⟩, by have := HLT.out; simp [RowKit.intOf]; omega⟩
    · have HP := hH (show (o ++ [y]) ++ l.drop (k + 1) = yJ l x by rw [← HT.out rfl, QZ HY.out]; simp)
      clear HT HF
      go_wp2_with (at_builtin; refine wpList_append_own _ rfl (.tmp 34) (.tmp 39) 30 rfl w.heap.size 3 i0 (.int .i64 0) 1 8 Tryz.underlying30 HI.out.1 HI.out.2.1 HI.out.2.2.1 HI.out.2.2.2 rfl (by decide) (.slice oa m oc) (m) _ rfl (HR.out.1.alloc _) ⟨wr.heap.size, 0, none⟩ 1 1 [.int .i64 y] rfl rfl (World.news_of_block (cs := #[.int .i64 y]) (heap_alloc_new wr _)) (by simp [Value.oneCell']) (by unfold maxLen; omega) (by omega) (by have := HR.out.2.size; simp; omega) ?_; intro v2 w4 hown hgrow _; have HE := hH (show w4.ownsRow w.heap.size 3 1 v2 (m + 1) (_ ++ [.int .i64 y]) ∧ Below w.heap.size w w4 from ⟨hown, (HR.out.2.alloc HR.out.2.size _).grown hgrow (by have := HR.out.2.size; simp; omega) (fun y hy => (zq HR.out.1 hy).1)⟩); clear hown hgrow)
      refine ⟨hH ⟨k + 1, o ++ [y], true, by rw [← H.out.2]; have := HLT.out; omega, by go_num, rfl, jo HE.out.1 HM.out, HE.out.2, (fun h => by cases h), fun _ => HP.out, by rw [List.length_append, ← HM.out, List.length_singleton]; have := HKM.out.2; omega⟩, by have := HLT.out; simp [RowKit.intOf]; omega⟩
  · have hkl : ¬ (k : Int) < (n : Int) := by omega
    have HKN := hH (show k = l.length by rw [← H.out.2]; omega)
    clear hk hlt
    cases b
    · have HP := hH (show o ++ [x] = yJ l x by
       have h1 := HF.out rfl
       rw [List.take_of_length_le (by rw [HKN.out]; exact Nat.le_refl _)] at h1
       have h2 := ZG (q := []) h1.2
       rw [List.append_nil] at h2
       rw [h2, h1.1]; rfl)
      clear HF HT
      go_wp2_with (at_builtin; refine wpList_append_own _ rfl (.tmp 43) (.tmp 45) 30 rfl w.heap.size 3 i0 (.int .i64 0) 1 8 Tryz.underlying30 HI.out.1 HI.out.2.1 HI.out.2.2.1 HI.out.2.2.2 rfl (by decide) (.slice oa m oc) (m) _ rfl (HR.out.1.alloc _) ⟨wr.heap.size, 0, none⟩ 1 1 [.int .i64 x] rfl rfl (World.news_of_block (cs := #[.int .i64 x]) (heap_alloc_new wr _)) (by simp [Value.oneCell']) (by unfold maxLen; omega) (by omega) (by have := HR.out.2.size; simp; omega) ?_; intro v2 w4 hown hgrow _; have HE := hH (show w4.ownsRow w.heap.size 3 1 v2 (m + 1) (_ ++ [.int .i64 x]) ∧ Below w.heap.size w w4 from ⟨hown, (HR.out.2.alloc HR.out.2.size _).grown hgrow (by have := HR.out.2.size; simp; omega) (fun y hy => (zq HR.out.1 hy).1)⟩); clear hown hgrow)
      go_ret
      obtain ⟨pa, pc, rfl⟩ := zw HE.out.1
      have h1 := jo HE.out.1 HM.out
      rw [HP.out] at h1
      have e1 : (yJ l x).length = m + 1 := by rw [← HP.out, List.length_append, ← HM.out]; rfl
      exact ⟨pa, pc, by rw [e1]; rfl, by rw [e1] at h1 ⊢; exact h1, HE.out.2⟩
    · have HP := hH (show o = yJ l x by
       have h1 := HT.out rfl
       rw [List.drop_of_length_le (by rw [HKN.out]; exact Nat.le_refl _), List.append_nil] at h1
       exact h1)
      clear HF HT
      go_wp2_with fail
      go_ret
      have e1 : (yJ l x).length = m := by rw [← HP.out, ← HM.out]
      exact ⟨oa, oc, by rw [e1]; rfl, by rw [e1, ← HP.out]; exact HR.out.1, HR.out.2⟩
def RIO (w : World) (L : List Int) (v : Value) (X : World) : Prop := ∃ a c, v = .slice a L.length c ∧ X.ownsRow w.heap.size 3 1 (.slice a L.length c) L.length (L.map qF) ∧ Below w.heap.size w X
theorem zdL (w : World) (la : Option Addr) (n c : Nat) (vs : List SV) (hn : n = vs.length) (h : Row w la vs) (hl : vs.length ≤ 70) :
 Calls Tryz.prog 14 #[.slice la n c] w (Ju w (qD (yh (steps vs)))) := by
 have hn70 : n ≤ 70 := by omega
 have H := hH (aN h (aN hn hl))
 clear h hn hl
 go_enter Tryz.func14, Tryz.ntmps14
 go_wp2_with fail
 go_loopw [3, 4] (fun v i wr => ∃ k : Nat, k ≤ n ∧ i = .int .i64 (k : Int) ∧ Hid (RIO w (qD (yh ((steps vs).take k))) v wr)) (fun _ i _ => n - (RowKit.intOf i).toNat)
 case atStart => exact ⟨0, Nat.zero_le _, rfl, hH ⟨none, 0, rfl, World.ownsRow_nil _ _ _ _, Below.refl _ _⟩⟩
 case round =>
  obtain ⟨k, hk, rfl, hh⟩ := hrel
  obtain ⟨oa, oc, rfl, hown, hbr⟩ := hh.out
  clear hh
  obtain ⟨L, hL⟩ : ∃ L, L = qD (yh ((steps vs).take k)) := ⟨_, rfl⟩
  rw [← hL] at hown ⊢
  obtain ⟨m, hm⟩ : ∃ m, m = L.length := ⟨_, rfl⟩
  rw [← hm] at hown ⊢
  have HL := hH (aN hL hm)
  have HR := hH (aN hown hbr)
  obtain ⟨wo, hwo⟩ : ∃ wo, wo = wr := ⟨_, rfl⟩
  subst hwo
  by_cases hlt : k < n
  · obtain ⟨x, hx⟩ : ∃ x, vs[k]? = some x := ⟨_, List.getElem?_eq_getElem (by rw [← H.out.2.1]; exact hlt)⟩
    obtain ⟨b, off, rfl, c0, c1, c2, c3, c4, c5, c6, c7, c8⟩ := H.out.1.at hbr hx
    have hlx := H.out.1.lies x (List.mem_of_getElem? hx)
    have hfx := (H.out.1.fit x (List.mem_of_getElem? hx)).size
    have hsx := yD hx
    unfold qE at hlx
    obtain ⟨s, xa, xc⟩ := x
    simp only at hlx hfx hsx c0 c1 c2 c3 c4 c5 c6 c7 c8
    obtain ⟨xn, hxn⟩ : ∃ xn, xn = zb s.sub.kids := ⟨_, rfl⟩
    have HC : Hid (Calls Tryz.prog 34 #[.agg #[.int .i8 s.op, .int .i64 s.id, .int .i64 s.par, .int .i64 s.at_, .string s.tx, .int .i64 s.sub.id, .int .i64 s.sub.kind, .string s.sub.text, .slice xa xn xc]] wo (Ju wo (yz s))) := hH (by
     rw [hxn]
     exact zbL wo (fun q => q < w.heap.size) s.sub s.op s.id s.par s.at_ s.tx xa _ xc (fun y hy => nL hy hbr.size) (hlx.at hbr) (by omega))
    rw [← hxn] at c8
    have HN := hH (Yj hsx)
    have HNL := hH (kr k (fun x hx => (H.out.1.fit x hx).size) H.out.2.2)
    have HSL := hH (Zd hfx)
    have HKN := hH (aN hk hlt)
    have hkl : (k : Int) < (n : Int) := by omega
    clear hx hlx hfx hsx hxn hk hlt hown hbr hL hm
    go_wp2_with fail
    refine HC.out.mono ?_
    rintro e W1 ⟨ia, ic, rfl, hio, hib⟩
    obtain ⟨q, hq⟩ : ∃ q, q = (yz s).length := ⟨_, rfl⟩
    rw [← hq] at hio ⊢
    have hq5 : q ≤ 252 := by rw [hq]; exact HSL.out.2
    have hq0 : 0 < q := by rw [hq]; exact HSL.out.1
    obtain ⟨g, rfl, hgc, hgl, hcell⟩ := YD hio hq0
    have HIO := hH (aN hgl (aN hcell (aN hq (show Below w.heap.size w W1 from HR.out.2.trans (hib.mono HR.out.2.size)))))
    have HI0 : Hid (RIO w (((yz s).take 0).foldl yJ L) (.slice oa m oc) W1) := hH ⟨oa, oc, by rw [HL.out.2]; rfl, by
     have h1 := zB (w' := W1) HR.out.1 (fun g cur hg _ => hib.block g (lt_of_heap hg))
     rw [HL.out.2] at h1; exact h1, HIO.out.2.2.2⟩
    clear hio hib hq hq0 hcell hgl hgc c0 c1 c2 c3 c4 c5 c6 c7 c8
    go_wp2_with fail
    go_loopw [3, 6] (fun v i wr => ∃ j : Nat, j ≤ q ∧ i = .int .i64 (j : Int) ∧ Hid (RIO w (((yz s).take j).foldl yJ L) v wr ∧ Below W1.heap.size W1 wr)) (fun _ i _ => q - (RowKit.intOf i).toNat)
    case atStart => exact ⟨0, Nat.zero_le _, rfl, hH ⟨HI0.out, Below.refl _ _⟩⟩
    case round =>
     obtain ⟨j, hj, rfl, hh⟩ := hrel
     obtain ⟨⟨pa, pc, rfl, hown, hbr⟩, hb1⟩ := hh.out
     clear hh HI0
     obtain ⟨P, hP⟩ : ∃ P, P = ((yz s).take j).foldl yJ L := ⟨_, rfl⟩
     rw [← hP] at hown ⊢
     obtain ⟨pm, hpm⟩ : ∃ pm, pm = P.length := ⟨_, rfl⟩
     rw [← hpm] at hown ⊢
     have HP := hH (aN hP hpm)
     have HR2 := hH (aN hown (aN hbr hb1))
     by_cases hjl : j < q
     · obtain ⟨nid, hnid⟩ : ∃ nid, (yz s)[j]? = some nid := ⟨_, List.getElem?_eq_getElem (by rw [← HIO.out.2.2.1]; exact hjl)⟩
       have d0 : wr.cell? ⟨g, j, none⟩ = some (.int .i64 nid) := (World.cell?_of_block (a := ⟨g, j, none⟩) (hb1.block g HIO.out.1)).trans (HIO.out.2.1 j nid hnid)
       have hpl : P.length ≤ 100000 := by
        have h1 := vR ((yz s).take j) L
        have h2 := QP (yh ((steps vs).take k))
        have h3 := HNL.out
        have h4 := HSL.out.2
        rw [← HL.out.1] at h2
        rw [hP]
        rw [List.length_take] at h1
        omega
       have HPC := hH (zdN wr w.heap.size pa pm pc P nid hpm hown hpl)
       have HNI := hH (show ((yz s).take (j + 1)).foldl yJ L = yJ P nid by rw [zcL hnid, ← hP])
       have HJ := hH hjl
       have hji : (j : Int) < (q : Int) := by omega
       clear hown hbr hb1 hP hpm hnid hpl hjl hj
       go_wp2_with fail
       refine HPC.out.mono ?_
       rintro e W2 ⟨qa, qc, rfl, hqo, hqb⟩
       have HQ := hH (aN (kg hqo HR2.out.2.1.size) hqb)
       clear hqo hqb HPC d0
       go_wp2_with fail
       refine ⟨⟨j + 1, by have := HJ.out; omega, by go_num, hH ⟨⟨qa, qc, by rw [HNI.out], by rw [HNI.out]; exact HQ.out.1, HR2.out.2.1.trans (HQ.out.2.mono HR2.out.2.1.size)⟩, HR2.out.2.2.trans (HQ.out.2.mono HR2.out.2.2.size)⟩⟩, by have := HJ.out; simp [RowKit.intOf]; omega⟩
     · have hji : ¬ (j : Int) < (q : Int) := by omega
       have HE := hH (show P = qD (yh ((steps vs).take (k + 1))) by
        rw [HN.out, zcY, ← HL.out.1, hP, List.take_of_length_le (by rw [← HIO.out.2.2.1]; omega)])
       clear hown hbr hb1 hP hpm hjl hj
       go_wp2_with fail
       refine ⟨⟨k + 1, by have := HKN.out; omega, by go_num, hH ⟨pa, pc, by rw [← HE.out, ← HP.out.2], by rw [← HE.out, ← HP.out.2]; exact HR2.out.1, HR2.out.2.1⟩⟩, by have := HKN.out; simp [RowKit.intOf]; omega⟩
  · have hkl : ¬ (k : Int) < (n : Int) := by omega
    have HE := hH (show L = qD (yh (steps vs)) by rw [hL, List.take_of_length_le (by rw [zD, ← H.out.2.1]; omega)])
    clear hown hbr hL hm hk hlt
    go_wp2_with fail
    go_ret
    exact ⟨oa, oc, by rw [← HE.out, ← HL.out.2]; rfl, by rw [← HE.out, ← HL.out.2]; exact HR.out.1, HR.out.2⟩
end Go.Proofs.YtonapijgfalpaaaGreat
