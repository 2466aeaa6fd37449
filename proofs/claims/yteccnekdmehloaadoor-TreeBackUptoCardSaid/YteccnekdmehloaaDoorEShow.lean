/-
  Show: a tree as a text. No condition but that there are not too many nodes, and that the text is not too long.
-/
import Derived.Test.YteccnekdmehloaaDoorEShowD
namespace Go.Proofs.YteccnekdmehloaaDoor
open Go.RowKit Go.Shelf
open Extern.Stop (cell)
attribute [local go_sem] Oper.semAt_some
set_option linter.unusedVariables false
set_option linter.unusedSimpArgs false

def showOs (t : Tr) (ka : Option Addr) (n cap : Nat) (B : Nat) : List Obj :=
  [.cells #[.int .i64 t.id, .int .i64 t.kind, .string t.text, .slice ka n cap] 25, .cells #[.pointer none, .slice none 0 0] 66, .cells #[.int .i64 0] 3,
   .cells #[.int .i64 t.id, .int .i64 t.kind, .string t.text, .slice ka n cap] 25, .cells #[.slice (some ⟨B + 1 + 1 + 1, 0, none⟩) 1 1] 23]
set_option maxRecDepth 100000 in
set_option maxHeartbeats 4000000 in
theorem show_any (w : World) (S : Nat → Prop) (nv : Value) (t : Tr) (hS : ∀ x, S x → x < w.heap.size) (ht : TrAt w S nv t) (hsz : foSize t.kids + 1 ≤ 500000) (htab : Tab w) (hi : ∀ x ∈ spF 1 (rootF t), I64 x.2.1.1 ∧ I64 x.2.1.2.1) (hlen : (showT t).length ≤ 10000000000000) :
    Calls Tryd.prog 15 #[nv] w (SayC w (showT t)) := by
  obtain ⟨ka, cap, rfl, hcap, hk⟩ := ht
  obtain ⟨n, hn⟩ : ∃ n, n = foLen t.kids := ⟨_, rfl⟩
  rw [← hn]
  have hal := allocs_at (showOs t ka n cap w.heap.size) w
  have hab := allocs_below (showOs t ka n cap w.heap.size) w
  have has := allocs_size (showOs t ka n cap w.heap.size) w
  have HA := Lib.hid (And.intro hab (And.intro (hal 1 _ rfl) (And.intro (hal 2 _ rfl) (And.intro (hal 3 _ rfl) (And.intro (hal 4 _ rfl) has)))))
  have H := Lib.hid (And.intro hS (And.intro hcap (And.intro hk (And.intro hsz (And.intro hn (And.intro htab (And.intro hi hlen)))))))
  clear hS hcap hk hsz hn hal hab has htab hi hlen
  refine (callsIn_wide (n := 9)).1 ?_
  refine callsIn_of_wp_marks Tryd.func15 rfl trivial ?_ rfl
  simp only [Tryd.ntmps15, List.size_toArray, List.length_cons, List.length_nil, Nat.reduceAdd, Nat.reduceSub, Array.replicate_succ, Array.replicate_zero, List.push_toArray, List.append_toArray, List.nil_append, List.cons_append]
  gi_wp2_with (refine ⟨trivial, ?_⟩; gi_at_call 29; refine (callsIn_wide.2 (each_fn _ _ _ _)).mono ?_; rintro e w' ⟨rfl, rfl⟩)
  change Code.wpIn _ _ _ _ _ _ (allocs w (showOs t ka n cap w.heap.size))
  generalize hW : allocs w (showOs t ka n cap w.heap.size) = W at HA ⊢
  clear hW
  obtain ⟨k0, k1, k2, k3, k4, k7⟩ := HA.out
  have k7' : W.heap.size = w.heap.size + 5 := k7
  have hSl : ∀ x, S x → x < w.heap.size := H.out.1
  have hroot := root_lies (fun x hx => k0.block x (hSl x hx)) H.out.2.1 H.out.2.2.1 (by rw [← H.out.2.2.2.2.1]; exact k3)
  have hb0 : Bld w.heap.size (w.heap.size + 1) (fun _ => False) [] W := ⟨by omega, _, _, .inl rfl, k1, World.ownsRow_nil W _ _ 1, fun g hg => by cases hg⟩
  refine range_tree (by omega) rfl ⟨1, some ⟨w.heap.size + 1 + 1 + 1, 0, none⟩, 1, rootF t⟩ rfl (by simp [rootF]) (by simp [rootF, foLen]) (by rw [rootF_size]; exact H.out.2.2.2.1) (by rw [cell_of_row _ _ 0 _ _ _ k4]; rfl) rfl (fun x => S x ∨ x = w.heap.size + 3) (fun x hx => by rcases hx with hx | hx; have := hSl x hx; omega; omega) hroot
    (ShowR w W (.cells #[.int .i64 t.id, .int .i64 t.kind, .string t.text, .slice ka n cap] 25)) (fun _ _ _ => False) (fun h hT ht hw => h.turn k7' hT ht hw) (fun h _ _ _ => h.elim) ⟨k0, Nat.le_refl _, k3, k2, hb0⟩ ?round ?done ?stop
  case done =>
    rintro D T V hD hI hK
    obtain ⟨h1, h2, h3, h4, h5⟩ := hI
    obtain ⟨a, ha⟩ : ∃ a, a = lastD 0 (spF 1 (rootF t)) := ⟨_, rfl⟩
    have ha5 : 1 ≤ a ∧ a ≤ 500000 := by
      rw [ha]
      rcases lastD_mem (spF 1 (rootF t)) 0 with h | ⟨x, hx, h⟩
      · exfalso
        have hne : spF 1 (rootF t) = (1, (t.id, t.kind, t.text), t.kids) :: (spF 2 t.kids ++ spF 1 .nil) := rfl
        rw [hne] at h
        rcases lastD_mem (spF 2 t.kids ++ spF 1 .nil) 1 with h6 | ⟨x, hx, h6⟩
        · rw [show lastD 0 ((1, (t.id, t.kind, t.text), t.kids) :: (spF 2 t.kids ++ spF 1 .nil)) = lastD 1 (spF 2 t.kids ++ spF 1 .nil) from rfl, h6] at h; omega
        · rw [show lastD 0 ((1, (t.id, t.kind, t.text), t.kids) :: (spF 2 t.kids ++ spF 1 .nil)) = lastD 1 (spF 2 t.kids ++ spF 1 .nil) from rfl, h6] at h
          have := (spF_depth 2 t.kids x (by simpa [spF] using hx)).1; omega
      · rw [h]
        have := spF_depth 1 (rootF t) x hx; rw [rootF_size] at this; have := H.out.2.2.2.1; omega
    obtain ⟨m, hm⟩ : ∃ m, m = a - 1 := ⟨_, rfl⟩
    have hma : (a : Int) - 1 = (m : Int) := by omega
    rw [← ha] at h4
    have hal : (a : Int) ≤ 500000 := by omega
    have c0 : V.cell? ⟨w.heap.size + 1 + 1, 0, none⟩ = some (.int .i64 (a : Int)) := by rw [cell_of_row _ _ 0 _ _ _ h4]; rfl
    have hsh : showT t = showL 0 (spF 1 (rootF t)) ++ closeL m := by rw [showT, ← ha, ← hm]
    obtain ⟨l0, hl0⟩ : ∃ l0, l0 = showL 0 (spF 1 (rootF t)) := ⟨_, rfl⟩
    rw [← hl0] at hsh h5
    have hlen := H.out.2.2.2.2.2.2.2
    rw [hsh, List.length_append, closeL_length] at hlen
    have HCL := Lib.hid (closed_any V m (by omega))
    have HWR : Hid (∀ V2, Below V.heap.size V V2 → Calls Tryd.prog 33 #[.pointer (some ⟨w.heap.size + 1, 0, none⟩), .string ⟨(closeL m).toArray⟩] V2 fun e Y => (∃ q : Int, e = .returned (.tuple #[.int .i64 q, .nilIface])) ∧ Bld w.heap.size (w.heap.size + 1) (fun _ => False) (showT t) Y ∧ Below w.heap.size w Y ∧ Y.heap[D]? = some (.deferred (some []))) := Lib.hid fun V2 hb2 => by
      have hB2 : Bld w.heap.size (w.heap.size + 1) (fun _ => False) l0 V2 := h5.kept hb2.size (by obtain ⟨p, v, _, hx, _⟩ := h5.at_; exact hb2.block _ (lt_of_heap hx)) (fun g cur fr hg _ => hb2.block g (lt_of_heap hg)) (fun x hx => hx.elim)
      refine (write_any w.heap.size (w.heap.size + 1) (fun _ => False) l0 ⟨(closeL m).toArray⟩ V2 hB2 (fun x hx => hx.elim) (by rw [bytes_size, closeL_length]; omega)).mono ?_
      rintro e Y ⟨rfl, hb, g, ht, hg⟩
      have hD2 : V2.heap[D]? = some (.deferred (some [])) := (hb2.block D (lt_of_heap hK)).trans hK
      refine ⟨⟨_, rfl⟩, by rw [hsh]; simpa using hb, (h1.trans (hb2.mono h1.size)).trans (ht.below (h1.trans (hb2.mono h1.size)).size (fun k hk => ?_)), (ht.block D (lt_of_heap hD2) (fun e => ?_)).trans hD2⟩
      · rcases hk with hk | hk
        · omega
        · exact (hg k hk).2.1
      · rcases e with e | e
        · omega
        · obtain ⟨_, _, cur, fr, hc⟩ := hg D e
          rw [hD2] at hc; cases hc
    have HRD : Hid (∀ Y, Bld w.heap.size (w.heap.size + 1) (fun _ => False) (showT t) Y → Below w.heap.size w Y → Y.heap[D]? = some (.deferred (some [])) → Calls Tryd.prog 38 #[.pointer (some ⟨w.heap.size + 1, 0, none⟩)] Y fun e Z => e = .returned (.string ⟨(showT t).toArray⟩) ∧ Z.heap[D]? = some (.deferred (some [])) ∧ Below w.heap.size w (Z.putObj D (.deferred none))) := Lib.hid fun Y hY hbY hDY => by
      refine (read_any w.heap.size (w.heap.size + 1) _ (showT t) Y hY hbY.size).mono ?_
      rintro e Z ⟨rfl, hbZ, hkZ⟩
      have hb2 := hbY.trans hbZ
      exact ⟨rfl, hkZ D _ hDY (by simp; omega) (by intro c fz e; cases e), ⟨hb2.os, hb2.tape, hb2.output, by have := hb2.size; simp [World.putObj]; exact this, fun x hx => by rw [World.putObj_heap_other (by omega)]; exact hb2.block x hx⟩⟩
    clear h1 h2 h3 h4 h5 ha ha5 hm hsh hl0 hlen HA H k0 k1 k2 k3 k4 k7 hSl hroot hb0 hD hK
    gi_wp2_with (first
      | (refine ⟨trivial, ?_⟩; gi_at_call 37; refine (callsIn_wide.2 HCL.out).mono ?_; rintro e V2 ⟨rfl, hb2⟩; have HV2 := Lib.hid hb2; clear hb2)
      | (refine ⟨trivial, ?_⟩; gi_at_call 33; refine (callsIn_wide.2 (HWR.out V2 HV2.out)).mono ?_; rintro e V3 ⟨⟨q, rfl⟩, hY⟩; have HV3 := Lib.hid hY; clear hY)
      | (refine ⟨trivial, ?_⟩; gi_at_call 38; refine (callsIn_wide.2 (HRD.out V3 HV3.out.1 HV3.out.2.1 HV3.out.2.2)).mono ?_; rintro e V4 ⟨rfl, hZ⟩; have HV4 := Lib.hid hZ; clear hZ))
    refine ⟨by simp, .inl ⟨_, _, rfl, run_takeDeferred HV4.out.1, ?_⟩⟩
    exact ⟨_, results_tmp rfl _ _ _, rfl, HV4.out.2⟩
  case stop => exact fun _ _ _ _ _ h _ => h.elim
  case round =>
    rintro l hl T pre rest d key k V b off kcc ka2 hT hV htot hb d0 d1 d2 d3 d4 dk hR K hK
    have HK := Lib.hid hK
    have HC := Lib.hid (And.intro d0 (And.intro d1 d2))
    have HR := Lib.hid (And.intro hR (And.intro hT (And.intro hV (And.intro htot (And.intro hb hl)))))
    clear hR hT hV htot hb hl hK d0 d1 d2 d3 d4 dk k0 k1 k2 k3 k4 k7 hroot hb0
    gi_wp2
    refine HK.out _ fun V1 hV1 => ?_
    clear HK
    obtain ⟨o', ev, o, ho, hoc⟩ := hV1
    have hin := InR.start (S := S) HR.out.1 k7' HR.out.2.2.2.2.2 (fun x hx => HR.out.2.1 x hx) ev ho hoc
    have hbl : b < W.heap.size := by rcases HR.out.2.2.2.2.1 with hb | hb; have := hSl b hb; omega; omega
    have hV1s : ∀ x, x < W.heap.size → V1.heap[x]? = V.heap[x]? := fun x hx => by rw [ev]; exact World.putObj_heap_other (by have := HR.out.2.2.2.2.2; omega)
    have hs1 : V1.heap.size = V.heap.size := by rw [ev]; simp [World.putObj]
    have e0 : V1.cell? ⟨b, off, none⟩ = some (.int .i64 key.1) := (World.cell?_of_block (hV1s b hbl)).trans HC.out.1
    have e1 : V1.cell? ⟨b, off + 1, none⟩ = some (.int .i64 key.2.1) := (World.cell?_of_block (hV1s b hbl)).trans HC.out.2.1
    have e2 : V1.cell? ⟨b, off + 2, none⟩ = some (.string key.2.2) := (World.cell?_of_block (hV1s b hbl)).trans HC.out.2.2
    have hT1 : ∀ x, T x → x < V1.heap.size ∧ w.heap.size + 5 ≤ x := fun x hx => by have := HR.out.2.1 x hx; omega
    have hro : ∃ cs, Obj.cells #[.int .i64 t.id, .int .i64 t.kind, .string t.text, .slice ka n cap] 25 = .cells cs 25 (0, 0) := ⟨_, rfl⟩
    have hVB : ∃ o, V1.heap[w.heap.size + 1]? = some o ∧ o.isCells = true := by obtain ⟨p, v, _, hx, _⟩ := hin.bld.at_; exact ⟨_, hx, rfl⟩
    generalize hro' : Obj.cells #[.int .i64 t.id, .int .i64 t.kind, .string t.text, .slice ka n cap] 25 = ro at hin hro HR ⊢
    have hVW : W.heap.size ≤ V1.heap.size := by have := HR.out.2.2.1; omega
    have htb : Tab V1 := H.out.2.2.2.2.2.1.below hin.below
    -- lengths
    obtain ⟨a, ha⟩ : ∃ a, a = lastD 0 pre := ⟨_, rfl⟩
    rw [← ha] at hin
    have hda : ∀ x ∈ spF 1 (rootF t), x.1 ≤ 500000 := fun x hx => by have := spF_depth 1 (rootF t) x hx; rw [rootF_size] at this; have := H.out.2.2.2.1; omega
    have hd : d ≤ 500000 := hda (d, key, k) (by rw [HR.out.2.2.2.1]; simp)
    have ha5 : a ≤ 500000 := by
      rcases lastD_mem pre 0 with h | ⟨x, hx, h⟩
      · omega
      · rw [ha, h]; exact hda x (by rw [HR.out.2.2.2.1]; simp [hx])
    have hii := H.out.2.2.2.2.2.2.1 (d, key, k) (by rw [HR.out.2.2.2.1]; simp)
    have hll : (showL 0 pre).length + (pieceL a (d, key, k)).length ≤ 10000000000000 := by
      have h1 := H.out.2.2.2.2.2.2.2
      rw [showT, HR.out.2.2.2.1, showL_append, ← ha] at h1
      simp only [showL, List.length_append] at h1; omega
    obtain ⟨l0, hl0⟩ : ∃ l0, l0 = showL 0 pre := ⟨_, rfl⟩
    have hl3 : showL 0 (pre ++ [(d, key, k)]) = ((l0 ++ betwL a d) ++ headL key) ++ textL key.2.2 := by rw [showL_snoc, ← ha, hl0, pieceL]; simp [List.append_assoc]
    have hln : l0.length + (betwL a d).length + (headL key).length + (textL key.2.2).length ≤ 10000000000000 := by rw [hl0]; simp only [pieceL, List.length_append] at hll; omega
    rw [← hl0] at hin
    have hah : V1.cell? ⟨w.heap.size + 1 + 1, 0, none⟩ = some (.int .i64 (a : Int)) := by rw [cell_of_row _ _ 0 _ _ _ hin.ahead]; rfl
    have HBT := Lib.hid (between_any V1 a d (by omega) (by omega))
    have HIN := Lib.hid hin
    have HSAY : Hid (∀ (X : World) (l s : List UInt8), InR w V1 S T ro l a X → l.length + s.length ≤ 140737488355328 → Calls Tryd.prog 33 #[.pointer (some ⟨w.heap.size + 1, 0, none⟩), .string ⟨s.toArray⟩] X fun e Y => e = .returned (.tuple #[.int .i64 (s.length : Int), .nilIface]) ∧ InR w V1 S T ro (l ++ s) a Y) := Lib.hid fun X l s h hs => h.say hSl hT1 hro hVB s hs
    have HF := Lib.hid (And.intro hl3 (And.intro hln (And.intro hii (And.intro htb (And.intro hT1 (And.intro ha (And.intro hd hVW)))))))
    have HE := Lib.hid (And.intro e0 (And.intro e1 e2))
    clear e0 e1 e2 hl3 hln hii htb hT1 ha hll hda ha5 hin hs1 hV1s hbl ev ho hoc hVB hro hro' hl0
    gi_wp2_with (first
      | (refine ⟨trivial, ?_⟩; gi_at_call 34; refine (CallsIn.inRound _ (callsIn_wide.2 HBT.out)).mono ?_; rintro e V2 ⟨rfl, hb2⟩; have HV2 := Lib.hid (HIN.out.then hb2); clear hb2)
      | (refine ⟨trivial, ?_⟩; gi_at_call 33; refine (CallsIn.inRound _ (callsIn_wide.2 (HSAY.out V2 _ _ HV2.out (by have := HF.out.2.1; omega)))).mono ?_; rintro e V3 ⟨rfl, hb3⟩; have HV3 := Lib.hid hb3; clear hb3))
    obtain ⟨SX, hSX⟩ : ∃ SX : World → Prop, SX = fun X => ∃ l, InR w V1 S T ro l a X := ⟨_, rfl⟩
    have HSx : ∀ X, SX X → X.cell? ⟨b, off, none⟩ = some (.int .i64 key.1) ∧ X.cell? ⟨b, off + 1, none⟩ = some (.int .i64 key.2.1) := fun X h => by
      rw [hSX] at h
      obtain ⟨l, h⟩ := h
      exact ⟨h.cell HR.out.2.2.2.2.1 HE.out.1, h.cell HR.out.2.2.2.2.1 HE.out.2.1⟩
    have hin3 : InR w V1 S T ro (l0 ++ betwL a d) a V3.drew := HV3.out.then ⟨rfl, rfl, rfl, Nat.le_refl _, fun _ _ => rfl⟩
    have hS0 : SX V3.drew := by rw [hSX]; exact ⟨_, hin3⟩
    have HSY := Lib.hid (fun (X : World) (l : List UInt8) (h : InR w V1 S T ro l a X) => (show SX X by rw [hSX]; exact ⟨l, h⟩))
    have HV3d := Lib.hid hin3
    have hlh := HF.out.2.1
    simp only [headL, List.length_append, List.length_cons, List.length_nil] at hlh
    have hqA : ¬ 9223372036854775807 < (Lib.itoa key.1).length + 1 := by omega
    have hqB : ¬ 9223372036854775807 < (Lib.itoa key.1).length + 1 + (Lib.itoa key.2.1).length := by omega
    have HQ := Lib.hid (And.intro hqA hqB)
    have HIA := Lib.hid (fun (X : World) (l : List UInt8) (h : InR w V1 S T ro l a X) => itoa_any X key.1 HF.out.2.2.1.1 (H.out.2.2.2.2.2.1.below h.below))
    have HIB := Lib.hid (fun (X : World) (l : List UInt8) (h : InR w V1 S T ro l a X) => itoa_any X key.2.1 HF.out.2.2.1.2 (H.out.2.2.2.2.2.1.below h.below))
    clear hSX hin3 hlh hqA hqB
    refine region_round (S := SX) (by kernel_rfl) (noDefer (by kernel_rfl)) ?_
    have hHeld := hS0
    clear hS0
    refine anyIn_take (i := 0) (oi := _) (v := (.pointer (some ⟨b, off, none⟩))) rfl (by kernel_rfl) (by kernel_rfl) (by kernel_rfl) (fun _ _ _ h => h) (Or.inl ⟨by rfl, ?_⟩) hHeld ?_
    · clear hHeld; intro X hSw; obtain ⟨s0, s1⟩ := HSx X hSw; clear hSw; go_simp
    simp only [Act.put, List.getElem_toArray, List.getElem_cons_zero, List.getElem_cons_succ, List.setIfInBounds_toArray, List.set_cons_zero, List.set_cons_succ]
    refine anyIn_take (i := 1) (oi := _) (v := (.pointer (some ⟨b, off, none⟩))) rfl (by kernel_rfl) (by kernel_rfl) (by kernel_rfl) (fun _ _ _ h => h) (Or.inl ⟨by rfl, ?_⟩) hHeld ?_
    · clear hHeld; intro X hSw; obtain ⟨s0, s1⟩ := HSx X hSw; clear hSw; go_simp
    simp only [Act.put, List.getElem_toArray, List.getElem_cons_zero, List.getElem_cons_succ, List.setIfInBounds_toArray, List.set_cons_zero, List.set_cons_succ]
    refine anyIn_take (i := 2) (oi := _) (v := (.pointer (some ⟨b, off, none⟩))) rfl (by kernel_rfl) (by kernel_rfl) (by kernel_rfl) (fun _ _ _ h => h) (Or.inl ⟨by rfl, ?_⟩) hHeld ?_
    · clear hHeld; intro X hSw; obtain ⟨s0, s1⟩ := HSx X hSw; clear hSw; go_simp
    simp only [Act.put, List.getElem_toArray, List.getElem_cons_zero, List.getElem_cons_succ, List.setIfInBounds_toArray, List.set_cons_zero, List.set_cons_succ]
    refine anyIn_take (i := 3) (oi := _) (v := (.int .i64 key.1)) rfl (by kernel_rfl) (by kernel_rfl) (by kernel_rfl) (fun _ _ _ h => h) (Or.inl ⟨by rfl, ?_⟩) hHeld ?_
    · clear hHeld; intro X hSw; obtain ⟨s0, s1⟩ := HSx X hSw; clear hSw; go_simp
    simp only [Act.put, List.getElem_toArray, List.getElem_cons_zero, List.getElem_cons_succ, List.setIfInBounds_toArray, List.set_cons_zero, List.set_cons_succ]
    refine anyIn_take (i := 6) (oi := _) (v := (.pointer (some ⟨b, off, none⟩))) rfl (by kernel_rfl) (by kernel_rfl) (by kernel_rfl) (fun _ _ _ h => h) (Or.inl ⟨by rfl, ?_⟩) hHeld ?_
    · clear hHeld; intro X hSw; obtain ⟨s0, s1⟩ := HSx X hSw; clear hSw; go_simp
    simp only [Act.put, List.getElem_toArray, List.getElem_cons_zero, List.getElem_cons_succ, List.setIfInBounds_toArray, List.set_cons_zero, List.set_cons_succ]
    refine anyIn_take (i := 7) (oi := _) (v := (.pointer (some ⟨b, off, none⟩))) rfl (by kernel_rfl) (by kernel_rfl) (by kernel_rfl) (fun _ _ _ h => h) (Or.inl ⟨by rfl, ?_⟩) hHeld ?_
    · clear hHeld; intro X hSw; obtain ⟨s0, s1⟩ := HSx X hSw; clear hSw; go_simp
    simp only [Act.put, List.getElem_toArray, List.getElem_cons_zero, List.getElem_cons_succ, List.setIfInBounds_toArray, List.set_cons_zero, List.set_cons_succ]
    refine anyIn_take (i := 8) (oi := _) (v := (.pointer (some ⟨b, off + 1, none⟩))) rfl (by kernel_rfl) (by kernel_rfl) (by kernel_rfl) (fun _ _ _ h => h) (Or.inl ⟨by rfl, ?_⟩) hHeld ?_
    · clear hHeld; intro X hSw; obtain ⟨s0, s1⟩ := HSx X hSw; clear hSw; go_simp
    simp only [Act.put, List.getElem_toArray, List.getElem_cons_zero, List.getElem_cons_succ, List.setIfInBounds_toArray, List.set_cons_zero, List.set_cons_succ]
    refine anyIn_take (i := 9) (oi := _) (v := (.int .i64 key.2.1)) rfl (by kernel_rfl) (by kernel_rfl) (by kernel_rfl) (fun _ _ _ h => h) (Or.inl ⟨by rfl, ?_⟩) hHeld ?_
    · clear hHeld; intro X hSw; obtain ⟨s0, s1⟩ := HSx X hSw; clear hSw; go_simp
    simp only [Act.put, List.getElem_toArray, List.getElem_cons_zero, List.getElem_cons_succ, List.setIfInBounds_toArray, List.set_cons_zero, List.set_cons_succ]
    refine anyIn_one (i := 4) (o := _) (by kernel_rfl) rfl fun K4 hK4 => ?_
    rw [if_pos (by rfl)]
    simp only [List.getElem_toArray, List.getElem_cons_zero, List.getElem_cons_succ]
    have HK4 := Lib.hid hK4
    clear hK4 hHeld
    gi_wp2_with (refine ⟨trivial, ?_⟩; gi_at_call 35; refine (callsIn_wide.2 (HIA.out V3.drew _ HV3d.out)).mono ?_; rintro e V4 ⟨rfl, hb4⟩; have HV4 := Lib.hid (HV3d.out.then hb4); clear hb4)
    have hHeld := HSY.out V4 _ HV4.out
    refine HK4.out _ _ hHeld ?_
    clear HK4
    refine anyIn_take (i := 5) (oi := _) (v := (.string ⟨(Lib.itoa key.1 ++ [58]).toArray⟩)) rfl (by kernel_rfl) (by kernel_rfl) (by kernel_rfl) (fun _ _ _ h => h) (Or.inl ⟨by rfl, ?_⟩) hHeld ?_
    · clear hHeld; intro X hSw; have hq := HQ.out.1; clear hSw; go_simp; rw [show (⟨#[58]⟩ : ByteArray) = ⟨[58].toArray⟩ from rfl, bytes_append]
    simp only [Act.put, List.getElem_toArray, List.getElem_cons_zero, List.getElem_cons_succ, List.setIfInBounds_toArray, List.set_cons_zero, List.set_cons_succ]
    refine anyIn_one (i := 10) (o := _) (by kernel_rfl) rfl fun K5 hK5 => ?_
    rw [if_pos (by rfl)]
    simp only [List.getElem_toArray, List.getElem_cons_zero, List.getElem_cons_succ]
    have HK5 := Lib.hid hK5
    clear hK5 hHeld
    gi_wp2_with (refine ⟨trivial, ?_⟩; gi_at_call 35; refine (callsIn_wide.2 (HIB.out V4 _ HV4.out)).mono ?_; rintro e V5 ⟨rfl, hb5⟩; have HV5 := Lib.hid (HV4.out.then hb5); clear hb5)
    have hHeld := HSY.out V5 _ HV5.out
    refine HK5.out _ _ hHeld ?_
    clear HK5
    refine anyIn_take (i := 11) (oi := _) (v := (.string ⟨(headL key).toArray⟩)) rfl (by kernel_rfl) (by kernel_rfl) (by kernel_rfl) (fun _ _ _ h => h) (Or.inl ⟨by rfl, ?_⟩) hHeld ?_
    · clear hHeld; intro X hSw; have hq := HQ.out.2; clear hSw; go_simp; rw [bytes_append]; rfl
    simp only [Act.put, List.getElem_toArray, List.getElem_cons_zero, List.getElem_cons_succ, List.setIfInBounds_toArray, List.set_cons_zero, List.set_cons_succ]
    refine anyIn_one (i := 12) (o := _) (by kernel_rfl) rfl fun K6 hK6 => ?_
    rw [if_pos (by rfl)]
    simp only [List.getElem_toArray, List.getElem_cons_zero, List.getElem_cons_succ]
    have HK6 := Lib.hid hK6
    clear hK6 hHeld
    gi_wp2_with (refine ⟨trivial, ?_⟩; gi_at_call 33; refine (callsIn_wide.2 (HSAY.out V5 _ _ HV5.out (by have := HF.out.2.1; simp only [List.length_append]; omega))).mono ?_; rintro e V6 ⟨rfl, hb6⟩; have HV6 := Lib.hid hb6; clear hb6)
    have hHeld := HSY.out V6 _ HV6.out
    refine HK6.out _ _ hHeld ?_
    clear HK6
    refine anyIn_done (by kernel_rfl) ?_ _
    clear hHeld HSx HSY HIA HIB HQ
    obtain ⟨tx, htx⟩ : ∃ tx, tx = key.2.2 := ⟨_, rfl⟩
    have HTX := Lib.hid htx
    have hend : ∀ (X : World) (m : List UInt8), InR w V1 S T ro m a X → m = showL 0 (pre ++ [(d, key, k)]) → ∀ aa : Act, LeftT W.heap.size T (fun x => S x ∨ x = w.heap.size + 3) (ShowR w W ro) (fun _ _ _ => False) (pre ++ [(d, key, k)]) V1 .normal aa (X.setCell ⟨w.heap.size + 1 + 1, 0, none⟩ (.int .i64 (d : Int))) := fun X m h hm aa => h.last (x := (d, key, k)) k7' HF.out.2.2.2.2.2.2.2 hSl HF.out.2.2.2.2.1 hm aa
    have HEND := Lib.hid hend
    clear hend
    by_cases he : tx = ⟨#[]⟩
    · have htl : (l0 ++ betwL a d) ++ headL key = showL 0 (pre ++ [(d, key, k)]) := by rw [HF.out.1, ← HTX.out, he]; simp [textL]
      have t2 : V6.cell? ⟨b, off + 2, none⟩ = some (.string ⟨#[]⟩) := by rw [HV6.out.cell HR.out.2.2.2.2.1 HE.out.2.2, ← HTX.out, he]
      have a2 : V6.cell? ⟨w.heap.size + 1 + 1, 0, none⟩ = some (.int .i64 (a : Int)) := by rw [cell_of_row _ _ 0 _ _ _ HV6.out.ahead]; rfl
      have f2 : V6.frozen? ⟨w.heap.size + 1 + 1, 0, none⟩ = false := frozen_of_row _ _ 0 _ _ HV6.out.ahead
      have HX := Lib.hid (HEND.out V6 _ HV6.out htl)
      clear htl he htx
      gi_wp2
      exact HX.out _
    · have htl : (((l0 ++ betwL a d) ++ headL key) ++ quoL tx.data.toList) = showL 0 (pre ++ [(d, key, k)]) := by rw [HF.out.1, ← HTX.out]; simp [textL, he]
      have t2 : V6.cell? ⟨b, off + 2, none⟩ = some (.string tx) := by rw [HV6.out.cell HR.out.2.2.2.2.1 HE.out.2.2, ← HTX.out]
      have htsz : tx.size ≤ 10000000000000 ∧ tx.size + (quoL tx.data.toList).length ≤ 20000000000000 := by
        have h1 := HF.out.2.1
        have h2 := textL_size tx
        rw [← HTX.out] at h1
        have h3 : textL tx = quoL tx.data.toList := by simp [textL, he]
        rw [← h3]; omega
      have hb0 : tx.toList.isEmpty = false := by
        rw [ByteArray.toList_eq]
        cases hh : tx.data.toList with
        | nil => exact absurd (ByteArray.ext (Array.toList_inj.1 hh)) he
        | cons u m => rfl
      have HQT := Lib.hid (quoted_any V6 tx (by omega))
      have HX := Lib.hid (And.intro htl htsz)
      clear htl htsz htx
      gi_wp2_with (first
        | (refine ⟨trivial, ?_⟩; gi_at_call 36; refine (CallsIn.inRound _ (callsIn_wide.2 HQT.out)).mono ?_; rintro e V7 ⟨rfl, hb7⟩; have HV7 := Lib.hid (HV6.out.then hb7); clear hb7)
        | (refine ⟨trivial, ?_⟩; gi_at_call 33; refine (CallsIn.inRound _ (callsIn_wide.2 (HSAY.out V7 _ _ HV7.out (by have h1 := HF.out.2.1; have h2 := HX.out.2.2; simp only [List.length_append]; omega)))).mono ?_; rintro e V8 ⟨rfl, hb8⟩; have a2 : V8.cell? ⟨w.heap.size + 1 + 1, 0, none⟩ = some (.int .i64 (a : Int)) := (by rw [cell_of_row _ _ 0 _ _ _ hb8.ahead]; rfl); have f2 : V8.frozen? ⟨w.heap.size + 1 + 1, 0, none⟩ = false := frozen_of_row _ _ 0 _ _ hb8.ahead; have HV8 := Lib.hid hb8; clear hb8))
      exact HEND.out V8 _ HV8.out HX.out.1 _
end Go.Proofs.YteccnekdmehloaaDoor
