/-
  What CodePuts answers: true. No condition but that its arguments lie in memory as they came in.
-/
import Derived.Test.YthdffhmmkodenaaCGreat
import Derived.Test.YthdffhmmkodenaaCRefStep
import Derived.Test.YthdffhmmkodenaaCWakes
import Derived.Deep.RegionWith
import Derived.Deep.CutRange
namespace Go.Proofs.Ythdffhmmkodenaa
open Go.RowKit
open Extern.Stop (cell)

theorem ByAt.conv {w : World} {a : Option Addr} {n cap : Nat} {bs : List UInt8} (h : ByAt w a bs) (hn : n = bs.length) : (convert 22 9 (.slice a n cap)).run Try.prog w = .ok (.string ⟨bs.toArray⟩) w := by
  subst hn
  cases a with
  | none =>
    have hb := h.1 rfl
    subst hb
    rw [run_convert_bytes_string w _ _ _ none _ cap Try.underlying22 Try.underlying5 Try.underlying9]
    simp [Conv.bytesToString]
    rfl
  | some ad =>
    exact run_convert_bytes_back w _ _ _ ad cap bs Try.underlying22 Try.underlying5 Try.underlying9 (fun j hj => h.2 ad rfl j _ (List.getElem?_eq_getElem hj))
/-- New bytes that read as the text s, now and later. -/
def StrC (W : World) (s : ByteArray) (X : World) (e : Ending) (w' : World) : Prop := ∃ v, e = .returned v ∧ (∀ Y, Below w'.heap.size w' Y → (convert 22 9 v).run Try.prog Y = .ok (.string s) Y) ∧ Below X.heap.size X w' ∧ Below W.heap.size W w'
theorem NewB.str {W X w' : World} {bs : List UInt8} {e : Ending} (hX : Below W.heap.size W X) (h : NewB X bs e w') : StrC W ⟨bs.toArray⟩ X e w' := by
  obtain ⟨a, n, cap, rfl, hn, h1, h2⟩ := h
  exact ⟨_, rfl, fun Y hY => (h1.below hY).conv hn, h2, hX.trans (h2.mono hX.size)⟩
/-- A call that answers this text, whatever was made meanwhile. -/
def Says (W : World) (f : FuncId) (args : Array Value) (s : ByteArray) : Prop := ∀ X, Below W.heap.size W X → Calls Try.prog f args X (StrC W s X)
theorem drew_below (W : World) : Below W.heap.size W W.drew := ⟨rfl, rfl, rfl, Nat.le_refl _, fun _ _ => rfl⟩

/-- append([]byte{}, b...): the bytes of b, in new memory. -/
theorem wpList_ownOf {P : Program} {ops : Array Oper} {rest : List Oper} {o : Oper} {a : Act} {Q : Exit → Act → World → Prop} (w : World) (hgd : o.guard = none) (sl x : Operand) (t : TypeId)
    (ho : o.op = .call { callee := .builtin .append, args := #[sl, x], argTypes := #[t, t] })
    (i : TypeInfo) (ht : P.underlying t = some (.slice 5)) (hi : P.info? 5 = some i) (hz : i.zero = some (.int .u8 0)) (hsize : i.size = 1) (hby : i.bytes = 1)
    (hs : a.eval sl = .slice (some ⟨w.heap.size, 0, none⟩) 0 0) (ba : Option Addr) (n c : Nat) (bs : List UInt8) (hn : n = bs.length) (hx : a.eval x = .slice ba n c) (hc0 : ba = none → c = 0) (hb : ByAt w ba bs) (hlen : n ≤ 1000000)
    (h : ∀ oa ocap w', ByAt w' oa bs → Below w.heap.size w w' → wpList P ops Q rest (a.put o.dst (.slice oa n ocap)) w') : wpList P ops Q (o :: rest) a (w.alloc (.cells #[] 5)) := by
  subst hn
  have hmade : (w.alloc (.cells #[] 5)).ownsRow w.heap.size 5 1 (.slice (some ⟨w.heap.size, 0, none⟩) 0 0) 0 [] := World.ownsRow_made w #[] 0 (Nat.le_refl _) (by unfold maxLen; omega) rfl
  have hbel : Below w.heap.size w (w.alloc (.cells #[] 5)) := (Below.refl _ _).alloc (Nat.le_refl _) _
  cases ba with
  | none =>
    have hb0 := hb.1 rfl
    have hc := hc0 rfl
    subst hb0
    subst hc
    exact wpList_append_own_none hgd sl x t ho w.heap.size 5 i 1 ht hi _ 0 [] hs hmade hx (h _ 0 _ ⟨fun e => (by cases e), fun ad e j u hj => by simp at hj⟩ hbel)
  | some ad =>
    refine wpList_bytes hgd sl x t ho w.heap.size i ht hi hz hsize hby _ 0 [] hs w ⟨⟨World.ownsRowF_of hmade, hbel, hbel.size⟩, StaysU.below hbel⟩ ad c bs hx ((hb.below hbel).2 ad rfl) (by omega) fun v' w' hv => ?_
    have hv2 : OwnB w.heap.size v' bs w w' := by simpa using hv
    obtain ⟨oa, oc, rfl, h2⟩ := hv2.byAt
    exact h oa oc w' h2 hv2.1.2.1

def Tr.fits (t : Tr) : Prop := foLen t.kids ≤ 9223372036854775807 ∧ foFit t.kids
def YesB (w : World) (e : Ending) (w' : World) : Prop := e = .returned (.bool true) ∧ Below w.heap.size w w'
theorem YesB.of {w w1 : World} {e : Ending} {w' : World} (h : Below w.heap.size w w1) (hy : e = .returned (.bool true) ∧ Below w1.heap.size w1 w') : YesB w e w' := ⟨hy.1, h.trans (hy.2.mono h.size)⟩

theorem encL_small : ∀ (l : List Stp), (∀ x ∈ l, x.small) → (encL l).length ≤ l.length * 48100
  | [], _ => by simp [encL]
  | x :: l, h => by
    have h1 := encL_small l fun y hy => h y (List.mem_cons_of_mem _ hy)
    have h2 := h x (List.mem_cons_self ..)
    have h3 := small_enc h2.1
    have h4 := h2.2
    have h5 := encS_length x
    simp only [encL, List.flatMap_cons, List.length_append, List.length_cons] at h1 ⊢
    omega
set_option maxRecDepth 100000 in
set_option maxHeartbeats 40000000 in
theorem codePuts_any (w : World) (S : Nat → Prop) (ba : Option Addr) (bl bcap : Nat) (bs : List UInt8) (n : Int) (s : ByteArray) (tv : Value) (t : Tr) (sa : Option Addr) (ll scap : Nat) (l : List Stp)
    (hS : ∀ k, S k → k < w.heap.size) (hbl : bl = bs.length) (hby : ByAt w ba bs) (hbc : ba = none → bcap = 0) (ht : TrAt w S tv t) (htf : t.fits) (hll : ll = l.length) (hl2 : ll ≤ 9223372036854775807) (hs : StepsAt w S sa l) (hft : ∀ x ∈ l, x.fits) :
    Calls Try.prog 3 #[.slice ba bl bcap, .int .i64 n, .string s, tv, .slice sa ll scap] w (YesB w) := by
  obtain ⟨ka, kcap, rfl, hkc, hk⟩ := ht
  obtain ⟨len, hlen⟩ : ∃ len, len = foLen t.kids := ⟨_, rfl⟩
  rw [← hlen]
  have hb1 : Below w.heap.size w (w.alloc (.cells #[.int .i64 t.id, .int .i64 t.kind, .string t.text, .slice ka len kcap] 25)) := (Below.refl _ _).alloc (Nat.le_refl _) _
  have hbox := heap_alloc_new w (.cells #[.int .i64 t.id, .int .i64 t.kind, .string t.text, .slice ka len kcap] 25)
  have htr : ∀ X, Below w.heap.size w X → TrAt X S (.agg #[.int .i64 t.id, .int .i64 t.kind, .string t.text, .slice ka len kcap]) t := fun X hX => ⟨ka, kcap, by rw [hlen], hkc, hk.below hX hS⟩
  have hst : ∀ X, Below w.heap.size w X → StepsAt X S sa l := fun X hX => hs.kept fun y hy => ⟨hy, hX.block y (hS y hy)⟩
  have hSX : ∀ X, Below w.heap.size w X → ∀ k, S k → k < X.heap.size := fun X hX k hk => Nat.lt_of_lt_of_le (hS k hk) hX.size
  have HW := Lib.hid wakes_any
  have HB1 := Lib.hid (And.intro hb1 hbox)
  have H := Lib.hid (And.intro htr (And.intro hst (And.intro hSX (And.intro hby (And.intro hbl (And.intro hll hbc))))))
  have HG := Lib.hid (great_any _ S _ t htf.1 htf.2 (hSX _ hb1) (htr _ hb1))
  have HF := Lib.hid (And.intro hl2 hft)
  clear hS hbl hby hbc hkc hk htf hll hs hft htr hst hSX hb1 hbox hlen
  by_cases h1 : 1000 < bl
  · have h1' : (1000 : Int) < (bl : Int) := by omega
    go_enter Try.func3, Try.ntmps3
    go_wp2_with (go_at_call 9; refine (HW.out _).mono ?_; clear HW; rintro e w2 ⟨rfl, h2⟩; have H2 := Lib.hid h2; clear h2)
    go_ret
    exact YesB.of HB1.out.1 ⟨rfl, H2.out⟩
  · have h1' : ¬ (1000 : Int) < (bl : Int) := by omega
    by_cases h2 : 1000 < s.size
    · have h2' : (1000 : Int) < (s.size : Int) := by omega
      go_enter Try.func3, Try.ntmps3
      go_wp2_with (go_at_call 9; refine (HW.out _).mono ?_; clear HW; rintro e w2 ⟨rfl, h2⟩; have H2 := Lib.hid h2; clear h2)
      go_ret
      exact YesB.of HB1.out.1 ⟨rfl, H2.out⟩
    · have h2' : ¬ (1000 : Int) < (s.size : Int) := by omega
      have HSZ := Lib.hid (And.intro h1 h2)
      clear h1 h2 hl2
      go_enter Try.func3, Try.ntmps3
      go_wp2_with fail
      refine HG.out.mono ?_
      rintro e w2 ⟨bt, rfl, hbt, hb2⟩
      have HB2 : Hid (Below w.heap.size w w2) := Lib.hid (HB1.out.1.trans (hb2.mono HB1.out.1.size))
      have HX2 := Lib.hid (box_there HB1.out.2 hb2)
      cases bt with
      | true =>
        clear hbt hb2
        go_wp2_with (go_at_call 9; refine (HW.out _).mono ?_; clear HW; rintro e w3 ⟨rfl, h2⟩; have H2 := Lib.hid h2; clear h2)
        go_ret
        exact YesB.of HB2.out ⟨rfl, H2.out⟩
      | false =>
        have HSM := Lib.hid (hbt rfl)
        have HGS := Lib.hid (greatSteps_any w2 S sa ll scap l H.out.2.2.2.2.2.1 HF.out.1 (H.out.2.2.1 _ HB2.out) (H.out.2.1 _ HB2.out) HF.out.2)
        clear hbt hb2 HG
        go_wp2_with fail
        refine HGS.out.mono ?_
        rintro e w3 ⟨bt, rfl, hbt, hb3⟩
        have HB3 : Hid (Below w.heap.size w w3) := Lib.hid (HB2.out.trans (hb3.mono HB2.out.size))
        have HX3 := Lib.hid (box_there HX2.out hb3)
        cases bt with
        | true =>
          clear hbt hb3
          go_wp2_with (go_at_call 9; refine (HW.out _).mono ?_; clear HW; rintro e w4 ⟨rfl, h2⟩; have H2 := Lib.hid h2; clear h2)
          go_ret
          exact YesB.of HB3.out ⟨rfl, H2.out⟩
        | false =>
          have hsm := hbt rfl
          obtain ⟨i0, hi, hz, hsz, hb0⟩ := info_u Try.infoU
          have HI := Lib.hid (And.intro hi (And.intro hz (And.intro hsz hb0)))
          have hby3 : ByAt w3 ba bs := H.out.2.2.2.1.below HB3.out
          have HSL := Lib.hid (And.intro hsm hby3)
          clear hbt hb3 HGS hsm hi hz hsz hb0 hby3
          go_wp2_with (at_builtin; refine wpList_ownOf w3 rfl (.tmp 31) (.tmp 32) 22 rfl i0 Try.underlying22 HI.out.1 HI.out.2.1 HI.out.2.2.1 HI.out.2.2.2 rfl ba bl bcap bs H.out.2.2.2.2.1 rfl H.out.2.2.2.2.2.2 HSL.out.2 (by have := HSZ.out; omega) ?_; intro oa oc w4 ho4 hb4; have H4 := Lib.hid (And.intro ho4 (HB3.out.trans (hb4.mono HB3.out.size))); have HX4 := Lib.hid (box_there HX3.out hb4); clear ho4 hb4)
          obtain ⟨sN, p1, p2⟩ : ∃ sN, Says w4 10 #[.slice oa bl oc, .int .i64 n] sN ∧ Says w4 11 #[.slice ba bl bcap, .int .i64 n] sN :=
            ⟨_, fun X hX => (pnum X oa bl oc bs n H.out.2.2.2.2.1 (H4.out.1.below hX) (by have := HSZ.out; have := H.out.2.2.2.2.1; omega)).mono fun _ _ h => h.str hX, fun X hX => (rnum X ba bl bcap bs n H.out.2.2.2.2.1 (H.out.2.2.2.1.below (H4.out.2.trans (hX.mono H4.out.2.size))) (by have := HSZ.out; have := H.out.2.2.2.2.1; omega)).mono fun _ _ h => h.str hX⟩
          obtain ⟨sT, p3, p4⟩ : ∃ sT, Says w4 12 #[.slice oa bl oc, .string s] sT ∧ Says w4 13 #[.slice ba bl bcap, .string s] sT :=
            ⟨_, fun X hX => (ptext X oa bl oc bs s H.out.2.2.2.2.1 (H4.out.1.below hX) (by have := HSZ.out; have := H.out.2.2.2.2.1; omega) (by have := HSZ.out; omega)).mono fun _ _ h => h.str hX, fun X hX => (rtext X ba bl bcap bs s H.out.2.2.2.2.1 (H.out.2.2.2.1.below (H4.out.2.trans (hX.mono H4.out.2.size))) (by have := HSZ.out; have := H.out.2.2.2.2.1; omega)).mono fun _ _ h => h.str hX⟩
          obtain ⟨sD, p5, p6⟩ : ∃ sD, Says w4 14 #[.slice oa bl oc, .agg #[.int .i64 t.id, .int .i64 t.kind, .string t.text, .slice ka len kcap]] sD ∧ Says w4 15 #[.slice ba bl bcap, .agg #[.int .i64 t.id, .int .i64 t.kind, .string t.text, .slice ka len kcap]] sD :=
            ⟨_, fun X hX => (pnode X S _ t oa bl oc bs (H.out.2.2.1 _ (H4.out.2.trans (hX.mono H4.out.2.size))) (H.out.1 _ (H4.out.2.trans (hX.mono H4.out.2.size))) H.out.2.2.2.2.1 (H4.out.1.below hX) (by have := HSZ.out; have := H.out.2.2.2.2.1; have := small_enc HSM.out; omega)).mono fun _ _ h => h.str hX,
              fun X hX => (refNode_any _ X S _ t ba bl bcap bs (Nat.lt_succ_self _) (H.out.2.2.1 _ (H4.out.2.trans (hX.mono H4.out.2.size))) (H.out.1 _ (H4.out.2.trans (hX.mono H4.out.2.size))) H.out.2.2.2.2.1 (H.out.2.2.2.1.below (H4.out.2.trans (hX.mono H4.out.2.size))) (by have := HSZ.out; have := H.out.2.2.2.2.1; have := small_enc HSM.out; omega)).mono fun _ _ h => h.str hX⟩
          obtain ⟨sP, p7, p8⟩ : ∃ sP, Says w4 16 #[.slice oa bl oc, .slice sa ll scap] sP ∧ Says w4 17 #[.slice ba bl bcap, .slice sa ll scap] sP :=
            ⟨_, fun X hX => (psteps X S l oa sa bl oc ll scap bs (H.out.2.2.1 _ (H4.out.2.trans (hX.mono H4.out.2.size))) (H.out.2.1 _ (H4.out.2.trans (hX.mono H4.out.2.size))) H.out.2.2.2.2.2.1 H.out.2.2.2.2.1 (H4.out.1.below hX) (by have := HSZ.out; have := H.out.2.2.2.2.1; have h1 := encL_small l HSL.out.1.2; have h2 := HSL.out.1.1; omega) (by have h2 := HSL.out.1.1; have := H.out.2.2.2.2.2.1; omega)).mono fun _ _ h => h.str hX,
              fun X hX => (rsteps X S l ba sa bl bcap ll scap bs (H.out.2.2.1 _ (H4.out.2.trans (hX.mono H4.out.2.size))) (H.out.2.1 _ (H4.out.2.trans (hX.mono H4.out.2.size))) H.out.2.2.2.2.2.1 H.out.2.2.2.2.1 (H.out.2.2.2.1.below (H4.out.2.trans (hX.mono H4.out.2.size))) (by have := HSZ.out; have := H.out.2.2.2.2.1; have h1 := encL_small l HSL.out.1.2; have h2 := HSL.out.1.1; omega) (by have h2 := HSL.out.1.1; have := H.out.2.2.2.2.2.1; omega)).mono fun _ _ h => h.str hX⟩
          have hx4 : w4.heap[w.heap.size]? = some (.cells #[.int .i64 t.id, .int .i64 t.kind, .string t.text, .slice ka len kcap] 25 (0, 0)) := HX4.out
          have HP := Lib.hid (And.intro p1 (And.intro p2 (And.intro p3 p4)))
          have HQ := Lib.hid (And.intro p5 (And.intro p6 (And.intro p7 (And.intro p8 hx4))))
          clear p1 p2 p3 p4 p5 p6 p7 p8 hx4 HI
          go_cut [12] from 34 to 53 (fun s12 wx => s12 = .bool true ∧ Below w4.heap.size w4 wx)
          case first =>
            have B0 := Lib.hid (drew_below w4)
            go_region_with (first
              | (go_at_call 10; refine (HP.out.1 _ (by first | exact B0.out | exact B6.out.1)).mono ?_; rintro e w5 ⟨v5, rfl, k5, b5, q5⟩; have B5 := Lib.hid (And.intro q5 k5); have c5 := k5 w5 (Below.refl _ _); (try have c6' := B6.out.2 _ b5); clear k5 b5 q5)
              | (go_at_call 11; refine (HP.out.2.1 _ (by first | exact B0.out | exact B5.out.1)).mono ?_; rintro e w6 ⟨v6, rfl, k6, b6, q6⟩; have B6 := Lib.hid (And.intro q6 k6); have c6 := k6 w6 (Below.refl _ _); (try have c5' := B5.out.2 _ b6); clear k6 b6 q6)
              | (go_at_call 12; refine (HP.out.2.2.1 _ (by first | exact B8.out.1 | exact B6.out.1 | exact B5.out.1)).mono ?_; rintro e w7 ⟨v7, rfl, k7, b7, q7⟩; have B7 := Lib.hid (And.intro q7 k7); have c7 := k7 w7 (Below.refl _ _); (try have c8' := B8.out.2 _ b7); clear k7 b7 q7)
              | (go_at_call 13; refine (HP.out.2.2.2 _ (by first | exact B7.out.1 | exact B6.out.1 | exact B5.out.1)).mono ?_; rintro e w8 ⟨v8, rfl, k8, b8, q8⟩; have B8 := Lib.hid (And.intro q8 k8); have c8 := k8 w8 (Below.refl _ _); (try have c7' := B7.out.2 _ b8); clear k8 b8 q8))
            all_goals (go_wp2_with fail; go_meet; case rel => first | exact ⟨rfl, B8.out.1⟩ | exact ⟨rfl, B7.out.1⟩)
          case rest =>
            obtain ⟨rfl, hbc⟩ := hcut
            have HBC := Lib.hid hbc
            have BX : Hid (∀ X, Below w4.heap.size w4 X → BoxN w t.id t.kind t.text ka len kcap X) := Lib.hid fun X hX => boxN_of ((hX.block _ (lt_of_heap HQ.out.2.2.2.2)).trans HQ.out.2.2.2.2)
            obtain ⟨d0, d1, d2, d3⟩ := BX.out _ hbc
            clear hbc
            go_wp2_with fail
            go_cut [13] from 54 to 73 (fun s13 wx => s13 = .bool true ∧ Below w4.heap.size w4 wx)
            case first =>
              have B0 := Lib.hid (show Below w4.heap.size w4 wc.drew from HBC.out.trans ((drew_below wc).mono HBC.out.size))
              go_region_with (first
                | (go_at_call 14; refine (HQ.out.1 _ (by first | exact B0.out | exact B6.out.1)).mono ?_; rintro e w5 ⟨v5, rfl, k5, b5, q5⟩; have B5 := Lib.hid (And.intro q5 k5); have c5 := k5 w5 (Below.refl _ _); obtain ⟨e0, e1, e2, e3⟩ := BX.out _ q5; (try have c6' := B6.out.2 _ b5); clear k5 b5 q5)
                | (go_at_call 15; refine (HQ.out.2.1 _ (by first | exact B0.out | exact B5.out.1)).mono ?_; rintro e w6 ⟨v6, rfl, k6, b6, q6⟩; have B6 := Lib.hid (And.intro q6 k6); have c6 := k6 w6 (Below.refl _ _); obtain ⟨f0, f1, f2, f3⟩ := BX.out _ q6; (try have c5' := B5.out.2 _ b6); clear k6 b6 q6)
                | (go_at_call 16; refine (HQ.out.2.2.1 _ (by first | exact B8.out.1 | exact B6.out.1 | exact B5.out.1)).mono ?_; rintro e w7 ⟨v7, rfl, k7, b7, q7⟩; have B7 := Lib.hid (And.intro q7 k7); have c7 := k7 w7 (Below.refl _ _); (try have c8' := B8.out.2 _ b7); clear k7 b7 q7)
                | (go_at_call 17; refine (HQ.out.2.2.2.1 _ (by first | exact B7.out.1 | exact B6.out.1 | exact B5.out.1)).mono ?_; rintro e w8 ⟨v8, rfl, k8, b8, q8⟩; have B8 := Lib.hid (And.intro q8 k8); have c8 := k8 w8 (Below.refl _ _); (try have c7' := B7.out.2 _ b8); clear k8 b8 q8))
              all_goals (go_wp2_with fail; go_meet; case rel => first | exact ⟨rfl, B8.out.1⟩ | exact ⟨rfl, B7.out.1⟩)
            case rest =>
              obtain ⟨rfl, hbd⟩ := hcut
              rename_i wz
              have HBD := Lib.hid hbd
              have co := (H4.out.1.below hbd).conv (cap := oc) H.out.2.2.2.2.1
              have cb := (H.out.2.2.2.1.below (H4.out.2.trans (hbd.mono H4.out.2.size))).conv (cap := bcap) H.out.2.2.2.2.1
              clear hbd
              go_wp2_with (go_at_call 9; refine (HW.out _).mono ?_; clear HW; rintro e w9 ⟨rfl, h2⟩; have H9 := Lib.hid h2; clear h2)
              go_ret
              exact YesB.of (H4.out.2.trans (HBD.out.mono H4.out.2.size)) ⟨rfl, H9.out⟩
end Go.Proofs.Ythdffhmmkodenaa
