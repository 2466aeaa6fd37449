/-
  CodeReads: the walk. No condition.
-/
import Derived.Test.YtljlijdgocfofaaDOpen
import Derived.Deep.RegionHeld3
namespace Go.Proofs.Ytljlijdgocfofaa
open Go.RowKit
open Extern.Stop (cell)

theorem same_two {wr w5 w6 : World} {rb : Nat} {ka kb : Option Addr} {kc kd ln : Nat} {t : Tr} (hrl : rb < wr.heap.size) (_t5 : wr.heap.size ≤ w5.heap.size) (hft : Fits t) (hln : ln = foLen t.kids) (hkc : foLen t.kids ≤ kc) (hk : FoAt w5 (Fresh wr w5) t.kids ka) (hkd : foLen t.kids ≤ kd)
    (hk2 : FoAt w6 (Fresh (w5.alloc (.cells #[.int .i64 t.id, .int .i64 t.kind, .string t.text, .slice ka ln kc] 25)) w6) t.kids kb) (t6 : Touched (w5.alloc (.cells #[.int .i64 t.id, .int .i64 t.kind, .string t.text, .slice ka ln kc] 25)) w6 (fun k => k = rb)) :
    (w6.alloc (.cells #[.int .i64 t.id, .int .i64 t.kind, .string t.text, .slice kb ln kd] 25)).heap[w5.heap.size]? = some (.cells #[.int .i64 t.id, .int .i64 t.kind, .string t.text, .slice ka ln kc] 25 (0, 0)) ∧ Calls Try.prog 27 #[.agg #[.int .i64 t.id, .int .i64 t.kind, .string t.text, .slice ka ln kc], .agg #[.int .i64 t.id, .int .i64 t.kind, .string t.text, .slice kb ln kd]] (w6.alloc (.cells #[.int .i64 t.id, .int .i64 t.kind, .string t.text, .slice kb ln kd] 25)) (YesC (w6.alloc (.cells #[.int .i64 t.id, .int .i64 t.kind, .string t.text, .slice kb ln kd] 25))) := by
  have s6 := t6.size
  rw [World.size_alloc] at s6
  refine ⟨(Below.heap_alloc _ _ _ (by omega)).trans ((t6.block _ (by rw [World.size_alloc]; omega) (by omega)).trans (heap_alloc_new w5 _)), same_yes _ (Fresh wr w5) (Fresh (w5.alloc (.cells #[.int .i64 t.id, .int .i64 t.kind, .string t.text, .slice ka ln kc] 25)) w6) _ _ t hft (fun k hk => by have := hk.2; rw [World.size_alloc]; omega) (fun k hk => by have := hk.2; rw [World.size_alloc]; omega) ⟨ka, kc, by rw [hln], hkc, hk.kept fun x hx => ⟨hx, ?_⟩⟩ ⟨kb, kd, by rw [hln], hkd, hk2.kept fun x hx => ⟨hx, Below.heap_alloc _ _ _ hx.2⟩⟩⟩
  have h1 := hx.1
  have h2 := hx.2
  rw [Below.heap_alloc _ _ _ (by omega), t6.block _ (by rw [World.size_alloc]; omega) (by omega), Below.heap_alloc _ _ _ h2]
theorem same_two_s {wr w5 w6 : World} {rb : Nat} {a b : Option Addr} {n n2 c c2 : Nat} {l : List Stp} (hrl : rb < wr.heap.size) (_t5 : wr.heap.size ≤ w5.heap.size) (hl : l.length ≤ 60) (hm : ∀ x ∈ l, Fits x.sub) (hn : n = l.length) (h1 : StepsAt w5 (Fresh wr w5) a l) (hn2 : n2 = l.length) (h2 : StepsAt w6 (Fresh w5 w6) b l) (t6 : Touched w5 w6 (fun k => k = rb)) :
    Calls Try.prog 30 #[.slice a n c, .slice b n2 c2] w6 (YesC w6) := by
  have s6 := t6.size
  subst hn2
  rw [hn]
  refine same_steps w6 (Fresh wr w5) (Fresh w5 w6) a b c c2 l (by omega) hm (fun k hk => by have := hk.2; omega) (fun k hk => hk.2) (h1.kept fun x hx => ⟨hx, ?_⟩) h2
  have h1 := hx.1
  have h2 := hx.2
  exact t6.block _ (by omega) (by omega)
theorem box_cells0 {X : World} {g : Nat} {yi yk : Int} {yt : ByteArray} {ya : Option Addr} {yn yc : Nat} (h : X.heap[g]? = some (.cells #[.int .i64 yi, .int .i64 yk, .string yt, .slice ya yn yc] 25 (0, 0))) :
    X.cell? ⟨g, 0, none⟩ = some (.int .i64 yi) ∧ X.cell? ⟨g, 1, none⟩ = some (.int .i64 yk) ∧ X.cell? ⟨g, 2, none⟩ = some (.string yt) ∧ X.cell? ⟨g, 3, none⟩ = some (.slice ya yn yc) :=
  ⟨by rw [cell_of_row _ _ 0 _ _ _ h]; rfl, by rw [cell_of_row _ _ 1 _ _ _ h]; rfl, by rw [cell_of_row _ _ 2 _ _ _ h]; rfl, by rw [cell_of_row _ _ 3 _ _ _ h]; rfl⟩
theorem endV_tuple (s : Rd) : ∃ at_ er : Int, s.endV = .tuple #[.int .i64 at_, .int .i64 er] := by
  unfold Rd.endV
  split
  · exact ⟨_, _, rfl⟩
  · exact ⟨_, _, rfl⟩
def YesL (w : World) (e : Ending) (w' : World) : Prop := e = .returned (.bool true) ∧ Below w.heap.size w w'
set_option linter.unusedSimpArgs false in
set_option maxRecDepth 100000 in
set_option maxHeartbeats 4000000 in
theorem codeReads_any (w : World) (ba : Option Addr) (bl bcap : Nat) (bs : List UInt8) (hby : ByAt w ba bs) (hbl : bl = bs.length) (hbc : bs.length ≤ bcap) (hbm : (bcap : Int) ≤ 9223372036854775807)
    (ta : Option Addr) (tcap : Nat) (xs : List Int) (size most : Int) (hsz : size ≤ 9223372036854775807) (hxs : IntsAt w ta xs) :
    Calls Try.prog 4 #[.slice ba bl bcap, .slice ta xs.length tcap, .int .i64 size, .int .i64 most] w (YesL w) := by
  have HW := Lib.hid wakes_any
  by_cases hg : 20000 < bl ∨ 60 < xs.length ∨ size < 1
  · have hcase : (decide ((20000 : Int) < (bl : Int)) = true) ∨ (decide ((20000 : Int) < (bl : Int)) = false ∧ decide ((60 : Int) < (xs.length : Int)) = true) ∨ (decide ((20000 : Int) < (bl : Int)) = false ∧ decide ((60 : Int) < (xs.length : Int)) = false ∧ decide (size < 1) = true) := by
      simp only [decide_eq_true_eq, decide_eq_false_iff_not]; omega
    clear hby hbl hbc hbm hxs hg
    rcases hcase with d0 | ⟨d0, d1⟩ | ⟨d0, d1, d2⟩
    all_goals (
      go_enter Try.func4, Try.ntmps4
      go_wp2_with (first
        | (go_at_call 8; refine (HW.out _).mono ?_; clear HW; rintro e w2 ⟨rfl, h2⟩; have H2 := Lib.hid h2; clear h2)
        | go_quiet (fail))
      go_ret
      exact ⟨rfl, H2.out⟩)
  · have d0 : decide ((20000 : Int) < (bl : Int)) = false := by simp only [decide_eq_false_iff_not]; omega
    have d1 : decide ((60 : Int) < (xs.length : Int)) = false := by simp only [decide_eq_false_iff_not]; omega
    have d2 : decide (size < 1) = false := by simp only [decide_eq_false_iff_not]; omega
    have hs1 : 1 ≤ size := by omega
    have hx60 : (xs.length : Int) ≤ 60 := by omega
    have hbs : bs.length ≤ 100000000 := by omega
    have HA := Lib.hid (And.intro hby (And.intro hbl (And.intro hbs (And.intro hbc (And.intro hbm (And.intro hxs (And.intro hs1 hsz)))))))
    have HN := Lib.hid (newRd_any w ba bcap bs hby hbs)
    rw [← hbl] at HN
    clear hby hbl hbc hbm hxs hg hs1 hbs
    go_enter Try.func4, Try.ntmps4
    go_wp2_with (first
      | (go_at_call 17; refine HN.out.mono ?_; rintro e w1 ⟨pb, dv, rfl, q1, q2, q3, q4⟩; have hby1 : ByAt w1 ba bs := HA.out.1.below q4; have hN2 := dNew w1 ba bcap bs hby1 HA.out.2.2.1 ⟨HA.out.2.2.2.1, HA.out.2.2.2.2.1⟩; rw [← HA.out.2.1] at hN2; have HN2 := Lib.hid (And.intro hN2 (And.intro q1 (And.intro q2 (And.intro q3 q4)))); clear hN2 hby1 q1 q2 q3 q4)
      | (go_at_call 18; refine HN2.out.1.mono ?_; rintro e w2 ⟨rfl, q1, q2⟩; have HR := Lib.hid (And.intro q1 q2); clear q1 q2)
      | go_quiet (fail))
    have HD : Hid (Duo w pb dv w1.heap.size ba bcap bs ⟨bs, 0, false⟩ ⟨bs, 0, false⟩ 0 w2) := by
      obtain ⟨_, q1, q2, q3, q4⟩ := HN2.out
      obtain ⟨r1, r2⟩ := HR.out
      have hlt := lt_of_heap q3.here
      have hs4 := q4.size
      exact Lib.hid ⟨q3.kept r2 id (fun _ _ => id), r1, q4.trans (r2.below hs4 (fun _ hk => hk.elim)), ⟨q1, by omega, by omega, fun g hg => ⟨q2 g hg, by have := owns_lt q3.owns g hg; omega⟩⟩, fun h0 ad ea => by subst ea; exact HA.out.1.lt h0, rfl⟩
    obtain ⟨n, hn⟩ : ∃ n, n = xs.length := ⟨_, rfl⟩
    rw [← hn] at hx60 d1 ⊢
    have HNX := Lib.hid hn
    clear hn
    go_loopw [49] (fun i wr => ∃ (k : Nat) (sk : Rd) (mk : Int), k ≤ n ∧ i = .int .i64 (k : Int) ∧ Hid (Duo w pb dv w1.heap.size ba bcap bs sk sk mk wr)) (fun i _ => n - (intOf i).toNat)
    case atStart => exact ⟨0, _, _, Nat.zero_le _, rfl, HD⟩
    case round =>
      obtain ⟨k, sk, mk, hk, rfl, HD⟩ := hrel
      by_cases hlt : k < n
      · have hkl : (k : Int) < (n : Int) := by omega
        obtain ⟨x0, hx0⟩ : ∃ x0, xs[k]? = some x0 := ⟨xs[k]'(by have := HNX.out; omega), List.getElem?_eq_getElem _⟩
        obtain ⟨tb, off, rfl, htb, htc⟩ := HA.out.2.2.2.2.2.1 (by have := HNX.out; omega)
        have hcell : wr.cell? ⟨tb, off + k, none⟩ = some (.int .i64 x0) := (World.cell?_of_block (HD.out.bel.block tb htb)).trans (htc k x0 hx0)
        clear htb htc hx0
        have hrl : w1.heap.size < wr.heap.size := by obtain ⟨_, hh, _⟩ := HD.out.d.here; exact lt_of_heap hh
        have HRL := Lib.hid hrl
        clear hrl
        by_cases hk0 : x0 = 0
        · subst hk0
          obtain ⟨at_, er, he⟩ := endV_tuple (aft sk (pNum sk.data sk.pos))
          have HE := Lib.hid he
          clear he
          go_wp2_with (first
            | (go_at_call 19; refine (NumberM_any _ _ _ _ HD.out.p).mono ?_; rintro e w5 ⟨v5, rfl, hm⟩; obtain ⟨hv, h1, t1⟩ := hm.val (x0 := (0 : Int)) rfl; obtain ⟨x, hx⟩ : ∃ x, x = vl sk (pNum sk.data sk.pos) (0 : Int) := ⟨_, rfl⟩; rw [← hx] at hv; subst hv; have HX := Lib.hid hx; have HD5 := Lib.hid (HD.out.prog h1 t1); clear h1 t1 hx hm)
            | (go_at_call 20; refine (bNum HD5.out.d).mono ?_; rintro e w6 hb; obtain ⟨hv, h1, t1⟩ := hb.val; rw [← HX.out] at hv; subst hv; have HD6 := Lib.hid (HD5.out.doc h1 (aft_data _ _) t1); clear h1 t1 hb)
            | (go_at_call 33; refine (End_any _ _ _ _ HD6.out.p).mono ?_; rintro e w7 ⟨v7, rfl, hv, h1, t1⟩; rw [HE.out] at hv; subst hv; have HD7 := Lib.hid (HD6.out.calm t1); clear h1 t1)
            | (go_at_call 34; refine (dEnd _ _ _ _ _ _ HD7.out.d).mono ?_; rintro e w8 ⟨hv, h1, t1⟩; rw [HE.out] at hv; subst hv; have HD8 := Lib.hid (HD7.out.doc h1 rfl t1); clear h1 t1)
            | go_quiet (fail))
          go_roundw
          case measure => first | omega | (go_num; omega) | (simp [intOf]; omega)
          case rel => exact ⟨k + 1, aft sk (pNum sk.data sk.pos), _, by omega, by go_num, HD8⟩
        by_cases hk1 : x0 = 1
        · subst hk1
          obtain ⟨at_, er, he⟩ := endV_tuple (aft sk (pSmall sk.data sk.pos))
          have HE := Lib.hid he
          clear he
          go_wp2_with (first
            | (go_at_call 21; refine (Small_any _ _ _ _ HD.out.p).mono ?_; rintro e w5 ⟨v5, rfl, hm⟩; obtain ⟨hv, h1, t1⟩ := hm.val (x0 := (0 : Int)) rfl; obtain ⟨x, hx⟩ : ∃ x, x = vl sk (pSmall sk.data sk.pos) (0 : Int) := ⟨_, rfl⟩; rw [← hx] at hv; subst hv; have HX := Lib.hid hx; have HD5 := Lib.hid (HD.out.prog h1 t1); clear h1 t1 hx hm)
            | (go_at_call 22; refine (bSmall HD5.out.d).mono ?_; rintro e w6 hb; obtain ⟨hv, h1, t1⟩ := hb.val; rw [← HX.out] at hv; subst hv; have HD6 := Lib.hid (HD5.out.doc h1 (aft_data _ _) t1); clear h1 t1 hb)
            | (go_at_call 33; refine (End_any _ _ _ _ HD6.out.p).mono ?_; rintro e w7 ⟨v7, rfl, hv, h1, t1⟩; rw [HE.out] at hv; subst hv; have HD7 := Lib.hid (HD6.out.calm t1); clear h1 t1)
            | (go_at_call 34; refine (dEnd _ _ _ _ _ _ HD7.out.d).mono ?_; rintro e w8 ⟨hv, h1, t1⟩; rw [HE.out] at hv; subst hv; have HD8 := Lib.hid (HD7.out.doc h1 rfl t1); clear h1 t1)
            | go_quiet (fail))
          go_roundw
          case measure => first | omega | (go_num; omega) | (simp [intOf]; omega)
          case rel => exact ⟨k + 1, aft sk (pSmall sk.data sk.pos), _, by omega, by go_num, HD8⟩
        by_cases hk2 : x0 = 2
        · subst hk2
          obtain ⟨at_, er, he⟩ := endV_tuple (aft sk (pText sk.data sk.pos))
          have HE := Lib.hid he
          clear he
          go_wp2_with (first
            | (go_at_call 23; refine (Text_any _ _ _ _ HD.out.p).mono ?_; rintro e w5 ⟨v5, rfl, hm⟩; obtain ⟨hv, h1, t1⟩ := hm.val (x0 := (⟨#[]⟩ : ByteArray)) rfl; obtain ⟨x, hx⟩ : ∃ x, x = vl sk (pText sk.data sk.pos) (⟨#[]⟩ : ByteArray) := ⟨_, rfl⟩; rw [← hx] at hv; subst hv; have HX := Lib.hid hx; have HD5 := Lib.hid (HD.out.prog h1 t1); clear h1 t1 hx hm)
            | (go_at_call 24; refine (bText HD5.out.d).mono ?_; rintro e w6 hb; obtain ⟨hv, h1, t1⟩ := hb.val; rw [← HX.out] at hv; subst hv; have HD6 := Lib.hid (HD5.out.doc h1 (aft_data _ _) t1); clear h1 t1 hb)
            | (go_at_call 33; refine (End_any _ _ _ _ HD6.out.p).mono ?_; rintro e w7 ⟨v7, rfl, hv, h1, t1⟩; rw [HE.out] at hv; subst hv; have HD7 := Lib.hid (HD6.out.calm t1); clear h1 t1)
            | (go_at_call 34; refine (dEnd _ _ _ _ _ _ HD7.out.d).mono ?_; rintro e w8 ⟨hv, h1, t1⟩; rw [HE.out] at hv; subst hv; have HD8 := Lib.hid (HD7.out.doc h1 rfl t1); clear h1 t1)
            | go_quiet (fail))
          go_roundw
          case measure => first | omega | (go_num; omega) | (simp [intOf]; omega)
          case rel => exact ⟨k + 1, aft sk (pText sk.data sk.pos), _, by omega, by go_num, HD8⟩
        by_cases hk3 : x0 = 3
        · subst hk3
          obtain ⟨at_, er, he⟩ := endV_tuple (aft sk (pTree sk.data sk.pos))
          have HE := Lib.hid he
          clear he
          go_wp2_with (first
            | (go_at_call 25; refine (Node_any _ _ _ _ HD.out.p).mono ?_; rintro e w5 ⟨v5, rfl, hm⟩; obtain ⟨hv, h1, t1⟩ := hm.val (x0 := zeroT) (zero_tr _ _); have hft := fits_vl (s := sk) HD.out.d.few; obtain ⟨t, hx⟩ : ∃ t, t = vl sk (pTree sk.data sk.pos) zeroT := ⟨_, rfl⟩; rw [← hx] at hv hft; obtain ⟨ka, kc, hve, hkc, hk⟩ := hv; obtain ⟨ln, hln⟩ : ∃ ln, ln = foLen t.kids := ⟨_, rfl⟩; rw [← hln] at hve; subst hve; have HX := Lib.hid (And.intro hx (And.intro hft (And.intro hln (And.intro hkc (And.intro hk t1.size))))); have HD5 := Lib.hid ((HD.out.prog h1 t1).alloc (.cells #[.int .i64 t.id, .int .i64 t.kind, .string t.text, .slice ka ln kc] 25)); clear h1 t1 hx hm hft hln hkc hk)
            | (go_at_call 26; refine (dTree _ _ _ _ _ _ HD5.out.d).mono ?_; rintro e w6 hb; obtain ⟨v6, m6, rfl, hv, h1, t1⟩ := hb.val; rw [← HX.out.1] at hv; obtain ⟨kb, kd, hve, hkc, hk⟩ := hv; rw [← HX.out.2.2.1] at hve; subst hve; have HD6 := Lib.hid ((HD5.out.doc h1 (aft_data _ _) t1).alloc (.cells #[.int .i64 t.id, .int .i64 t.kind, .string t.text, .slice kb ln kd] 25)); have HSN := Lib.hid (same_two (kc := kc) HRL.out HX.out.2.2.2.2.2 HX.out.2.1 HX.out.2.2.1 HX.out.2.2.2.1 HX.out.2.2.2.2.1 hkc hk t1); obtain ⟨y0, y1, y2, y3⟩ := box_cells0 HSN.out.1; clear h1 t1 hb hkc hk)
            | (go_at_call 27; refine HSN.out.2.mono ?_; rintro e w9 ⟨rfl, hbl9⟩; have HD9 := Lib.hid (HD6.out.calm (Below.touched hbl9 _)); clear hbl9)
            | (go_at_call 33; refine (End_any _ _ _ _ HD9.out.p).mono ?_; rintro e w7 ⟨v7, rfl, hv, h1, t1⟩; rw [HE.out] at hv; subst hv; have HD7 := Lib.hid (HD9.out.calm t1); clear h1 t1)
            | (go_at_call 34; refine (dEnd _ _ _ _ _ _ HD7.out.d).mono ?_; rintro e w8 ⟨hv, h1, t1⟩; rw [HE.out] at hv; subst hv; have HD8 := Lib.hid (HD7.out.doc h1 rfl t1); clear h1 t1)
            | go_quiet (fail))
          go_roundw
          case measure => first | omega | (go_num; omega) | (simp [intOf]; omega)
          case rel => exact ⟨k + 1, aft sk (pTree sk.data sk.pos), _, by omega, by go_num, HD8⟩
        by_cases hk4 : x0 = 4
        · subst hk4
          obtain ⟨at_, er, he⟩ := endV_tuple (aft sk (pSteps sk.data sk.pos))
          have HE := Lib.hid he
          clear he
          go_wp2_with (first
            | (go_at_call 28; refine (Steps_any _ _ _ _ HD.out.p).mono ?_; rintro e w5 ⟨v5, rfl, hm⟩; obtain ⟨hv, h1, t1⟩ := hm.val (x0 := []) ⟨none, 0, 0, rfl, rfl, Nat.le_refl _, fun h0 => by simp at h0⟩; have hft := fits_vls (s := sk) HD.out.d.few; obtain ⟨l, hx⟩ : ∃ l, l = vl sk (pSteps sk.data sk.pos) [] := ⟨_, rfl⟩; rw [← hx] at hv hft; obtain ⟨sa, sn, sc, rfl, hn, _, hk⟩ := hv; have HX := Lib.hid (And.intro hx (And.intro hft (And.intro hn (And.intro hk t1.size)))); have HD5 := Lib.hid (HD.out.prog h1 t1); clear h1 t1 hx hm hft hn hk)
            | (go_at_call 29; refine (dSteps _ _ _ _ _ _ HD5.out.d).mono ?_; rintro e w6 hb; obtain ⟨sb, sm, sd, m6, rfl, hn, hv, h1, t1⟩ := hb.val; rw [← HX.out.1] at hn hv; have HD6 := Lib.hid (HD5.out.doc h1 (aft_data _ _) t1); have HSN := Lib.hid (same_two_s (c := sc) (c2 := sd) HRL.out HX.out.2.2.2.2 HX.out.2.1.1 HX.out.2.1.2 HX.out.2.2.1 HX.out.2.2.2.1 hn hv t1); clear h1 t1 hb hn hv)
            | (go_at_call 30; refine HSN.out.mono ?_; rintro e w9 ⟨rfl, hbl9⟩; have HD9 := Lib.hid (HD6.out.calm (Below.touched hbl9 _)); clear hbl9)
            | (go_at_call 33; refine (End_any _ _ _ _ HD9.out.p).mono ?_; rintro e w7 ⟨v7, rfl, hv, h1, t1⟩; rw [HE.out] at hv; subst hv; have HD7 := Lib.hid (HD9.out.calm t1); clear h1 t1)
            | (go_at_call 34; refine (dEnd _ _ _ _ _ _ HD7.out.d).mono ?_; rintro e w8 ⟨hv, h1, t1⟩; rw [HE.out] at hv; subst hv; have HD8 := Lib.hid (HD7.out.doc h1 rfl t1); clear h1 t1)
            | go_quiet (fail))
          go_roundw
          case measure => first | omega | (go_num; omega) | (simp [intOf]; omega)
          case rel => exact ⟨k + 1, aft sk (pSteps sk.data sk.pos), _, by omega, by go_num, HD8⟩
        by_cases hk5 : x0 = 5
        · subst hk5
          obtain ⟨at_, er, he⟩ := endV_tuple (aft sk (pCount sk.data size most sk.pos))
          have HE := Lib.hid he
          clear he
          go_wp2_with (first
            | (go_at_call 31; refine (Count_any _ _ _ _ HD.out.p size most HA.out.2.2.2.2.2.2.1 HA.out.2.2.2.2.2.2.2).mono ?_; rintro e w5 ⟨v5, rfl, hm⟩; obtain ⟨hv, h1, t1⟩ := hm.val (x0 := (0 : Nat)) rfl; obtain ⟨x, hx⟩ : ∃ x, x = vl sk (pCount sk.data size most sk.pos) (0 : Nat) := ⟨_, rfl⟩; rw [← hx] at hv; subst hv; have HX := Lib.hid hx; have HD5 := Lib.hid (HD.out.prog h1 t1); clear h1 t1 hx hm)
            | (go_at_call 32; refine (bCount HD5.out.d size most HA.out.2.2.2.2.2.2.1 HA.out.2.2.2.2.2.2.2).mono ?_; rintro e w6 hb; obtain ⟨hv, h1, t1⟩ := hb.val; rw [← HX.out] at hv; subst hv; have HD6 := Lib.hid (HD5.out.doc h1 (aft_data _ _) t1); clear h1 t1 hb)
            | (go_at_call 33; refine (End_any _ _ _ _ HD6.out.p).mono ?_; rintro e w7 ⟨v7, rfl, hv, h1, t1⟩; rw [HE.out] at hv; subst hv; have HD7 := Lib.hid (HD6.out.calm t1); clear h1 t1)
            | (go_at_call 34; refine (dEnd _ _ _ _ _ _ HD7.out.d).mono ?_; rintro e w8 ⟨hv, h1, t1⟩; rw [HE.out] at hv; subst hv; have HD8 := Lib.hid (HD7.out.doc h1 rfl t1); clear h1 t1)
            | go_quiet (fail))
          go_roundw
          case measure => first | omega | (go_num; omega) | (simp [intOf]; omega)
          case rel => exact ⟨k + 1, aft sk (pCount sk.data size most sk.pos), _, by omega, by go_num, HD8⟩
        · skip
          obtain ⟨at_, er, he⟩ := endV_tuple (sk)
          have HE := Lib.hid he
          clear he
          go_wp2_with (first
            | (go_at_call 33; refine (End_any _ _ _ _ HD.out.p).mono ?_; rintro e w7 ⟨v7, rfl, hv, h1, t1⟩; rw [HE.out] at hv; subst hv; have HD7 := Lib.hid (HD.out.calm t1); clear h1 t1)
            | (go_at_call 34; refine (dEnd _ _ _ _ _ _ HD7.out.d).mono ?_; rintro e w8 ⟨hv, h1, t1⟩; rw [HE.out] at hv; subst hv; have HD8 := Lib.hid (HD7.out.doc h1 rfl t1); clear h1 t1)
            | go_quiet (fail))
          go_roundw
          case measure => first | omega | (go_num; omega) | (simp [intOf]; omega)
          case rel => exact ⟨k + 1, sk, _, by omega, by go_num, HD8⟩
      · have hkl : ¬ (k : Int) < (n : Int) := by omega
        go_wp2_with (go_at_call 8; refine (HW.out _).mono ?_; clear HW; rintro e w9 ⟨rfl, h2⟩; have H2 := Lib.hid h2; clear h2)
        go_ret
        exact ⟨rfl, HD.out.bel.trans (H2.out.mono HD.out.bel.size)⟩
end Go.Proofs.Ytljlijdgocfofaa
