/-
  What PlaceBack answers: true. No condition but that its argument lies in memory as it came in.
-/
import Derived.Test.YtjppibomjnmjpaaHApart
import Derived.Test.YtjppibomjnmjpaaHLawQ
import Derived.Test.YtjppibomjnmjpaaHPutA
import Derived.Test.YtjppibomjnmjpaaEOpen
namespace Go.Proofs.Ytjppibomjnmjpaa
open Go.RowKit Go.Shelf
set_option linter.unusedVariables false
set_option linter.unusedSimpArgs false

theorem at_size : ∀ (p : List Nat) (t u : Tr), atT t p = some u → foSize u.kids ≤ foSize t.kids
  | [], t, u, h => by cases h; exact Nat.le_refl _
  | i :: p, t, u, h => by
    simp only [atT] at h
    cases hk : kidF t.kids i with
    | none => rw [hk] at h; cases h
    | some v =>
      rw [hk] at h
      have h1 := at_size p v u h
      obtain ⟨b, o, k, l, r, hd, hkd, _⟩ := kidF_lt (kidF_some hk)
      rw [hkd] at hk; cases hk
      obtain ⟨_, _, _, _, _, e1, _, e3, _⟩ := foDrop_node i t.kids (by
        rcases Nat.lt_or_ge i (foLen t.kids) with h2 | h2
        · exact h2
        · rw [foDrop_nil i _ h2] at hd; cases hd)
      rw [hd] at e1; cases e1
      simp only at h1
      omega
theorem foFit_sz : ∀ f : Fo, foSize f ≤ 9223372036854775807 → foFit f
  | .nil, _ => True.intro
  | .node _ _ _ l r, h => by
    have h1 := foLen_le l
    simp only [foSize] at h
    exact ⟨by omega, foFit_sz l (by omega), foFit_sz r (by omega)⟩
/-- What the law's loop knows behind so many ids. -/
def inB (bs : Bool) (a b : Int) (up : List Int) (k : Nat) : Bool := bs && (decide (a = b) || decide (a ∈ up.take k))
theorem inB_step {bs : Bool} {a b x : Int} {up : List Int} {k : Nat} (hx : up[k]? = some x) : inB bs a b up (k + 1) = (inB bs a b up k || (bs && decide (x = a))) := by
  have hm : decide (a ∈ up.take (k + 1)) = (decide (a ∈ up.take k) || decide (x = a)) := by
    rw [List.take_add_one, hx, ← Bool.decide_or, decide_eq_decide]
    simp only [Option.toList_some, List.mem_append, List.mem_singleton]
    constructor
    · rintro (h | h); exact Or.inl h; exact Or.inr h.symm
    · rintro (h | h); exact Or.inl h; exact Or.inr h.symm
  rw [inB, inB, hm]
  cases bs <;> simp [Bool.or_assoc]
set_option maxRecDepth 100000 in
set_option maxHeartbeats 8000000 in
theorem placeBack_any (w : World) (S : Nat → Prop) (nv : Value) (t : Tr) (a b : Int) (hS : ∀ y, S y → y < w.heap.size) (ht : TrAt w S nv t) (hlen : foLen t.kids ≤ 9223372036854775807) (hfit : foFit t.kids) :
    Calls Try.prog 6 #[nv, .int .i64 a, .int .i64 b] w (YesB w) := by
  obtain ⟨ka, tc, rfl, hcap, hk⟩ := trAt_cells ht
  obtain ⟨nk, hnk⟩ : ∃ n, n = foLen t.kids := ⟨_, rfl⟩
  obtain ⟨B, hB⟩ : ∃ B, B = w.alloc (.cells #[.int .i64 t.id, .int .i64 t.kind, .string t.text, .slice ka nk tc] 24) := ⟨_, rfl⟩
  have hb : Below w.heap.size w B := by rw [hB]; exact box_below _ _
  have hbx : B.heap[w.heap.size]? = some (.cells #[.int .i64 t.id, .int .i64 t.kind, .string t.text, .slice ka nk tc] 24 (0, 0)) := by rw [hB]; exact heap_alloc_new w _
  have hcl : ∀ X, Below w.heap.size w X → ∀ y, (CellsB w y ∧ S y) → CellsB X y := fun X hX y hy => by
    obtain ⟨⟨cs, ty, fr, hc⟩, _⟩ := hy
    exact ⟨cs, ty, fr, (hX.block y (lt_of_heap hc)).trans hc⟩
  have htr : ∀ X, Below w.heap.size w X → TrAt X (fun z => CellsB w z ∧ S z) (.agg #[.int .i64 t.id, .int .i64 t.kind, .string t.text, .slice ka nk tc]) t := fun X hX => ⟨ka, tc, by rw [hnk], hcap, hk.below hX (fun y hy => hS y hy.2)⟩
  have hwk := walkM_any 201 (by omega) B (fun z => CellsB w z ∧ S z) _ t hlen hfit (fun y hy => (hcl B hb y hy).lt) (htr B hb)
  have hsl : ∀ y, (CellsB w y ∧ S y) → y < w.heap.size := fun y hy => hS y hy.2
  rw [← hnk]
  have HWK := Lib.hid hwk
  have HC := Lib.hid (And.intro hb (And.intro hB hbx))
  have HT := Lib.hid (And.intro hcl (And.intro htr hsl))
  have HF := Lib.hid (And.intro hlen hfit)
  clear hwk hb hB hbx hcl htr hlen hfit hnk hk hcap hS ht hsl
  go_enter Try.func6, Try.ntmps6
  go_wp2_with fail
  rw [← HC.out.2.1]
  refine HWK.out.mono ?_
  rintro e w2 ⟨la, lc, rfl, hsp, hb2⟩
  obtain ⟨n, hn⟩ : ∃ n, n = ((spF 1 (rootF t)).take 201).length := ⟨_, rfl⟩
  rw [← hn] at hsp ⊢
  have HB := Lib.hid (HC.out.1.trans (hb2.mono HC.out.1.size))
  have HBX := Lib.hid ((hb2.block _ (lt_of_heap HC.out.2.2)).trans HC.out.2.2)
  have HO := Lib.hid (And.intro hsp hn)
  have hn2 : n ≤ 201 := by rw [hn, List.length_take]; omega
  clear hb2 hsp hn HWK
  by_cases hbig : 200 < n
  · have hbi : (200 : Int) < (n : Int) := by omega
    clear HT HF HO
    go_wp2_with fail
    refine (wakes_any w2).mono ?_
    rintro e w4 ⟨rfl, hb4⟩
    have HB4 := Lib.hid (HB.out.trans (hb4.mono HB.out.size))
    clear hb4
    go_wp2_with fail
    go_ret
    exact ⟨rfl, HB4.out⟩
  · have hbi : ¬ (200 : Int) < (n : Int) := by omega
    have hap := apart_any w2 (fun z => CellsB w z ∧ S z) _ la n lc _ HO.out.1 (by omega)
    have HAP := Lib.hid hap
    clear hap
    go_wp2_with fail
    refine HAP.out.mono ?_
    rintro e w3 ⟨ap, rfl, hnd, hb3⟩
    have HB3 := Lib.hid (HB.out.trans (hb3.mono HB.out.size))
    have HBX3 := Lib.hid ((hb3.block _ (lt_of_heap HBX.out)).trans HBX.out)
    have HL3 := Lib.hid hb3
    have HND := Lib.hid hnd
    clear hnd hb3 HAP
    cases ap
    · clear HT HF HO
      go_wp2_with fail
      refine (wakes_any w3).mono ?_
      rintro e w4 ⟨rfl, hb4⟩
      have HB4 := Lib.hid (HB3.out.trans (hb4.mono HB3.out.size))
      clear hb4
      go_wp2_with fail
      go_ret
      exact ⟨rfl, HB4.out⟩
    · have hall : (spF 1 (rootF t)).take 201 = spF 1 (rootF t) := by
        have h1 := HO.out.2
        rw [List.length_take] at h1
        exact List.take_of_length_le (by omega)
      have hd : DistT t := by
        have h1 := HND.out rfl
        rw [hall] at h1
        exact h1
      have hsz : foSize t.kids + 1 = n := by
        have h1 := HO.out.2
        rw [hall, spF_length, rootF_size] at h1
        omega
      have HD := Lib.hid (And.intro hd (show foSize t.kids ≤ 400000 by omega))
      have hsp := HO.out.1
      rw [hall] at hsp
      have HSP := Lib.hid hsp
      have HSZ := Lib.hid hsz
      have HSZN := Lib.hid (show (spF 1 (rootF t)).length = n by rw [spF_length, rootF_size]; exact hsz)
      clear hall hd hsz hsp hbig HND HO
      obtain ⟨c0, c1, c2, c3⟩ := box4 HBX3.out
      have HLT : Hid (∀ y, (CellsB w y ∧ S y) → y < w3.heap.size) := Lib.hid fun y hy => Nat.lt_of_lt_of_le (HT.out.2.2 y hy) HB3.out.size
      have HBOX : Hid (∀ X, Below w3.heap.size w3 X → X.cell? ⟨w.heap.size, 0, none⟩ = some (.int .i64 t.id) ∧ X.cell? ⟨w.heap.size, 1, none⟩ = some (.int .i64 t.kind) ∧ X.cell? ⟨w.heap.size, 2, none⟩ = some (.string t.text) ∧ X.cell? ⟨w.heap.size, 3, none⟩ = some (.slice ka nk tc)) := Lib.hid fun X hX => box4 ((hX.block _ (lt_of_heap HBX3.out)).trans HBX3.out)
      have HTX : Hid (∀ X, Below w3.heap.size w3 X → (∀ y, (CellsB w y ∧ S y) → CellsB X y) ∧ TrAt X (fun z => CellsB w z ∧ S z) (.agg #[.int .i64 t.id, .int .i64 t.kind, .string t.text, .slice ka nk tc]) t) := Lib.hid fun X hX => ⟨HT.out.1 X (HB3.out.trans (hX.mono HB3.out.size)), HT.out.2.1 X (HB3.out.trans (hX.mono HB3.out.size))⟩
      have HWI : Hid (∀ (X : World) (x y : Int), Below w3.heap.size w3 X → Calls Try.prog 16 #[.agg #[.int .i64 t.id, .int .i64 t.kind, .string t.text, .slice ka nk tc], .int .i64 x, .int .i64 y] X fun e w' => e = .returned (.bool (withinT x y t)) ∧ Below X.heap.size X w') := Lib.hid fun X x y hX =>
        within_any X _ _ t x y (fun y hy => ((HTX.out X hX).1 y hy).lt) (HTX.out X hX).2 HD.out.2
      have HFD : Hid (∀ (X : World) (x : Int), Below w3.heap.size w3 X → Calls Try.prog 29 #[.agg #[.int .i64 t.id, .int .i64 t.kind, .string t.text, .slice ka nk tc], .int .i64 x] X (RFindC X (fun z => CellsB w z ∧ S z) t x)) := Lib.hid fun X x hX =>
        rfind_any X _ _ t x (by have := HSZ.out; omega) (fun y hy => ((HTX.out X hX).1 y hy).lt) (HTX.out X hX).2
      have HAB : Hid (∀ (X : World), Below w3.heap.size w3 X → Calls Try.prog 14 #[.agg #[.int .i64 t.id, .int .i64 t.kind, .string t.text, .slice ka nk tc], .int .i64 b] X (IntsC X (aboveT b t))) := Lib.hid fun X hX =>
        gather_any X _ _ t b (fun y hy => ((HTX.out X hX).1 y hy).lt) (HTX.out X hX).2 HD.out.2
      have HPUT : Hid (∀ (X : World) (xv : Value) (u : Tr), Below w3.heap.size w3 X → foSize u.kids ≤ foSize t.kids → TrAt X (fun z => CellsB w z ∧ S z) xv u → Calls Try.prog 25 #[.agg #[.int .i64 t.id, .int .i64 t.kind, .string t.text, .slice ka nk tc], .int .i64 a, xv] X (PutC X (putR a t u))) := Lib.hid fun X xv u hX hu hv =>
        put_any X _ _ _ xv t u a (HTX.out X hX).1 (HTX.out X hX).1 (HTX.out X hX).2 hv (by have := HSZ.out; omega)
      have hpath := path_any w3 (fun z => CellsB w z ∧ S z) _ t a (fun y hy => ((HTX.out w3 (Below.refl _ _)).1 y hy).lt) (HTX.out w3 (Below.refl _ _)).2 HD.out.2
      have hfs := find_some a t
      have hfp := find_path a t
      cases hpt : pathT a t with
      | none =>
        rw [hpt] at hpath hfs hfp
        have hfn : findS a (spF 1 (rootF t)) = none := by
          cases h : findS a (spF 1 (rootF t)) with
          | none => rfl
          | some z => rw [h] at hfs; cases hfs
        have HPATH := Lib.hid hpath
        have HFN := Lib.hid hfn
        have HPT := Lib.hid hpt
        clear hpath hfs hfp hfn hpt HAB
        go_wp2_with fail
        refine (HPATH.out).mono ?_
        rintro e w4 ⟨pv, rfl, hown, hb4⟩
        have HB4 := Lib.hid hb4
        clear hb4 hown HPATH c0 c1 c2 c3
        obtain ⟨c0, c1, c2, c3⟩ := HBOX.out w4 HB4.out
        simp only [Option.isSome_none]
        go_wp2_with fail
        refine (HFD.out w4 a HB4.out).mono ?_
        rintro e w5 ⟨v, rfl, hv, hb5⟩
        rw [HFN.out] at hv ⊢
        obtain ⟨u, hu⟩ : ∃ u, u = ((Option.map trOfS (none : Option Sp)).getD zeroT) := ⟨_, rfl⟩
        rw [← hu] at hv
        obtain ⟨xa, xc, rfl, hxc, hxk⟩ := hv
        obtain ⟨um, hum⟩ : ∃ um, um = foLen u.kids := ⟨_, rfl⟩
        rw [← hum] at hxc ⊢
        obtain ⟨X5, hX5⟩ : ∃ X5, X5 = w5.alloc (.cells #[.int .i64 u.id, .int .i64 u.kind, .string u.text, .slice xa um xc] 24) := ⟨_, rfl⟩
        have hbx5 : Below w5.heap.size w5 X5 := by rw [hX5]; exact box_below _ _
        have hx5 : X5.heap[w5.heap.size]? = some (.cells #[.int .i64 u.id, .int .i64 u.kind, .string u.text, .slice xa um xc] 24 (0, 0)) := by rw [hX5]; exact heap_alloc_new w5 _
        have hB5 : Below w4.heap.size w4 X5 := hb5.trans (hbx5.mono hb5.size)
        have HB5 := Lib.hid (HB4.out.trans (hB5.mono HB4.out.size))
        have HL5 := Lib.hid hB5
        have HS5 := Lib.hid (show w3.heap.size ≤ w5.heap.size from Nat.le_trans HB4.out.size hb5.size)
        have HX5 := Lib.hid (And.intro hx5 (And.intro hbx5 hX5))
        clear hb5 hbx5 hx5 hB5 hX5 c0 c1 c2 c3
        obtain ⟨c0, c1, c2, c3⟩ := HBOX.out X5 HB5.out
        have hxk5 := hxk.kept (w' := X5) (S' := (fun z => CellsB w z ∧ S z)) (fun y hy => ⟨hy, HX5.out.2.1.block y (Nat.lt_of_lt_of_le (HLT.out y hy) HS5.out)⟩)
        have hpu := HPUT.out X5 _ u HB5.out (by rw [hu]; exact Nat.zero_le _) ⟨xa, xc, rfl, by rw [← hum]; exact hxc, hxk5⟩
        rw [← hum, putR, HPT.out] at hpu
        have HPU := Lib.hid hpu
        obtain ⟨x0, x1, x2, x3⟩ := box4 HX5.out.1
        rw [HX5.out.2.2] at c0 c1 c2 c3 x0 x1 x2 x3
        clear hu hum hxc hxk hxk5 hpu HPUT
        simp only [Option.isSome_none]
        go_wp2_with fail
        rw [← HX5.out.2.2]
        refine (HPU.out).mono ?_
        rintro e w6 ⟨v2, rfl, ⟨za, zc, rfl, hzc, hzk⟩, hb6⟩
        simp only
        obtain ⟨u2, hu2⟩ : ∃ u2, u2 = zeroT := ⟨_, rfl⟩
        rw [← hu2] at hzc hzk ⊢
        obtain ⟨zm, hzm⟩ : ∃ zm, zm = foLen u2.kids := ⟨_, rfl⟩
        rw [← hzm]
        obtain ⟨X6, hX6⟩ : ∃ X6, X6 = w6.alloc (.cells #[.int .i64 u2.id, .int .i64 u2.kind, .string u2.text, .slice za zm zc] 24) := ⟨_, rfl⟩
        have hbx6 : Below w6.heap.size w6 X6 := by rw [hX6]; exact box_below _ _
        have hx6 : X6.heap[w6.heap.size]? = some (.cells #[.int .i64 u2.id, .int .i64 u2.kind, .string u2.text, .slice za zm zc] 24 (0, 0)) := by rw [hX6]; exact heap_alloc_new w6 _
        have hB6 : Below X5.heap.size X5 X6 := hb6.trans (hbx6.mono hb6.size)
        have HB6 := Lib.hid (HB5.out.trans (hB6.mono HB5.out.size))
        have HL6 := Lib.hid hB6
        have HS6 := Lib.hid (show w3.heap.size ≤ w6.heap.size from Nat.le_trans HB5.out.size hb6.size)
        have HX6 := Lib.hid (And.intro hx6 (And.intro hbx6 hX6))
        clear hb6 hbx6 hx6 hB6 hX6 c0 c1 c2 c3
        obtain ⟨c0, c1, c2, c3⟩ := HBOX.out X6 HB6.out
        rw [HX6.out.2.2] at c0 c1 c2 c3
        clear hu2 hzc hzk hzm HPU x0 x1 x2 x3
        go_wp2_with fail
        rw [← HX6.out.2.2]
        rw [← HX6.out.2.2] at c0 c1 c2 c3
        refine (HWI.out X6 a b HB6.out).mono ?_
        rintro e w7 ⟨rfl, hb7⟩
        have HB7 := Lib.hid (HB6.out.trans (hb7.mono HB6.out.size))
        clear hb7 c0 c1 c2 c3
        obtain ⟨c0, c1, c2, c3⟩ := HBOX.out w7 HB7.out
        rw [within_none (Or.inl HPT.out)]
        go_wp2_with fail
        refine (HWI.out w7 b a HB7.out).mono ?_
        rintro e w8 ⟨rfl, hb8⟩
        have HB8 := Lib.hid (HB7.out.trans (hb8.mono HB7.out.size))
        clear hb8 c0 c1 c2 c3
        obtain ⟨c0, c1, c2, c3⟩ := HBOX.out w8 HB8.out
        rw [within_none (Or.inr HPT.out)]
        go_wp2_with fail
        refine (wakes_any w8).mono ?_
        rintro e w9 ⟨rfl, hb9⟩
        have HBW9 := Lib.hid (HB3.out.trans ((HB8.out.trans (hb9.mono HB8.out.size)).mono HB3.out.size))
        clear hb9
        go_wp2_with fail
        go_ret
        exact ⟨rfl, HBW9.out⟩
      | some p =>
        rw [hpt] at hpath hfs hfp
        obtain ⟨u, hu, hua⟩ := path_ids a t p hpt
        have hfu : ((findS a (spF 1 (rootF t))).map trOfS).getD zeroT = u := by rw [hfp]; simp [hu]
        have hus := at_size p t u hu
        have hpl := path_le a t p hpt
        have hup : ∀ X, Below w3.heap.size w3 X → ∀ (pa : Option Addr) (pc : Nat), X.ownsRow w3.heap.size 3 1 (.slice pa (natI p).length pc) (natI p).length ((natI p).map intV) → Calls Try.prog 20 #[.agg #[.int .i64 t.id, .int .i64 t.kind, .string t.text, .slice ka nk tc], .slice pa (natI p).length pc] X (AtC X (fun z => CellsB w z ∧ S z) (some u)) := fun X hX pa pc ho => by
          have h := at_any X (fun z => CellsB w z ∧ S z) _ t pa (natI p).length pc (natI p) (HTX.out X hX).1 (HTX.out X hX).2 HD.out.2 _ (fun y hy => hy.2) (intsL_own (l := natI p) ho).1 rfl (by rw [natI_length]; have := HD.out.2; omega)
          rw [atI_nat, hu] at h
          exact h
        obtain ⟨pn, hpn⟩ : ∃ pn, pn = (natI p).length := ⟨_, rfl⟩
        have hup2 : ∀ X, Below w3.heap.size w3 X → ∀ (pa : Option Addr) (pc : Nat), X.ownsRow w3.heap.size 3 1 (.slice pa pn pc) pn ((natI p).map intV) → Calls Try.prog 20 #[.agg #[.int .i64 t.id, .int .i64 t.kind, .string t.text, .slice ka nk tc], .slice pa pn pc] X (AtC X (fun z => CellsB w z ∧ S z) (some u)) := by rw [hpn]; exact hup
        have hpath2 : Calls Try.prog 18 #[.agg #[.int .i64 t.id, .int .i64 t.kind, .string t.text, .slice ka nk tc], .int .i64 a] w3 fun e w' => ∃ v, e = .returned (.tuple #[v, .bool true]) ∧ w'.ownsRow w3.heap.size 3 1 v pn ((natI p).map intV) ∧ Below w3.heap.size w3 w' := by rw [hpn]; exact hpath
        have hfs2 : (findS a (spF 1 (rootF t))).isSome = true := hfs
        have HPATH := Lib.hid hpath2
        have HAT := Lib.hid hup2
        have HPT := Lib.hid hpt
        have HU := Lib.hid (And.intro hu (And.intro hua (And.intro hfu (And.intro hus hfs2))))
        have HFU := Lib.hid (show foLen u.kids ≤ 9223372036854775807 ∧ foFit u.kids from ⟨by have := foLen_le u.kids; have := HD.out.2; omega, foFit_sz _ (by have := HD.out.2; omega)⟩)
        obtain ⟨bs, hbs⟩ : ∃ bs, bs = (findS b (spF 1 (rootF t))).isSome := ⟨_, rfl⟩
        have HBS := Lib.hid hbs
        have HWB : Hid (withinT a b t = inB bs a b (aboveT b t) (aboveT b t).length) := Lib.hid (by
          rw [within_above HD.out.1 hpt, inB, List.take_length, hbs, find_some b t])
        have HUPB : Hid (bs = false → aboveT b t = []) := Lib.hid fun h => by
          rw [hbs, find_some b t] at h
          rw [aboveT]
          cases hb : pathT b t with
          | none => rfl
          | some z => rw [hb] at h; cases h
        clear hpath hfs hfp hpt hu hua hfu hus hpl hup hpn hup2 hpath2 hfs2 hbs
        go_wp2_with fail
        refine (HPATH.out).mono ?_
        rintro e w4 ⟨pv, rfl, hown, hb4⟩
        obtain ⟨pa, pc, rfl⟩ := owns_slice hown
        have HB4 := Lib.hid hb4
        have HOW := Lib.hid hown
        clear hb4 hown HPATH c0 c1 c2 c3
        obtain ⟨c0, c1, c2, c3⟩ := HBOX.out w4 HB4.out
        go_wp2_with fail
        refine (HFD.out w4 a HB4.out).mono ?_
        rintro e w5 ⟨v, rfl, hv, hb5⟩
        rw [HU.out.2.2.1] at hv
        rw [HU.out.2.2.2.2]
        obtain ⟨xa, xc, rfl, hxc, hxk⟩ := hv
        obtain ⟨um, hum⟩ : ∃ um, um = foLen u.kids := ⟨_, rfl⟩
        rw [← hum] at hxc ⊢
        obtain ⟨X5, hX5⟩ : ∃ X5, X5 = w5.alloc (.cells #[.int .i64 u.id, .int .i64 u.kind, .string u.text, .slice xa um xc] 24) := ⟨_, rfl⟩
        have hbx5 : Below w5.heap.size w5 X5 := by rw [hX5]; exact box_below _ _
        have hx5 : X5.heap[w5.heap.size]? = some (.cells #[.int .i64 u.id, .int .i64 u.kind, .string u.text, .slice xa um xc] 24 (0, 0)) := by rw [hX5]; exact heap_alloc_new w5 _
        have hB5 : Below w4.heap.size w4 X5 := hb5.trans (hbx5.mono hb5.size)
        have HB5 := Lib.hid (HB4.out.trans (hB5.mono HB4.out.size))
        have HL5 := Lib.hid hB5
        have HS5 := Lib.hid (show w3.heap.size ≤ w5.heap.size from Nat.le_trans HB4.out.size hb5.size)
        have HX5 := Lib.hid (And.intro hx5 (And.intro hbx5 hX5))
        clear hb5 hbx5 hx5 hB5 hX5 c0 c1 c2 c3
        obtain ⟨c0, c1, c2, c3⟩ := HBOX.out X5 HB5.out
        have hxk5 := hxk.kept (w' := X5) (S' := (fun z => CellsB w z ∧ S z)) (fun y hy => ⟨hy, HX5.out.2.1.block y (Nat.lt_of_lt_of_le (HLT.out y hy) HS5.out)⟩)
        have HXT := Lib.hid (And.intro hum (And.intro hxc hxk5))
        have hat := HAT.out X5 HB5.out pa pc (owns_kept HOW.out (fun g cur hc _ => HL5.out.block g (lt_of_some hc)))
        have HATC := Lib.hid hat
        rw [HX5.out.2.2] at c0 c1 c2 c3
        clear hum hxc hxk hxk5 hat HAT
        go_wp2_with fail
        rw [← HX5.out.2.2]
        refine (HATC.out).mono ?_
        rintro e w6 ⟨v2, rfl, ⟨ya, yc, rfl, hyc, hyk⟩, hb6⟩
        simp only [Option.getD_some, Option.isSome_some] at hyc hyk ⊢
        rw [← HXT.out.1] at hyc ⊢
        obtain ⟨X6, hX6⟩ : ∃ X6, X6 = w6.alloc (.cells #[.int .i64 u.id, .int .i64 u.kind, .string u.text, .slice ya um yc] 24) := ⟨_, rfl⟩
        have hbx6 : Below w6.heap.size w6 X6 := by rw [hX6]; exact box_below _ _
        have hx6 : X6.heap[w6.heap.size]? = some (.cells #[.int .i64 u.id, .int .i64 u.kind, .string u.text, .slice ya um yc] 24 (0, 0)) := by rw [hX6]; exact heap_alloc_new w6 _
        have hB6 : Below X5.heap.size X5 X6 := hb6.trans (hbx6.mono hb6.size)
        have HB6 := Lib.hid (HB5.out.trans (hB6.mono HB5.out.size))
        have HL6 := Lib.hid hB6
        have HS6 := Lib.hid (show w3.heap.size ≤ w6.heap.size from Nat.le_trans HB5.out.size hb6.size)
        have HX6 := Lib.hid (And.intro hx6 (And.intro hbx6 hX6))
        clear hb6 hbx6 hx6 hB6 hX6 c0 c1 c2 c3
        obtain ⟨c0, c1, c2, c3⟩ := HBOX.out X6 HB6.out
        have hyk6 := hyk.kept (w' := X6) (S' := fun y => y < w6.heap.size) (fun y hy => ⟨hy.1.lt, HX6.out.2.1.block y hy.1.lt⟩)
        have HYT := Lib.hid (And.intro hyc hyk6)
        have HX56 := Lib.hid ((HL6.out.block _ (lt_of_heap HX5.out.1)).trans HX5.out.1)
        have hxk6 := HXT.out.2.2.kept (w' := X6) (S' := (fun z => CellsB w z ∧ S z)) (fun y hy => ⟨hy, HL6.out.block y (Nat.lt_of_lt_of_le (HLT.out y hy) HB5.out.size)⟩)
        have hpu := HPUT.out X6 _ u HB6.out HU.out.2.2.2.1 ⟨xa, xc, rfl, by rw [← HXT.out.1]; exact HXT.out.2.1, hxk6⟩
        rw [← HXT.out.1, putR, HPT.out] at hpu
        have HPU := Lib.hid hpu
        obtain ⟨x0, x1, x2, x3⟩ := box4 HX56.out
        rw [HX6.out.2.2] at c0 c1 c2 c3 x0 x1 x2 x3
        clear hyc hyk hyk6 hpu HPUT hxk6 HATC
        go_wp2_with fail
        rw [← HX6.out.2.2]
        refine (HPU.out).mono ?_
        rintro e w7 ⟨v3, rfl, ⟨za, zc, rfl, hzc, hzk⟩, hb7⟩
        simp only at hzc hzk ⊢
        obtain ⟨z, hz⟩ : ∃ z, z = putP t p u := ⟨_, rfl⟩
        rw [← hz] at hzc hzk ⊢
        obtain ⟨zm, hzm⟩ : ∃ zm, zm = foLen z.kids := ⟨_, rfl⟩
        rw [← hzm] at hzc ⊢
        obtain ⟨X7, hX7⟩ : ∃ X7, X7 = w7.alloc (.cells #[.int .i64 z.id, .int .i64 z.kind, .string z.text, .slice za zm zc] 24) := ⟨_, rfl⟩
        have hbx7 : Below w7.heap.size w7 X7 := by rw [hX7]; exact box_below _ _
        have hx7 : X7.heap[w7.heap.size]? = some (.cells #[.int .i64 z.id, .int .i64 z.kind, .string z.text, .slice za zm zc] 24 (0, 0)) := by rw [hX7]; exact heap_alloc_new w7 _
        have hB7 : Below X6.heap.size X6 X7 := hb7.trans (hbx7.mono hb7.size)
        have HB7 := Lib.hid (HB6.out.trans (hB7.mono HB6.out.size))
        have HL7 := Lib.hid hB7
        have HS7 := Lib.hid (show w3.heap.size ≤ w7.heap.size from Nat.le_trans HB6.out.size hb7.size)
        have HX7 := Lib.hid (And.intro hx7 (And.intro hbx7 hX7))
        clear hb7 hbx7 hx7 hB7 hX7 c0 c1 c2 c3
        obtain ⟨c0, c1, c2, c3⟩ := HBOX.out X7 HB7.out
        have hzk7 := hzk.kept (w' := X7) (S' := fun y => y < w7.heap.size) (fun y hy => ⟨hy, HX7.out.2.1.block y hy⟩)
        have HX57 := Lib.hid ((HL7.out.block _ (lt_of_heap HX56.out)).trans HX56.out)
        have HX67 := Lib.hid ((HL7.out.block _ (lt_of_heap HX6.out.1)).trans HX6.out.1)
        have hxk7 := HXT.out.2.2.kept (w' := X7) (S' := fun y => y < w3.heap.size) (fun y hy => ⟨HLT.out y hy, (HL7.out.block y (Nat.lt_of_lt_of_le (HLT.out y hy) HB6.out.size)).trans (HL6.out.block y (Nat.lt_of_lt_of_le (HLT.out y hy) HB5.out.size))⟩)
        have hyk7 := HYT.out.2.kept (w' := X7) (S' := fun y => y < w6.heap.size) (fun y hy => ⟨hy, HL7.out.block y (Nat.lt_of_lt_of_le hy HX6.out.2.1.size)⟩)
        have hs1 := same_self X7 (fun y => y < w3.heap.size) (fun y => y < w6.heap.size) (.agg #[.int .i64 u.id, .int .i64 u.kind, .string u.text, .slice xa (foLen u.kids) xc]) (.agg #[.int .i64 u.id, .int .i64 u.kind, .string u.text, .slice ya (foLen u.kids) yc]) u (fun y hy => Nat.lt_of_lt_of_le hy HB7.out.size) (fun y hy => Nat.lt_of_lt_of_le hy (Nat.le_trans HX6.out.2.1.size HL7.out.size)) HFU.out ⟨xa, xc, rfl, by rw [← HXT.out.1]; exact HXT.out.2.1, hxk7⟩ ⟨ya, yc, rfl, by rw [← HXT.out.1]; exact HYT.out.1, hyk7⟩
        rw [← HXT.out.1] at hs1
        have HS1 := Lib.hid hs1
        have hzfit : foLen z.kids ≤ 9223372036854775807 ∧ foFit z.kids := by
          have h1 := putP_size p t u
          rw [← hz] at h1
          have h2 := foLen_le z.kids
          have h3 := HD.out.2
          have h4 := HU.out.2.2.2.1
          exact ⟨by omega, foFit_sz _ (by omega)⟩
        have HS2 : Hid (∀ V, Below X7.heap.size X7 V → Calls Try.prog 24 #[.agg #[.int .i64 z.id, .int .i64 z.kind, .string z.text, .slice za zm zc], .agg #[.int .i64 t.id, .int .i64 t.kind, .string t.text, .slice ka nk tc]] V fun e w' => e = .returned (.bool true) ∧ Below V.heap.size V w') := Lib.hid fun V hV => by
          have hV3 := HB7.out.trans (hV.mono HB7.out.size)
          have h := same_any (foSize z.kids + 1) V (fun y => y < w7.heap.size) (fun z => CellsB w z ∧ S z) (.agg #[.int .i64 z.id, .int .i64 z.kind, .string z.text, .slice za (foLen z.kids) zc]) (.agg #[.int .i64 t.id, .int .i64 t.kind, .string t.text, .slice ka nk tc]) z t (Nat.lt_succ_self _) hzfit (fun y hy => Nat.lt_of_lt_of_le hy (Nat.le_trans HX7.out.2.1.size hV.size)) (fun y hy => ((HTX.out V hV3).1 y hy).lt) ⟨za, zc, rfl, by rw [← hzm]; exact hzc, hzk7.kept (w' := V) (S' := fun y => y < w7.heap.size) (fun y hy => ⟨hy, hV.block y (Nat.lt_of_lt_of_le hy HX7.out.2.1.size)⟩)⟩ (HTX.out V hV3).2
          rw [← hzm] at h
          refine h.mono ?_
          rintro e w' ⟨rfl, hb⟩
          rw [hz, putP_same p t u u HU.out.1 (sameT_refl u)]
          exact ⟨rfl, hb⟩
        obtain ⟨x0, x1, x2, x3⟩ := box4 HX57.out
        obtain ⟨y0, y1, y2, y3⟩ := box4 HX67.out
        rw [HX7.out.2.2] at c0 c1 c2 c3 x0 x1 x2 x3 y0 y1 y2 y3
        clear hz hzm hzc hzk hzk7 hxk7 hyk7 hs1 hzfit HPU
        go_wp2_with fail
        rw [← HX7.out.2.2]
        refine (HS1.out).mono ?_
        rintro e w8 ⟨rfl, hb8⟩
        have HB8 := Lib.hid (HB7.out.trans (hb8.mono HB7.out.size))
        have HL8 := Lib.hid hb8
        clear hb8 c0 c1 c2 c3 x0 x1 x2 x3 y0 y1 y2 y3 HS1
        obtain ⟨c0, c1, c2, c3⟩ := HBOX.out w8 HB8.out
        obtain ⟨z0, z1, z2, z3⟩ := box4 ((HL8.out.block _ (lt_of_heap HX7.out.1)).trans HX7.out.1)
        go_wp2_with fail
        refine (HS2.out w8 HL8.out).mono ?_
        rintro e w9 ⟨rfl, hb9⟩
        have HB9 := Lib.hid (HB8.out.trans (hb9.mono HB8.out.size))
        clear hb9 c0 c1 c2 c3 z0 z1 z2 z3 HS2
        obtain ⟨c0, c1, c2, c3⟩ := HBOX.out w9 HB9.out
        go_wp2_with fail
        refine (HFD.out w9 b HB9.out).mono ?_
        rintro e w10 ⟨v4, rfl, hv4, hb10⟩
        rw [← HBS.out]
        obtain ⟨u2, hu2⟩ : ∃ u2, u2 = (((findS b (spF 1 (rootF t))).map trOfS).getD zeroT) := ⟨_, rfl⟩
        rw [← hu2] at hv4
        obtain ⟨va, vc, rfl, _, _⟩ := hv4
        obtain ⟨vm, hvm⟩ : ∃ vm, vm = foLen u2.kids := ⟨_, rfl⟩
        rw [← hvm]
        obtain ⟨X10, hX10⟩ : ∃ X10, X10 = w10.alloc (.cells #[.int .i64 u2.id, .int .i64 u2.kind, .string u2.text, .slice va vm vc] 24) := ⟨_, rfl⟩
        have hbx10 : Below w10.heap.size w10 X10 := by rw [hX10]; exact box_below _ _
        have hx10 : X10.heap[w10.heap.size]? = some (.cells #[.int .i64 u2.id, .int .i64 u2.kind, .string u2.text, .slice va vm vc] 24 (0, 0)) := by rw [hX10]; exact heap_alloc_new w10 _
        have hB10 : Below w9.heap.size w9 X10 := hb10.trans (hbx10.mono hb10.size)
        have HB10 := Lib.hid (HB9.out.trans (hB10.mono HB9.out.size))
        have HL10 := Lib.hid hB10
        have HS10 := Lib.hid (show w3.heap.size ≤ w10.heap.size from Nat.le_trans HB9.out.size hb10.size)
        have HX10 := Lib.hid (And.intro hx10 (And.intro hbx10 hX10))
        clear hb10 hbx10 hx10 hB10 hX10 c0 c1 c2 c3
        obtain ⟨c0, c1, c2, c3⟩ := HBOX.out X10 HB10.out
        rw [HX10.out.2.2] at c0 c1 c2 c3
        clear hu2 hvm
        obtain ⟨up, hup⟩ : ∃ up, up = aboveT b t := ⟨_, rfl⟩
        have hab := HAB.out X10 HB10.out
        rw [← hup] at hab
        have HABC := Lib.hid hab
        have HWB2 : Hid (withinT a b t = inB bs a b up up.length) := Lib.hid (by rw [hup]; exact HWB.out)
        have HUP2 : Hid (bs = false → up = []) := Lib.hid (by rw [hup]; exact HUPB.out)
        have hin0 : (bs && decide (a = b)) = inB bs a b up 0 := by simp [inB]
        have HIN0 := Lib.hid hin0
        have HUPL : Hid (up.length ≤ 1000000) := Lib.hid (by rw [hup]; have h1 := aboveT_le b t; have h2 := HD.out.2; omega)
        clear hup hab HWB HUPB HAB hin0
        cases bs
        · skip
          go_wp2_with fail
          rw [← HX10.out.2.2]
          refine HABC.out.mono ?_
          rintro e w11 ⟨lv, rfl, hlo, hb11⟩
          obtain ⟨ua, uc, rfl⟩ := owns_slice hlo
          obtain ⟨m, hm⟩ : ∃ m, m = up.length := ⟨_, rfl⟩
          rw [← hm] at hlo ⊢
          have HB11 := Lib.hid (HB10.out.trans (hb11.mono HB10.out.size))
          have HLO := Lib.hid (And.intro hlo hm)
          have hm6 : m ≤ 1000000 := by rw [hm]; exact HUPL.out
          clear hlo hm hb11 c0 c1 c2 c3
          go_wp2_with fail
          go_loopw [20, 22] (fun v i wr => ∃ k : Nat, k ≤ m ∧ i = .int .i64 (k : Int) ∧ Hid (v = .bool (inB false a b up k) ∧ Below w11.heap.size w11 wr)) (fun _ i _ => m - (intOf i).toNat)
          case atStart => exact ⟨0, Nat.zero_le _, rfl, Lib.hid ⟨congrArg Value.bool HIN0.out, Below.refl _ _⟩⟩
          case round =>
            obtain ⟨k, hk, rfl, hh⟩ := hrel
            have hv := hh.out.1
            have HBL := Lib.hid hh.out.2
            have HBW := Lib.hid (HB11.out.trans (hh.out.2.mono HB11.out.size))
            subst hv
            clear hh
            obtain ⟨c0, c1, c2, c3⟩ := HBOX.out wr HBW.out
            obtain ⟨q, hq⟩ : ∃ q, q = inB false a b up k := ⟨_, rfl⟩
            have HQ := Lib.hid hq
            rw [← hq]
            clear hq
            by_cases hlt : k < m
            · exact absurd hlt (by have h1 := HUP2.out (by trivial); have h2 := HLO.out.2; rw [h1] at h2; simp at h2; omega)
            · have hki : ¬ (k : Int) < (m : Int) := by omega
              have hkm : k = m := by omega
              have HW := Lib.hid (show withinT a b t = q by rw [HWB2.out, HQ.out, hkm, HLO.out.2])
              clear hlt hk hkm
              cases q
              · go_wp2_with fail
                refine (HWI.out wr a b HBW.out).mono ?_
                rintro e w12 ⟨rfl, hb12⟩
                have HB12 := Lib.hid (HBW.out.trans (hb12.mono HBW.out.size))
                clear hb12 c0 c1 c2 c3
                rw [HW.out]
                go_wp2_with fail
                refine (wakes_any w12).mono ?_
                rintro e w13 ⟨rfl, hb13⟩
                have HBW13 := Lib.hid (HB3.out.trans ((HB12.out.trans (hb13.mono HB12.out.size)).mono HB3.out.size))
                clear hb13
                go_wp2_with fail
                go_ret
                exact ⟨rfl, HBW13.out⟩
              · go_wp2_with fail
                refine (HWI.out wr a b HBW.out).mono ?_
                rintro e w12 ⟨rfl, hb12⟩
                have HB12 := Lib.hid (HBW.out.trans (hb12.mono HBW.out.size))
                clear hb12 c0 c1 c2 c3
                rw [HW.out]
                go_wp2_with fail
                refine (wakes_any w12).mono ?_
                rintro e w13 ⟨rfl, hb13⟩
                have HBW13 := Lib.hid (HB3.out.trans ((HB12.out.trans (hb13.mono HB12.out.size)).mono HB3.out.size))
                clear hb13
                go_wp2_with fail
                go_ret
                exact ⟨rfl, HBW13.out⟩
        · by_cases hab : a = b
          · have hq : (a == b) = true := by simpa using hab
            rw [decide_eq_true hab] at HIN0
            clear hab
            go_wp2_with fail
            rw [← HX10.out.2.2]
            refine HABC.out.mono ?_
            rintro e w11 ⟨lv, rfl, hlo, hb11⟩
            obtain ⟨ua, uc, rfl⟩ := owns_slice hlo
            obtain ⟨m, hm⟩ : ∃ m, m = up.length := ⟨_, rfl⟩
            rw [← hm] at hlo ⊢
            have HB11 := Lib.hid (HB10.out.trans (hb11.mono HB10.out.size))
            have HLO := Lib.hid (And.intro hlo hm)
            have hm6 : m ≤ 1000000 := by rw [hm]; exact HUPL.out
            clear hlo hm hb11 c0 c1 c2 c3
            go_wp2_with fail
            go_loopw [20, 22] (fun v i wr => ∃ k : Nat, k ≤ m ∧ i = .int .i64 (k : Int) ∧ Hid (v = .bool (inB true a b up k) ∧ Below w11.heap.size w11 wr)) (fun _ i _ => m - (intOf i).toNat)
            case atStart => exact ⟨0, Nat.zero_le _, rfl, Lib.hid ⟨congrArg Value.bool HIN0.out, Below.refl _ _⟩⟩
            case round =>
              obtain ⟨k, hk, rfl, hh⟩ := hrel
              have hv := hh.out.1
              have HBL := Lib.hid hh.out.2
              have HBW := Lib.hid (HB11.out.trans (hh.out.2.mono HB11.out.size))
              subst hv
              clear hh
              obtain ⟨c0, c1, c2, c3⟩ := HBOX.out wr HBW.out
              obtain ⟨q, hq⟩ : ∃ q, q = inB true a b up k := ⟨_, rfl⟩
              have HQ := Lib.hid hq
              rw [← hq]
              clear hq
              by_cases hlt : k < m
              · obtain ⟨x, hx⟩ : ∃ x, up[k]? = some x := ⟨_, List.getElem?_eq_getElem (by rw [← HLO.out.2]; exact hlt)⟩
                have hlo := HLO.out.1
                obtain ⟨g, uc', e1, _⟩ := World.ownsRow.form hlo (by omega)
                cases e1
                have hcap : m ≤ uc := by
                  rcases hlo.2 with ⟨hv, h0⟩ | ⟨_, _, _, hv, _, _, h3, _⟩
                  · cases hv
                  · cases hv; exact h3
                have p9 := owns_cell hlo rfl k (.int .i64 x) (by rw [List.getElem?_map, hx]; rfl)
                have p0 := (HBL.out.cell (World.block_lt_of_cell? _ _ p9)).trans p9
                have HK := Lib.hid (And.intro hx hlt)
                have hki : (k : Int) < (m : Int) := by omega
                clear hx hlo p9 hlt hk
                by_cases hxa : x = a
                · have hb : (x == a) = true := by simpa using hxa
                  have HXA := Lib.hid hxa
                  clear hxa
                  cases q
                  · go_wp2_with fail
                    exact ⟨⟨k + 1, by have := HK.out.2; omega, by go_num, Lib.hid ⟨by rw [inB_step HK.out.1, ← HQ.out, decide_eq_true HXA.out]; rfl, HBL.out⟩⟩, by have := HK.out.2; simp [intOf]; omega⟩
                  · go_wp2_with fail
                    exact ⟨⟨k + 1, by have := HK.out.2; omega, by go_num, Lib.hid ⟨by rw [inB_step HK.out.1, ← HQ.out, decide_eq_true HXA.out]; rfl, HBL.out⟩⟩, by have := HK.out.2; simp [intOf]; omega⟩
                · have hb : (x == a) = false := by simpa using hxa
                  have HXA := Lib.hid hxa
                  clear hxa
                  cases q
                  · go_wp2_with fail
                    exact ⟨⟨k + 1, by have := HK.out.2; omega, by go_num, Lib.hid ⟨by rw [inB_step HK.out.1, ← HQ.out, decide_eq_false HXA.out]; rfl, HBL.out⟩⟩, by have := HK.out.2; simp [intOf]; omega⟩
                  · go_wp2_with fail
                    exact ⟨⟨k + 1, by have := HK.out.2; omega, by go_num, Lib.hid ⟨by rw [inB_step HK.out.1, ← HQ.out, decide_eq_false HXA.out]; rfl, HBL.out⟩⟩, by have := HK.out.2; simp [intOf]; omega⟩
              · have hki : ¬ (k : Int) < (m : Int) := by omega
                have hkm : k = m := by omega
                have HW := Lib.hid (show withinT a b t = q by rw [HWB2.out, HQ.out, hkm, HLO.out.2])
                clear hlt hk hkm
                cases q
                · go_wp2_with fail
                  refine (HWI.out wr a b HBW.out).mono ?_
                  rintro e w12 ⟨rfl, hb12⟩
                  have HB12 := Lib.hid (HBW.out.trans (hb12.mono HBW.out.size))
                  clear hb12 c0 c1 c2 c3
                  rw [HW.out]
                  go_wp2_with fail
                  refine (wakes_any w12).mono ?_
                  rintro e w13 ⟨rfl, hb13⟩
                  have HBW13 := Lib.hid (HB3.out.trans ((HB12.out.trans (hb13.mono HB12.out.size)).mono HB3.out.size))
                  clear hb13
                  go_wp2_with fail
                  go_ret
                  exact ⟨rfl, HBW13.out⟩
                · go_wp2_with fail
                  refine (HWI.out wr a b HBW.out).mono ?_
                  rintro e w12 ⟨rfl, hb12⟩
                  have HB12 := Lib.hid (HBW.out.trans (hb12.mono HBW.out.size))
                  clear hb12 c0 c1 c2 c3
                  rw [HW.out]
                  go_wp2_with fail
                  refine (wakes_any w12).mono ?_
                  rintro e w13 ⟨rfl, hb13⟩
                  have HBW13 := Lib.hid (HB3.out.trans ((HB12.out.trans (hb13.mono HB12.out.size)).mono HB3.out.size))
                  clear hb13
                  go_wp2_with fail
                  go_ret
                  exact ⟨rfl, HBW13.out⟩
          · have hq : (a == b) = false := by simpa using hab
            rw [decide_eq_false hab] at HIN0
            clear hab
            go_wp2_with fail
            rw [← HX10.out.2.2]
            refine HABC.out.mono ?_
            rintro e w11 ⟨lv, rfl, hlo, hb11⟩
            obtain ⟨ua, uc, rfl⟩ := owns_slice hlo
            obtain ⟨m, hm⟩ : ∃ m, m = up.length := ⟨_, rfl⟩
            rw [← hm] at hlo ⊢
            have HB11 := Lib.hid (HB10.out.trans (hb11.mono HB10.out.size))
            have HLO := Lib.hid (And.intro hlo hm)
            have hm6 : m ≤ 1000000 := by rw [hm]; exact HUPL.out
            clear hlo hm hb11 c0 c1 c2 c3
            go_wp2_with fail
            go_loopw [20, 22] (fun v i wr => ∃ k : Nat, k ≤ m ∧ i = .int .i64 (k : Int) ∧ Hid (v = .bool (inB true a b up k) ∧ Below w11.heap.size w11 wr)) (fun _ i _ => m - (intOf i).toNat)
            case atStart => exact ⟨0, Nat.zero_le _, rfl, Lib.hid ⟨congrArg Value.bool HIN0.out, Below.refl _ _⟩⟩
            case round =>
              obtain ⟨k, hk, rfl, hh⟩ := hrel
              have hv := hh.out.1
              have HBL := Lib.hid hh.out.2
              have HBW := Lib.hid (HB11.out.trans (hh.out.2.mono HB11.out.size))
              subst hv
              clear hh
              obtain ⟨c0, c1, c2, c3⟩ := HBOX.out wr HBW.out
              obtain ⟨q, hq⟩ : ∃ q, q = inB true a b up k := ⟨_, rfl⟩
              have HQ := Lib.hid hq
              rw [← hq]
              clear hq
              by_cases hlt : k < m
              · obtain ⟨x, hx⟩ : ∃ x, up[k]? = some x := ⟨_, List.getElem?_eq_getElem (by rw [← HLO.out.2]; exact hlt)⟩
                have hlo := HLO.out.1
                obtain ⟨g, uc', e1, _⟩ := World.ownsRow.form hlo (by omega)
                cases e1
                have hcap : m ≤ uc := by
                  rcases hlo.2 with ⟨hv, h0⟩ | ⟨_, _, _, hv, _, _, h3, _⟩
                  · cases hv
                  · cases hv; exact h3
                have p9 := owns_cell hlo rfl k (.int .i64 x) (by rw [List.getElem?_map, hx]; rfl)
                have p0 := (HBL.out.cell (World.block_lt_of_cell? _ _ p9)).trans p9
                have HK := Lib.hid (And.intro hx hlt)
                have hki : (k : Int) < (m : Int) := by omega
                clear hx hlo p9 hlt hk
                by_cases hxa : x = a
                · have hb : (x == a) = true := by simpa using hxa
                  have HXA := Lib.hid hxa
                  clear hxa
                  cases q
                  · go_wp2_with fail
                    exact ⟨⟨k + 1, by have := HK.out.2; omega, by go_num, Lib.hid ⟨by rw [inB_step HK.out.1, ← HQ.out, decide_eq_true HXA.out]; rfl, HBL.out⟩⟩, by have := HK.out.2; simp [intOf]; omega⟩
                  · go_wp2_with fail
                    exact ⟨⟨k + 1, by have := HK.out.2; omega, by go_num, Lib.hid ⟨by rw [inB_step HK.out.1, ← HQ.out, decide_eq_true HXA.out]; rfl, HBL.out⟩⟩, by have := HK.out.2; simp [intOf]; omega⟩
                · have hb : (x == a) = false := by simpa using hxa
                  have HXA := Lib.hid hxa
                  clear hxa
                  cases q
                  · go_wp2_with fail
                    exact ⟨⟨k + 1, by have := HK.out.2; omega, by go_num, Lib.hid ⟨by rw [inB_step HK.out.1, ← HQ.out, decide_eq_false HXA.out]; rfl, HBL.out⟩⟩, by have := HK.out.2; simp [intOf]; omega⟩
                  · go_wp2_with fail
                    exact ⟨⟨k + 1, by have := HK.out.2; omega, by go_num, Lib.hid ⟨by rw [inB_step HK.out.1, ← HQ.out, decide_eq_false HXA.out]; rfl, HBL.out⟩⟩, by have := HK.out.2; simp [intOf]; omega⟩
              · have hki : ¬ (k : Int) < (m : Int) := by omega
                have hkm : k = m := by omega
                have HW := Lib.hid (show withinT a b t = q by rw [HWB2.out, HQ.out, hkm, HLO.out.2])
                clear hlt hk hkm
                cases q
                · go_wp2_with fail
                  refine (HWI.out wr a b HBW.out).mono ?_
                  rintro e w12 ⟨rfl, hb12⟩
                  have HB12 := Lib.hid (HBW.out.trans (hb12.mono HBW.out.size))
                  clear hb12 c0 c1 c2 c3
                  rw [HW.out]
                  go_wp2_with fail
                  refine (wakes_any w12).mono ?_
                  rintro e w13 ⟨rfl, hb13⟩
                  have HBW13 := Lib.hid (HB3.out.trans ((HB12.out.trans (hb13.mono HB12.out.size)).mono HB3.out.size))
                  clear hb13
                  go_wp2_with fail
                  go_ret
                  exact ⟨rfl, HBW13.out⟩
                · go_wp2_with fail
                  refine (HWI.out wr a b HBW.out).mono ?_
                  rintro e w12 ⟨rfl, hb12⟩
                  have HB12 := Lib.hid (HBW.out.trans (hb12.mono HBW.out.size))
                  clear hb12 c0 c1 c2 c3
                  rw [HW.out]
                  go_wp2_with fail
                  refine (wakes_any w12).mono ?_
                  rintro e w13 ⟨rfl, hb13⟩
                  have HBW13 := Lib.hid (HB3.out.trans ((HB12.out.trans (hb13.mono HB12.out.size)).mono HB3.out.size))
                  clear hb13
                  go_wp2_with fail
                  go_ret
                  exact ⟨rfl, HBW13.out⟩
theorem back_fr (w : World) (nv : Value) (t : Tr) (a b : Int) (ht : TrAt w (Old w) nv t) (hft : Fits t) : Calls Try.prog 6 #[nv, .int .i64 a, .int .i64 b] w fun e w' => e = .returned (.bool true) ∧ Below w.heap.size w w' :=
  placeBack_any w (Old w) nv t a b (fun _ h => h) ht hft.1 hft.2
end Go.Proofs.Ytjppibomjnmjpaa
