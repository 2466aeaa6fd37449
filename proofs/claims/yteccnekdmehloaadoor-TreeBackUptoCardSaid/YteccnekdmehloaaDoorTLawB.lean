/-
  What TreeBack answers: true. Its conditions: the tables that a program starts with, that numbers are a machine's, and the bulk of the trees.
-/
import Derived.Test.YteccnekdmehloaaDoorRWalkN
import Derived.Test.YteccnekdmehloaaDoorTBackP
import Derived.Test.YteccnekdmehloaaDoorHWalkM
import Derived.Test.YteccnekdmehloaaDoorETSame
namespace Go.Proofs.YteccnekdmehloaaDoor
open Go.RowKit Go.Shelf
set_option linter.unusedVariables false
set_option linter.unusedSimpArgs false

theorem old2 {w : World} {o o' : Obj} : ((w.alloc o).alloc o').heap[w.heap.size]? = some o := by
  have h := heap_alloc_new w o
  exact (Below.heap_alloc (w.alloc o) o' _ (lt_of_heap h)).trans h
theorem new2 {w : World} {o o' : Obj} : ((w.alloc o).alloc o').heap[w.heap.size + 1]? = some o' := by
  have h := heap_alloc_new (w.alloc o) o'
  have e : (w.alloc o).heap.size = w.heap.size + 1 := by simp
  rw [e] at h; exact h
theorem walk_len (t : Tr) : ((spF 1 (rootF t)).take 201).length = min 201 (foSize t.kids + 1) := by rw [List.length_take, spF_length, rootF_size]
set_option maxRecDepth 100000 in
set_option maxHeartbeats 8000000 in
theorem treeBack_any (w : World) (S : Nat → Prop) (ba : Option Addr) (n bc : Nat) (bs : List UInt8) (nv : Value) (t : Tr) (uv : Value) (u : Tr) (hS : ∀ y, S y → CellsB w y) (hn : n = bs.length) (hby : ByAt w ba bs) (hbc : bs.length ≤ bc ∧ (bc : Int) ≤ 9223372036854775807)
    (ht : TrAt w S nv t) (hft : Fits t) (hnt : trN t) (hbt : trBk t ≤ 1048576) (hu : TrAt w S uv u) (hfu : Fits u) (hnu : trN u) (hbu : trBk u ≤ 1048576) (htab : Tab w) :
    Calls Tryd.prog 4 #[.slice ba n bc, nv, uv] w (YesR w) := by
  obtain ⟨ka, tc, rfl, hcap, hk⟩ := ht
  obtain ⟨kb, uc, rfl, hcbp, hkb⟩ := hu
  obtain ⟨nk, hnk⟩ : ∃ n, n = foLen t.kids := ⟨_, rfl⟩
  obtain ⟨un, hun⟩ : ∃ n, n = foLen u.kids := ⟨_, rfl⟩
  obtain ⟨B, hB⟩ : ∃ B, B = (w.alloc (.cells #[.int .i64 t.id, .int .i64 t.kind, .string t.text, .slice ka nk tc] 25)).alloc (.cells #[.int .i64 u.id, .int .i64 u.kind, .string u.text, .slice kb un uc] 25) := ⟨_, rfl⟩
  have hb : Below w.heap.size w B := by rw [hB]; exact two_boxes _ _ _
  have hb0 : B.heap[w.heap.size]? = some (.cells #[.int .i64 t.id, .int .i64 t.kind, .string t.text, .slice ka nk tc] 25 (0, 0)) := by rw [hB]; exact old2
  have hb1 : B.heap[w.heap.size + 1]? = some (.cells #[.int .i64 u.id, .int .i64 u.kind, .string u.text, .slice kb un uc] 25 (0, 0)) := by rw [hB]; exact new2
  have hSl : ∀ y, S y → y < w.heap.size := fun y hy => (hS y hy).lt
  have htr : ∀ X, Below w.heap.size w X → (∀ y, S y → y < X.heap.size) ∧ TrAt X S (.agg #[.int .i64 t.id, .int .i64 t.kind, .string t.text, .slice ka nk tc]) t := fun X hX => ⟨fun y hy => Nat.lt_of_lt_of_le (hSl y hy) hX.size, ka, tc, by rw [hnk], hcap, hk.below hX hSl⟩
  have hur : ∀ X, Below w.heap.size w X → TrAt X S (.agg #[.int .i64 u.id, .int .i64 u.kind, .string u.text, .slice kb un uc]) u := fun X hX => ⟨kb, uc, by rw [hun], hcbp, hkb.below hX hSl⟩
  obtain ⟨nt, hntl⟩ : ∃ k, k = ((spF 1 (rootF t)).take 201).length := ⟨_, rfl⟩
  obtain ⟨nu, hnul⟩ : ∃ k, k = ((spF 1 (rootF u)).take 201).length := ⟨_, rfl⟩
  have HWT : Hid (∀ X, Below w.heap.size w X → Calls Tryd.prog 12 #[.agg #[.int .i64 t.id, .int .i64 t.kind, .string t.text, .slice ka nk tc], .int .i64 201] X fun e w' => ∃ a cap, e = .returned (.slice a nt cap) ∧ Below X.heap.size X w') := Lib.hid fun X hX => (walkM_any 201 (by omega) X S _ t hft.1 hft.2 (htr X hX).1 (htr X hX).2).mono fun e w' ⟨a, cap, he, _, hb⟩ => ⟨a, cap, by rw [hntl]; exact he, hb⟩
  have HWU : Hid (∀ X, Below w.heap.size w X → Calls Tryd.prog 12 #[.agg #[.int .i64 u.id, .int .i64 u.kind, .string u.text, .slice kb un uc], .int .i64 201] X fun e w' => ∃ a cap, e = .returned (.slice a nu cap) ∧ Below X.heap.size X w') := Lib.hid fun X hX => (walkM_any 201 (by omega) X S _ u hfu.1 hfu.2 (htr X hX).1 (hur X hX)).mono fun e w' ⟨a, cap, he, _, hb⟩ => ⟨a, cap, by rw [hnul]; exact he, hb⟩
  rw [walk_len] at hntl hnul
  obtain ⟨dd, hdd⟩ : ∃ d, d = maxI (spF 1 (rootF t)) := ⟨_, rfl⟩
  obtain ⟨lt, hlt⟩ : ∃ l, l = (encT t).length := ⟨_, rfl⟩
  have HDT : Hid (foSize t.kids + 1 ≤ 200 → ∀ X, Below w.heap.size w X → Calls Tryd.prog 13 #[.agg #[.int .i64 t.id, .int .i64 t.kind, .string t.text, .slice ka nk tc]] X (IntC X dd)) := Lib.hid fun hs X hX => by rw [hdd]; exact depth_any X S _ t (htr X hX).1 (htr X hX).2 (by omega)
  have HYT : Hid (∀ X, Below w.heap.size w X → Calls Tryd.prog 10 #[.agg #[.int .i64 t.id, .int .i64 t.kind, .string t.text, .slice ka nk tc]] X (NewB X (encT t))) := Lib.hid fun X hX => tbytes_any X S _ t (htr X hX).1 (htr X hX).2 (by have := enc_bulk t; omega)
  have HYU : Hid (∀ X, Below w.heap.size w X → Calls Tryd.prog 10 #[.agg #[.int .i64 u.id, .int .i64 u.kind, .string u.text, .slice kb un uc]] X (NewB X (encT u))) := Lib.hid fun X hX => tbytes_any X S _ u (htr X hX).1 (hur X hX) (by have := enc_bulk u; omega)
  have HST : Hid (foSize t.kids + 1 ≤ 200 → ∀ X, Below w.heap.size w X → Calls Tryd.prog 15 #[.agg #[.int .i64 t.id, .int .i64 t.kind, .string t.text, .slice ka nk tc]] X (SayC X (showT t))) := Lib.hid fun hs X hX => show_any X S _ t (htr X hX).1 (htr X hX).2 (by omega) (htab.below hX) (root_n64 t hnt) (showT_len t hnt hs hbt)
  have HSU : Hid (foSize u.kids + 1 ≤ 200 → ∀ X, Below w.heap.size w X → Calls Tryd.prog 15 #[.agg #[.int .i64 u.id, .int .i64 u.kind, .string u.text, .slice kb un uc]] X (SayC X (showT u))) := Lib.hid fun hs X hX => show_any X S _ u (htr X hX).1 (hur X hX) (by omega) (htab.below hX) (root_n64 u hnu) (showT_len u hnu hs hbu)
  have HSM : Hid (foSize t.kids + 1 ≤ 200 → foSize u.kids + 1 ≤ 200 → ∀ X, Below w.heap.size w X → Calls Tryd.prog 14 #[.agg #[.int .i64 t.id, .int .i64 t.kind, .string t.text, .slice ka nk tc], .agg #[.int .i64 u.id, .int .i64 u.kind, .string u.text, .slice kb un uc]] X (SameC t u X)) := Lib.hid fun hs hs2 X hX => tsame_any X S S _ _ t u (htr X hX).1 (htr X hX).1 (htr X hX).2 (hur X hX) (by omega) (by omega)
  have HRB : Hid (∀ X, Below w.heap.size w X → Calls Tryd.prog 7 #[.slice ba n bc] X (TReadC X (readT bs))) := Lib.hid fun X hX => tread_any X ba bc n bs hn (hby.below hX)
  have HIN := Lib.hid (And.intro (in64_of t hnt hft hbt) (And.intro (in64_of u hnu hfu hbu) (And.intro hft hfu)))
  have HBYI := Lib.hid (And.intro hn (fun (X : World) (hX : Below w.heap.size w X) => hby.below hX))
  have HC := Lib.hid (And.intro hb (And.intro hB (And.intro hb0 hb1)))
  have HT := Lib.hid (And.intro htr (And.intro hur hSl))
  have HTAB : Hid (∀ X, Below w.heap.size w X → Tab X) := Lib.hid fun X hX => htab.below hX
  have HDD := Lib.hid (And.intro hdd hlt)
  have HNL := Lib.hid (And.intro hntl hnul)
  have HNK := Lib.hid (And.intro hnk hun)
  rw [← hnk, ← hun]
  clear hdd hlt htr hur hSl hb hB hb0 hb1 hn hby hbc hft hnt hbt hfu hnu hbu htab hS hcap hk hcbp hkb hnk hun
  by_cases c1 : 200 < foSize t.kids + 1
  · have e1 : nt = 201 := by omega
    subst e1
    clear hntl hnul c1
    go_enter Tryd.func4, Tryd.ntmps4
    go_wp2_with fail
    rw [← HC.out.2.1]
    refine (HWT.out B HC.out.1).mono ?_
    rintro e w3 ⟨a3, p3, rfl, hb3⟩
    have HB3 := Lib.hid (HC.out.1.trans (hb3.mono HC.out.1.size))
    have HK3 := Lib.hid (And.intro ((hb3.block _ (lt_of_heap HC.out.2.2.1)).trans HC.out.2.2.1) ((hb3.block _ (lt_of_heap HC.out.2.2.2)).trans HC.out.2.2.2))
    clear hb3
    obtain ⟨t0, t1, t2, t3⟩ := box4 HK3.out.1
    obtain ⟨u0, u1, u2, u3⟩ := box4 HK3.out.2
    go_wp2_with fail
    refine (wakes_any w3 (HTAB.out w3 HB3.out)).mono ?_
    rintro e w4 ⟨rfl, hb4⟩
    have HB4 := Lib.hid (HB3.out.trans (hb4.mono HB3.out.size))
    clear hb4
    go_wp2_with fail
    go_ret
    exact ⟨rfl, HB4.out⟩
  have hs1 : foSize t.kids + 1 ≤ 200 := by omega
  have hn1 : ¬ (200 : Int) < (nt : Int) := by omega
  by_cases c2 : 200 < foSize u.kids + 1
  · have e1 : nu = 201 := by omega
    subst e1
    clear hntl hnul c1 c2 hs1
    go_enter Tryd.func4, Tryd.ntmps4
    go_wp2_with fail
    rw [← HC.out.2.1]
    refine (HWT.out B HC.out.1).mono ?_
    rintro e w3 ⟨a3, p3, rfl, hb3⟩
    have HB3 := Lib.hid (HC.out.1.trans (hb3.mono HC.out.1.size))
    have HK3 := Lib.hid (And.intro ((hb3.block _ (lt_of_heap HC.out.2.2.1)).trans HC.out.2.2.1) ((hb3.block _ (lt_of_heap HC.out.2.2.2)).trans HC.out.2.2.2))
    clear hb3
    obtain ⟨t0, t1, t2, t3⟩ := box4 HK3.out.1
    obtain ⟨u0, u1, u2, u3⟩ := box4 HK3.out.2
    go_wp2_with fail
    refine (HWU.out w3 HB3.out).mono ?_
    rintro e w4 ⟨a4, p4, rfl, hb4⟩
    have HB4 := Lib.hid (HB3.out.trans (hb4.mono HB3.out.size))
    have HK4 := Lib.hid (And.intro ((hb4.block _ (lt_of_heap HK3.out.1)).trans HK3.out.1) ((hb4.block _ (lt_of_heap HK3.out.2)).trans HK3.out.2))
    clear hb4 t0 t1 t2 t3 u0 u1 u2 u3
    obtain ⟨t0, t1, t2, t3⟩ := box4 HK4.out.1
    obtain ⟨u0, u1, u2, u3⟩ := box4 HK4.out.2
    go_wp2_with fail
    refine (wakes_any w4 (HTAB.out w4 HB4.out)).mono ?_
    rintro e w5 ⟨rfl, hb5⟩
    have HB5 := Lib.hid (HB4.out.trans (hb5.mono HB4.out.size))
    clear hb5
    go_wp2_with fail
    go_ret
    exact ⟨rfl, HB5.out⟩
  have hs2 : foSize u.kids + 1 ≤ 200 := by omega
  have hn2 : ¬ (200 : Int) < (nu : Int) := by omega
  have HS1 := Lib.hid (And.intro hs1 hs2)
  clear hntl hnul c1 c2 hs1 hs2
  by_cases c3 : 32 < dd
  · have c3' : (32 : Int) < dd := c3
    go_enter Tryd.func4, Tryd.ntmps4
    go_wp2_with fail
    rw [← HC.out.2.1]
    refine (HWT.out B HC.out.1).mono ?_
    rintro e w3 ⟨a3, p3, rfl, hb3⟩
    have HB3 := Lib.hid (HC.out.1.trans (hb3.mono HC.out.1.size))
    have HK3 := Lib.hid (And.intro ((hb3.block _ (lt_of_heap HC.out.2.2.1)).trans HC.out.2.2.1) ((hb3.block _ (lt_of_heap HC.out.2.2.2)).trans HC.out.2.2.2))
    clear hb3
    obtain ⟨t0, t1, t2, t3⟩ := box4 HK3.out.1
    obtain ⟨u0, u1, u2, u3⟩ := box4 HK3.out.2
    go_wp2_with fail
    refine (HWU.out w3 HB3.out).mono ?_
    rintro e w4 ⟨a4, p4, rfl, hb4⟩
    have HB4 := Lib.hid (HB3.out.trans (hb4.mono HB3.out.size))
    have HK4 := Lib.hid (And.intro ((hb4.block _ (lt_of_heap HK3.out.1)).trans HK3.out.1) ((hb4.block _ (lt_of_heap HK3.out.2)).trans HK3.out.2))
    clear hb4 t0 t1 t2 t3 u0 u1 u2 u3
    obtain ⟨t0, t1, t2, t3⟩ := box4 HK4.out.1
    obtain ⟨u0, u1, u2, u3⟩ := box4 HK4.out.2
    go_wp2_with fail
    refine (HDT.out HS1.out.1 w4 HB4.out).mono ?_
    rintro e w5 ⟨rfl, hb5⟩
    have HB5 := Lib.hid (HB4.out.trans (hb5.mono HB4.out.size))
    have HK5 := Lib.hid (And.intro ((hb5.block _ (lt_of_heap HK4.out.1)).trans HK4.out.1) ((hb5.block _ (lt_of_heap HK4.out.2)).trans HK4.out.2))
    clear hb5 t0 t1 t2 t3 u0 u1 u2 u3
    obtain ⟨t0, t1, t2, t3⟩ := box4 HK5.out.1
    obtain ⟨u0, u1, u2, u3⟩ := box4 HK5.out.2
    go_wp2_with fail
    refine (wakes_any w5 (HTAB.out w5 HB5.out)).mono ?_
    rintro e w6 ⟨rfl, hb6⟩
    have HB6 := Lib.hid (HB5.out.trans (hb6.mono HB5.out.size))
    clear hb6
    go_wp2_with fail
    go_ret
    exact ⟨rfl, HB6.out⟩
  by_cases c4 : 65536 < lt
  · have c4' : (65536 : Int) < (lt : Int) := by omega
    clear c4
    go_enter Tryd.func4, Tryd.ntmps4
    go_wp2_with fail
    rw [← HC.out.2.1]
    refine (HWT.out B HC.out.1).mono ?_
    rintro e w3 ⟨a3, p3, rfl, hb3⟩
    have HB3 := Lib.hid (HC.out.1.trans (hb3.mono HC.out.1.size))
    have HK3 := Lib.hid (And.intro ((hb3.block _ (lt_of_heap HC.out.2.2.1)).trans HC.out.2.2.1) ((hb3.block _ (lt_of_heap HC.out.2.2.2)).trans HC.out.2.2.2))
    clear hb3
    obtain ⟨t0, t1, t2, t3⟩ := box4 HK3.out.1
    obtain ⟨u0, u1, u2, u3⟩ := box4 HK3.out.2
    go_wp2_with fail
    refine (HWU.out w3 HB3.out).mono ?_
    rintro e w4 ⟨a4, p4, rfl, hb4⟩
    have HB4 := Lib.hid (HB3.out.trans (hb4.mono HB3.out.size))
    have HK4 := Lib.hid (And.intro ((hb4.block _ (lt_of_heap HK3.out.1)).trans HK3.out.1) ((hb4.block _ (lt_of_heap HK3.out.2)).trans HK3.out.2))
    clear hb4 t0 t1 t2 t3 u0 u1 u2 u3
    obtain ⟨t0, t1, t2, t3⟩ := box4 HK4.out.1
    obtain ⟨u0, u1, u2, u3⟩ := box4 HK4.out.2
    go_wp2_with fail
    refine (HDT.out HS1.out.1 w4 HB4.out).mono ?_
    rintro e w5 ⟨rfl, hb5⟩
    have HB5 := Lib.hid (HB4.out.trans (hb5.mono HB4.out.size))
    have HK5 := Lib.hid (And.intro ((hb5.block _ (lt_of_heap HK4.out.1)).trans HK4.out.1) ((hb5.block _ (lt_of_heap HK4.out.2)).trans HK4.out.2))
    clear hb5 t0 t1 t2 t3 u0 u1 u2 u3
    obtain ⟨t0, t1, t2, t3⟩ := box4 HK5.out.1
    obtain ⟨u0, u1, u2, u3⟩ := box4 HK5.out.2
    go_wp2_with fail
    refine (HYT.out w5 HB5.out).mono ?_
    rintro e w6 ⟨a6, n6, p6, rfl, hn6, hby6, hb6⟩
    have HB6 := Lib.hid (HB5.out.trans (hb6.mono HB5.out.size))
    have HK6 := Lib.hid (And.intro ((hb6.block _ (lt_of_heap HK5.out.1)).trans HK5.out.1) ((hb6.block _ (lt_of_heap HK5.out.2)).trans HK5.out.2))
    clear hb6 t0 t1 t2 t3 u0 u1 u2 u3
    obtain ⟨t0, t1, t2, t3⟩ := box4 HK6.out.1
    obtain ⟨u0, u1, u2, u3⟩ := box4 HK6.out.2
    rw [← HDD.out.2] at hn6
    subst hn6
    clear hby6
    go_wp2_with fail
    refine (wakes_any w6 (HTAB.out w6 HB6.out)).mono ?_
    rintro e w7 ⟨rfl, hb7⟩
    have HB7 := Lib.hid (HB6.out.trans (hb7.mono HB6.out.size))
    clear hb7
    go_wp2_with fail
    go_ret
    exact ⟨rfl, HB7.out⟩
  have c4' : ¬ (65536 : Int) < (lt : Int) := by omega
  have HGOOD := Lib.hid (readT_enc t HIN.out.1 (good_of t (by rw [← HDD.out.1]; omega) HS1.out.1) (by rw [← HDD.out.2]; omega))
  clear c4
  go_enter Tryd.func4, Tryd.ntmps4
  go_wp2_with fail
  rw [← HC.out.2.1]
  refine (HWT.out B HC.out.1).mono ?_
  rintro e w3 ⟨a3, p3, rfl, hb3⟩
  have HB3 := Lib.hid (HC.out.1.trans (hb3.mono HC.out.1.size))
  have HK3 := Lib.hid (And.intro ((hb3.block _ (lt_of_heap HC.out.2.2.1)).trans HC.out.2.2.1) ((hb3.block _ (lt_of_heap HC.out.2.2.2)).trans HC.out.2.2.2))
  clear hb3
  obtain ⟨t0, t1, t2, t3⟩ := box4 HK3.out.1
  obtain ⟨u0, u1, u2, u3⟩ := box4 HK3.out.2
  go_wp2_with fail
  refine (HWU.out w3 HB3.out).mono ?_
  rintro e w4 ⟨a4, p4, rfl, hb4⟩
  have HB4 := Lib.hid (HB3.out.trans (hb4.mono HB3.out.size))
  have HK4 := Lib.hid (And.intro ((hb4.block _ (lt_of_heap HK3.out.1)).trans HK3.out.1) ((hb4.block _ (lt_of_heap HK3.out.2)).trans HK3.out.2))
  clear hb4 t0 t1 t2 t3 u0 u1 u2 u3
  obtain ⟨t0, t1, t2, t3⟩ := box4 HK4.out.1
  obtain ⟨u0, u1, u2, u3⟩ := box4 HK4.out.2
  go_wp2_with fail
  refine (HDT.out HS1.out.1 w4 HB4.out).mono ?_
  rintro e w5 ⟨rfl, hb5⟩
  have HB5 := Lib.hid (HB4.out.trans (hb5.mono HB4.out.size))
  have HK5 := Lib.hid (And.intro ((hb5.block _ (lt_of_heap HK4.out.1)).trans HK4.out.1) ((hb5.block _ (lt_of_heap HK4.out.2)).trans HK4.out.2))
  clear hb5 t0 t1 t2 t3 u0 u1 u2 u3
  obtain ⟨t0, t1, t2, t3⟩ := box4 HK5.out.1
  obtain ⟨u0, u1, u2, u3⟩ := box4 HK5.out.2
  go_wp2_with fail
  refine (HYT.out w5 HB5.out).mono ?_
  rintro e w6 ⟨a6, n6, p6, rfl, hn6, hby6, hb6⟩
  have HB6 := Lib.hid (HB5.out.trans (hb6.mono HB5.out.size))
  have HK6 := Lib.hid (And.intro ((hb6.block _ (lt_of_heap HK5.out.1)).trans HK5.out.1) ((hb6.block _ (lt_of_heap HK5.out.2)).trans HK5.out.2))
  clear hb6 t0 t1 t2 t3 u0 u1 u2 u3
  obtain ⟨t0, t1, t2, t3⟩ := box4 HK6.out.1
  obtain ⟨u0, u1, u2, u3⟩ := box4 HK6.out.2
  rw [← HDD.out.2] at hn6
  subst hn6
  clear hby6
  go_wp2_with fail
  refine (HYT.out w6 HB6.out).mono ?_
  rintro e w7 ⟨a7, n7, p7, rfl, hn7, hby7, hb7⟩
  have HB7 := Lib.hid (HB6.out.trans (hb7.mono HB6.out.size))
  have HK7 := Lib.hid (And.intro ((hb7.block _ (lt_of_heap HK6.out.1)).trans HK6.out.1) ((hb7.block _ (lt_of_heap HK6.out.2)).trans HK6.out.2))
  have hrd := tread_any w7 a7 p7 n7 (encT t) hn7 hby7
  rw [HGOOD.out] at hrd
  have HRD := Lib.hid hrd
  clear hb7 t0 t1 t2 t3 u0 u1 u2 u3 hrd hby7 hn7
  go_wp2_with fail
  refine HRD.out.mono ?_
  rintro e w8 ⟨v8, rfl, ⟨xa, xc, rfl, hxc, hxk⟩, hb8⟩
  simp only [nT] at hxc hxk ⊢
  obtain ⟨xk, hxkk⟩ : ∃ k, k = nF t.kids := ⟨_, rfl⟩
  rw [← hxkk] at hxc hxk ⊢
  obtain ⟨xn, hxn⟩ : ∃ k, k = foLen xk := ⟨_, rfl⟩
  rw [← hxn] at hxc ⊢
  obtain ⟨w9, hw9⟩ : ∃ X1, X1 = w8.alloc (.cells #[.int .i64 t.id, .int .i64 t.kind, .string t.text, .slice xa xn xc] 25) := ⟨_, rfl⟩
  have hbx : Below w8.heap.size w8 w9 := by rw [hw9]; exact bx_below _ _
  have hx9 : w9.heap[w8.heap.size]? = some (.cells #[.int .i64 t.id, .int .i64 t.kind, .string t.text, .slice xa xn xc] 25 (0, 0)) := by rw [hw9]; exact heap_alloc_new w8 _
  have hb79 : Below w7.heap.size w7 w9 := hb8.trans (hbx.mono hb8.size)
  have HB9 := Lib.hid (HB7.out.trans (hb79.mono HB7.out.size))
  have HK9 := Lib.hid (And.intro ((hb79.block _ (lt_of_heap HK7.out.1)).trans HK7.out.1) ((hb79.block _ (lt_of_heap HK7.out.2)).trans HK7.out.2))
  have HW9 := Lib.hid hw9
  have hsn : Calls Tryd.prog 14 #[.agg #[.int .i64 t.id, .int .i64 t.kind, .string t.text, .slice xa xn xc], .agg #[.int .i64 t.id, .int .i64 t.kind, .string t.text, .slice ka nk tc]] w9 fun e w' => e = .returned (.bool true) ∧ Below w9.heap.size w9 w' := by
    refine (tsame_any w9 (fun y => y < w8.heap.size) S _ _ (nT t) t (fun y hy => Nat.lt_of_lt_of_le hy hbx.size) (HT.out.1 w9 HB9.out).1 ⟨xa, xc, by simp only [nT, ← hxkk, ← hxn], by simp only [nT, ← hxkk, ← hxn]; exact hxc, by simp only [nT, ← hxkk]; exact hxk.kept (w' := w9) (S' := fun y => y < w8.heap.size) (fun y hy => ⟨hy.2, hbx.block y hy.2⟩)⟩ (HT.out.1 w9 HB9.out).2 (by simp only [nT, foSize_n]; have := HS1.out.1; omega) (by have := HS1.out.1; omega)).mono ?_
    rintro e w' ⟨rfl, hb⟩
    rw [sameT_n]
    exact ⟨rfl, hb⟩
  have HSN := Lib.hid hsn
  obtain ⟨x0, x1, x2, x3⟩ := box4 hx9
  obtain ⟨t0, t1, t2, t3⟩ := box4 HK9.out.1
  clear hsn hb8 hxc hxk hxkk hxn hbx hx9 hb79 hw9 HRD
  rw [HW9.out] at x0 x1 x2 x3 t0 t1 t2 t3
  go_wp2_with fail
  rw [← HW9.out]
  refine HSN.out.mono ?_
  rintro e w10 ⟨rfl, hb10⟩
  have HB10 := Lib.hid (HB9.out.trans (hb10.mono HB9.out.size))
  have HK10 := Lib.hid (And.intro ((hb10.block _ (lt_of_heap HK9.out.1)).trans HK9.out.1) ((hb10.block _ (lt_of_heap HK9.out.2)).trans HK9.out.2))
  clear hb10 x0 x1 x2 x3 t0 t1 t2 t3 HSN
  go_wp2_with fail
  have hq1 := show_same t u
  have hq2 := bytes_same t u HIN.out.1 HIN.out.2.1
  obtain ⟨b, hbb⟩ : ∃ b, b = sameT t u := ⟨_, rfl⟩
  rw [← hbb] at hq1 hq2
  obtain ⟨s1, hs1⟩ : ∃ s : ByteArray, s = ⟨(showT t).toArray⟩ := ⟨_, rfl⟩
  obtain ⟨s2, hs2⟩ : ∃ s : ByteArray, s = ⟨(showT u).toArray⟩ := ⟨_, rfl⟩
  obtain ⟨s3, hs3⟩ : ∃ s : ByteArray, s = ⟨(encT t).toArray⟩ := ⟨_, rfl⟩
  obtain ⟨s4, hs4⟩ : ∃ s : ByteArray, s = ⟨(encT u).toArray⟩ := ⟨_, rfl⟩
  have tl : ∀ l : List UInt8, (⟨l.toArray⟩ : ByteArray).toList = l := fun l => by rw [ByteArray.toList_eq]
  have hq3 : (s1.toList == s2.toList) = b := by rw [hs1, hs2, tl, tl, hq1]; rw [Bool.eq_iff_iff, beq_iff_eq, decide_eq_true_iff]
  have hq4 : (s3.toList == s4.toList) = b := by rw [hs3, hs4, tl, tl, hq2]; rw [Bool.eq_iff_iff, beq_iff_eq, decide_eq_true_iff]
  have HTX := Lib.hid (And.intro hs1.symm (And.intro hs2.symm (And.intro hs3.symm hs4.symm)))
  have HQ := Lib.hid (And.intro hq3 hq4)
  have HBX := Lib.hid (fun (X : World) (h : Below w10.heap.size w10 X) => And.intro (box4 ((h.block _ (lt_of_heap HK10.out.1)).trans HK10.out.1)) (box4 ((h.block _ (lt_of_heap HK10.out.2)).trans HK10.out.2)))
  have HSB := Lib.hid hbb.symm
  clear hq1 hq2 hq3 hq4 hs1 hs2 hs3 hs4 tl hbb
  refine wp_region_held_drew (S := fun X => Below w10.heap.size w10 X) (by kernel_rfl) (below_drewN (Below.refl _ w10) 1) (fun hHeld => ?_)
  refine wpAnyH_take (i := 0) (oi := _) (v := .agg #[.int .i64 t.id, .int .i64 t.kind, .string t.text, .slice ka nk tc]) rfl (by kernel_rfl) (by kernel_rfl) (by kernel_rfl) (fun _ _ _ h => h) (Or.inl ⟨by rfl, ?_⟩) (by assumption) ?_
  · clear hHeld; intro X hSw; obtain ⟨⟨a0, a1, a2, a3⟩, ⟨b0, b1, b2, b3⟩⟩ := HBX.out X hSw; clear hSw; go_simp
  simp only [Act.put, List.getElem_toArray, List.getElem_cons_zero, List.getElem_cons_succ, List.setIfInBounds_toArray, List.set_cons_zero, List.set_cons_succ]
  refine wpAnyH_take (i := 1) (oi := _) (v := .agg #[.int .i64 u.id, .int .i64 u.kind, .string u.text, .slice kb un uc]) rfl (by kernel_rfl) (by kernel_rfl) (by kernel_rfl) (fun _ _ _ h => h) (Or.inl ⟨by rfl, ?_⟩) (by assumption) ?_
  · clear hHeld; intro X hSw; obtain ⟨⟨a0, a1, a2, a3⟩, ⟨b0, b1, b2, b3⟩⟩ := HBX.out X hSw; clear hSw; go_simp
  simp only [Act.put, List.getElem_toArray, List.getElem_cons_zero, List.getElem_cons_succ, List.setIfInBounds_toArray, List.set_cons_zero, List.set_cons_succ]
  refine wpAnyH_take (i := 3) (oi := _) (v := .agg #[.int .i64 t.id, .int .i64 t.kind, .string t.text, .slice ka nk tc]) rfl (by kernel_rfl) (by kernel_rfl) (by kernel_rfl) (fun _ _ _ h => h) (Or.inl ⟨by rfl, ?_⟩) (by assumption) ?_
  · clear hHeld; intro X hSw; obtain ⟨⟨a0, a1, a2, a3⟩, ⟨b0, b1, b2, b3⟩⟩ := HBX.out X hSw; clear hSw; go_simp
  simp only [Act.put, List.getElem_toArray, List.getElem_cons_zero, List.getElem_cons_succ, List.setIfInBounds_toArray, List.set_cons_zero, List.set_cons_succ]
  refine wpAnyH_take (i := 5) (oi := _) (v := .agg #[.int .i64 u.id, .int .i64 u.kind, .string u.text, .slice kb un uc]) rfl (by kernel_rfl) (by kernel_rfl) (by kernel_rfl) (fun _ _ _ h => h) (Or.inl ⟨by rfl, ?_⟩) (by assumption) ?_
  · clear hHeld; intro X hSw; obtain ⟨⟨a0, a1, a2, a3⟩, ⟨b0, b1, b2, b3⟩⟩ := HBX.out X hSw; clear hSw; go_simp
  simp only [Act.put, List.getElem_toArray, List.getElem_cons_zero, List.getElem_cons_succ, List.setIfInBounds_toArray, List.set_cons_zero, List.set_cons_succ]
  refine wpAnyH_ready (rs := [2]) (by kernel_rfl) (by simp) ?_
  refine AllReadyH.cons (o := _) rfl (fun K hK => ?_) (AllReadyH.nil)
  rw [if_pos (by rfl)]
  simp only [List.getElem_toArray, List.getElem_cons_zero, List.getElem_cons_succ]
  have HK := Lib.hid hK
  have HS := Lib.hid hHeld
  clear hK hHeld
  go_wp2_with (go_at_call 14; refine (HSM.out HS1.out.1 HS1.out.2 _ (HB10.out.trans (HS.out.mono HB10.out.size))).mono ?_; rintro e y2 ⟨rfl, hb⟩; rw [HSB.out]; have HY2 := Lib.hid (HS.out.trans (hb.mono HS.out.size)); have HL2 := Lib.hid hb; clear hb)
  refine HK.out _ _ HY2.out (fun hHeld => ?_)
  clear HK HS
  refine wpAnyH_ready (rs := [4]) (by kernel_rfl) (by simp) ?_
  refine AllReadyH.cons (o := _) rfl (fun K hK => ?_) (AllReadyH.nil)
  rw [if_pos (by rfl)]
  simp only [List.getElem_toArray, List.getElem_cons_zero, List.getElem_cons_succ]
  have HK := Lib.hid hK
  have HS := Lib.hid hHeld
  clear hK hHeld
  go_wp2_with (go_at_call 15; refine (HST.out HS1.out.1 _ (HB10.out.trans (HS.out.mono HB10.out.size))).mono ?_; rintro e y4 ⟨rfl, hb⟩; rw [HTX.out.1]; have HY4 := Lib.hid (HS.out.trans (hb.mono HS.out.size)); have HL4 := Lib.hid hb; clear hb)
  refine HK.out _ _ HY4.out (fun hHeld => ?_)
  clear HK HS
  refine wpAnyH_ready (rs := [6]) (by kernel_rfl) (by simp) ?_
  refine AllReadyH.cons (o := _) rfl (fun K hK => ?_) (AllReadyH.nil)
  rw [if_pos (by rfl)]
  simp only [List.getElem_toArray, List.getElem_cons_zero, List.getElem_cons_succ]
  have HK := Lib.hid hK
  have HS := Lib.hid hHeld
  clear hK hHeld
  go_wp2_with (go_at_call 15; refine (HSU.out HS1.out.2 _ (HB10.out.trans (HS.out.mono HB10.out.size))).mono ?_; rintro e y6 ⟨rfl, hb⟩; rw [HTX.out.2.1]; have HY6 := Lib.hid (HS.out.trans (hb.mono HS.out.size)); have HL6 := Lib.hid hb; clear hb)
  refine HK.out _ _ HY6.out (fun hHeld => ?_)
  clear HK HS
  refine wpAnyH_take (i := 7) (oi := _) (v := .bool b) rfl (by kernel_rfl) (by kernel_rfl) (by kernel_rfl) (fun _ _ _ h => h) (Or.inl ⟨by rfl, ?_⟩) (by assumption) ?_
  · clear hHeld; intro X hSw; clear hSw; go_simp; exact HQ.out.1
  simp only [Act.put, List.getElem_toArray, List.getElem_cons_zero, List.getElem_cons_succ, List.setIfInBounds_toArray, List.set_cons_zero, List.set_cons_succ]
  refine wpAnyH_take (i := 8) (oi := _) (v := .bool false) rfl (by kernel_rfl) (by kernel_rfl) (by kernel_rfl) (fun _ _ _ h => h) (Or.inl ⟨by rfl, ?_⟩) (by assumption) ?_
  · clear hHeld; intro X hSw; clear hSw; go_simp
  simp only [Act.put, List.getElem_toArray, List.getElem_cons_zero, List.getElem_cons_succ, List.setIfInBounds_toArray, List.set_cons_zero, List.set_cons_succ]
  refine wpAnyH_take (i := 9) (oi := _) (v := .bool false) rfl (by kernel_rfl) (by kernel_rfl) (by kernel_rfl) (fun _ _ _ h => h) (Or.inl ⟨by rfl, ?_⟩) (by assumption) ?_
  · clear hHeld; intro X hSw; clear hSw; go_simp
  simp only [Act.put, List.getElem_toArray, List.getElem_cons_zero, List.getElem_cons_succ, List.setIfInBounds_toArray, List.set_cons_zero, List.set_cons_succ]
  refine wpAnyH_take (i := 10) (oi := _) (v := .agg #[.int .i64 t.id, .int .i64 t.kind, .string t.text, .slice ka nk tc]) rfl (by kernel_rfl) (by kernel_rfl) (by kernel_rfl) (fun _ _ _ h => h) (Or.inl ⟨by rfl, ?_⟩) (by assumption) ?_
  · clear hHeld; intro X hSw; obtain ⟨⟨a0, a1, a2, a3⟩, ⟨b0, b1, b2, b3⟩⟩ := HBX.out X hSw; clear hSw; go_simp
  simp only [Act.put, List.getElem_toArray, List.getElem_cons_zero, List.getElem_cons_succ, List.setIfInBounds_toArray, List.set_cons_zero, List.set_cons_succ]
  refine wpAnyH_take (i := 11) (oi := _) (v := .agg #[.int .i64 u.id, .int .i64 u.kind, .string u.text, .slice kb un uc]) rfl (by kernel_rfl) (by kernel_rfl) (by kernel_rfl) (fun _ _ _ h => h) (Or.inl ⟨by rfl, ?_⟩) (by assumption) ?_
  · clear hHeld; intro X hSw; obtain ⟨⟨a0, a1, a2, a3⟩, ⟨b0, b1, b2, b3⟩⟩ := HBX.out X hSw; clear hSw; go_simp
  simp only [Act.put, List.getElem_toArray, List.getElem_cons_zero, List.getElem_cons_succ, List.setIfInBounds_toArray, List.set_cons_zero, List.set_cons_succ]
  refine wpAnyH_take (i := 13) (oi := _) (v := .agg #[.int .i64 t.id, .int .i64 t.kind, .string t.text, .slice ka nk tc]) rfl (by kernel_rfl) (by kernel_rfl) (by kernel_rfl) (fun _ _ _ h => h) (Or.inl ⟨by rfl, ?_⟩) (by assumption) ?_
  · clear hHeld; intro X hSw; obtain ⟨⟨a0, a1, a2, a3⟩, ⟨b0, b1, b2, b3⟩⟩ := HBX.out X hSw; clear hSw; go_simp
  simp only [Act.put, List.getElem_toArray, List.getElem_cons_zero, List.getElem_cons_succ, List.setIfInBounds_toArray, List.set_cons_zero, List.set_cons_succ]
  refine wpAnyH_take (i := 16) (oi := _) (v := .agg #[.int .i64 u.id, .int .i64 u.kind, .string u.text, .slice kb un uc]) rfl (by kernel_rfl) (by kernel_rfl) (by kernel_rfl) (fun _ _ _ h => h) (Or.inl ⟨by rfl, ?_⟩) (by assumption) ?_
  · clear hHeld; intro X hSw; obtain ⟨⟨a0, a1, a2, a3⟩, ⟨b0, b1, b2, b3⟩⟩ := HBX.out X hSw; clear hSw; go_simp
  simp only [Act.put, List.getElem_toArray, List.getElem_cons_zero, List.getElem_cons_succ, List.setIfInBounds_toArray, List.set_cons_zero, List.set_cons_succ]
  refine wpAnyH_ready (rs := [12]) (by kernel_rfl) (by simp) ?_
  refine AllReadyH.cons (o := _) rfl (fun K hK => ?_) (AllReadyH.nil)
  rw [if_pos (by rfl)]
  simp only [List.getElem_toArray, List.getElem_cons_zero, List.getElem_cons_succ]
  have HK := Lib.hid hK
  have HS := Lib.hid hHeld
  clear hK hHeld
  go_wp2_with (go_at_call 14; refine (HSM.out HS1.out.1 HS1.out.2 _ (HB10.out.trans (HS.out.mono HB10.out.size))).mono ?_; rintro e y12 ⟨rfl, hb⟩; rw [HSB.out]; have HY12 := Lib.hid (HS.out.trans (hb.mono HS.out.size)); have HL12 := Lib.hid hb; clear hb)
  refine HK.out _ _ HY12.out (fun hHeld => ?_)
  clear HK HS
  refine wpAnyH_ready (rs := [14]) (by kernel_rfl) (by simp) ?_
  refine AllReadyH.cons (o := _) rfl (fun K hK => ?_) (AllReadyH.nil)
  rw [if_pos (by rfl)]
  simp only [List.getElem_toArray, List.getElem_cons_zero, List.getElem_cons_succ]
  have HK := Lib.hid hK
  have HS := Lib.hid hHeld
  clear hK hHeld
  go_wp2_with (go_at_call 10; refine (HYT.out _ (HB10.out.trans (HS.out.mono HB10.out.size))).mono ?_; rintro e y14 ⟨a1, n1, c1, rfl, hn1, hby1, hb⟩; have HC1 := Lib.hid (And.intro hn1 hby1); clear hn1 hby1; have HY14 := Lib.hid (HS.out.trans (hb.mono HS.out.size)); have HL14 := Lib.hid hb; clear hb)
  refine HK.out _ _ HY14.out (fun hHeld => ?_)
  clear HK HS
  refine wpAnyH_ready (rs := [15, 17]) (by kernel_rfl) (by simp) ?_
  refine AllReadyH.cons (o := _) rfl (fun K hK => ?_) (AllReadyH.cons (o := _) rfl (fun K hK => ?_) (AllReadyH.nil))
  · rw [if_pos (by rfl)]
    simp only [List.getElem_toArray, List.getElem_cons_zero, List.getElem_cons_succ]
    have HK := Lib.hid hK
    have HS := Lib.hid hHeld
    clear hK hHeld
    have hcv := ByAt.conv (cap := c1) (HC1.out.2) HC1.out.1
    rw [HTX.out.2.2.1] at hcv
    go_wp2_with fail
    refine HK.out _ _ HS.out (fun hHeld => ?_)
    clear HK HS hcv
    refine wpAnyH_ready (rs := [17]) (by kernel_rfl) (by simp) ?_
    refine AllReadyH.cons (o := _) rfl (fun K hK => ?_) (AllReadyH.nil)
    rw [if_pos (by rfl)]
    simp only [List.getElem_toArray, List.getElem_cons_zero, List.getElem_cons_succ]
    have HK := Lib.hid hK
    have HS := Lib.hid hHeld
    clear hK hHeld
    go_wp2_with (go_at_call 10; refine (HYU.out _ (HB10.out.trans (HS.out.mono HB10.out.size))).mono ?_; rintro e y17 ⟨a2, n2, c2, rfl, hn2, hby2, hb⟩; have HC2 := Lib.hid (And.intro hn2 hby2); clear hn2 hby2; have HY17 := Lib.hid (HS.out.trans (hb.mono HS.out.size)); have HL17 := Lib.hid hb; clear hb)
    refine HK.out _ _ HY17.out (fun hHeld => ?_)
    clear HK HS
    refine wpAnyH_ready (rs := [18]) (by kernel_rfl) (by simp) ?_
    refine AllReadyH.cons (o := _) rfl (fun K hK => ?_) (AllReadyH.nil)
    rw [if_pos (by rfl)]
    simp only [List.getElem_toArray, List.getElem_cons_zero, List.getElem_cons_succ]
    have HK := Lib.hid hK
    have HS := Lib.hid hHeld
    clear hK hHeld
    have hcv := ByAt.conv (cap := c2) (HC2.out.2) HC2.out.1
    rw [HTX.out.2.2.2] at hcv
    go_wp2_with fail
    refine HK.out _ _ HS.out (fun hHeld => ?_)
    clear HK HS hcv
    refine wpAnyH_take (i := 19) (oi := _) (v := .bool b) rfl (by kernel_rfl) (by kernel_rfl) (by kernel_rfl) (fun _ _ _ h => h) (Or.inl ⟨by rfl, ?_⟩) (by assumption) ?_
    · clear hHeld; intro X hSw; clear hSw; go_simp; exact HQ.out.2
    simp only [Act.put, List.getElem_toArray, List.getElem_cons_zero, List.getElem_cons_succ, List.setIfInBounds_toArray, List.set_cons_zero, List.set_cons_succ]
    refine wpAnyH_take (i := 20) (oi := _) (v := .bool false) rfl (by kernel_rfl) (by kernel_rfl) (by kernel_rfl) (fun _ _ _ h => h) (Or.inl ⟨by rfl, ?_⟩) (by assumption) ?_
    · clear hHeld; intro X hSw; clear hSw; go_simp
    simp only [Act.put, List.getElem_toArray, List.getElem_cons_zero, List.getElem_cons_succ, List.setIfInBounds_toArray, List.set_cons_zero, List.set_cons_succ]
    refine wpAnyH_take (i := 21) (oi := _) (v := .bool false) rfl (by kernel_rfl) (by kernel_rfl) (by kernel_rfl) (fun _ _ _ h => h) (Or.inl ⟨by rfl, ?_⟩) (by assumption) ?_
    · clear hHeld; intro X hSw; clear hSw; go_simp
    simp only [Act.put, List.getElem_toArray, List.getElem_cons_zero, List.getElem_cons_succ, List.setIfInBounds_toArray, List.set_cons_zero, List.set_cons_succ]
    refine wpAnyH_done (by kernel_rfl) ?_ _
    have HBA := Lib.hid (HB10.out.trans (hHeld.mono HB10.out.size))
    clear hHeld HBX HC1 HC2 HL17 HL14 HY14 HY17
    go_wp2_with fail
    refine (HRB.out _ HBA.out).mono ?_
    obtain ⟨r, hr⟩ : ∃ r, r = readT bs := ⟨_, rfl⟩
    rw [← hr]
    obtain ⟨y, at_, er⟩ := r
    rintro e w12 ⟨v12, rfl, ⟨ya, yc, rfl, hyc, hyk⟩, hb12⟩
    simp only at hyc hyk ⊢
    have HBB := Lib.hid (HBA.out.trans (hb12.mono HBA.out.size))
    by_cases her : er = 0
    · subst her
      have hg := readT_good hr.symm
      have hfit := readT_fit bs (by omega)
      rw [← hr] at hfit
      simp only at hfit
      obtain ⟨um, hum⟩ : ∃ um, um = foLen y.kids := ⟨_, rfl⟩
      rw [← hum] at hyc ⊢
      obtain ⟨X1, hX1⟩ : ∃ X1, X1 = w12.alloc (.cells #[.int .i64 y.id, .int .i64 y.kind, .string y.text, .slice ya um yc] 25) := ⟨_, rfl⟩
      have hbx1 : Below w12.heap.size w12 X1 := by rw [hX1]; exact bx_below _ _
      have hx1 : X1.heap[w12.heap.size]? = some (.cells #[.int .i64 y.id, .int .i64 y.kind, .string y.text, .slice ya um yc] 25 (0, 0)) := by rw [hX1]; exact heap_alloc_new w12 _
      have HBC := Lib.hid (HBB.out.trans (hbx1.mono HBB.out.size))
      have HYB : Hid (∀ X, Below X1.heap.size X1 X → Calls Tryd.prog 10 #[.agg #[.int .i64 y.id, .int .i64 y.kind, .string y.text, .slice ya um yc]] X (NewB X bs)) := Lib.hid fun X hX => by
        have h := tbytes_any X (fun z => z < w12.heap.size) (.agg #[.int .i64 y.id, .int .i64 y.kind, .string y.text, .slice ya um yc]) y (fun z hz => Nat.lt_of_lt_of_le hz (Nat.le_trans hbx1.size hX.size)) ⟨ya, yc, by rw [hum], by rw [← hum]; exact hyc, hyk.kept (w' := X) (S' := fun z => z < w12.heap.size) (fun z hz => ⟨hz.2, (hX.block z (Nat.lt_of_lt_of_le hz.2 hbx1.size)).trans (hbx1.block z hz.2)⟩)⟩ (by rw [hg.1]; omega)
        rw [hg.1] at h
        exact h
      have HBX := Lib.hid (fun (X : World) (h : Below X1.heap.size X1 X) => box4 ((h.block _ (lt_of_heap hx1)).trans hx1))
      have HXE := Lib.hid hX1
      obtain ⟨st, hst⟩ : ∃ st : ByteArray, st = ⟨bs.toArray⟩ := ⟨_, rfl⟩
      have HS5 := Lib.hid hst.symm
      clear hst hr hg hfit hyc hyk hum hbx1 hx1 hX1 hb12
      go_wp2_with fail
      rw [← HXE.out]
      refine wp_region_held_drew (S := fun X => Below X1.heap.size X1 X) (by kernel_rfl) (below_drewN (Below.refl _ X1) 1) (fun hHeld => ?_)
      refine wpAnyH_take (i := 0) (oi := _) (v := .agg #[.int .i64 y.id, .int .i64 y.kind, .string y.text, .slice ya um yc]) rfl (by kernel_rfl) (by kernel_rfl) (by kernel_rfl) (fun _ _ _ h => h) (Or.inl ⟨by rfl, ?_⟩) (by assumption) ?_
      · clear hHeld; intro X hSw; obtain ⟨a0, a1, a2, a3⟩ := HBX.out X hSw; clear hSw; go_simp
      simp only [Act.put, List.getElem_toArray, List.getElem_cons_zero, List.getElem_cons_succ, List.setIfInBounds_toArray, List.set_cons_zero, List.set_cons_succ]
      refine wpAnyH_take (i := 3) (oi := _) (v := .slice ba n bc) rfl (by kernel_rfl) (by kernel_rfl) (by kernel_rfl) (fun _ _ _ h => h) (Or.inl ⟨by rfl, ?_⟩) (by assumption) ?_
      · clear hHeld; intro X hSw; clear hSw; go_simp
      simp only [Act.put, List.getElem_toArray, List.getElem_cons_zero, List.getElem_cons_succ, List.setIfInBounds_toArray, List.set_cons_zero, List.set_cons_succ]
      refine wpAnyH_ready (rs := [1, 4]) (by kernel_rfl) (by simp) ?_
      refine AllReadyH.cons (o := _) rfl (fun K hK => ?_) (AllReadyH.cons (o := _) rfl (fun K hK => ?_) (AllReadyH.nil))
      · rw [if_pos (by rfl)]
        simp only [List.getElem_toArray, List.getElem_cons_zero, List.getElem_cons_succ]
        have HK := Lib.hid hK
        have HS := Lib.hid hHeld
        clear hK hHeld
        go_wp2_with (go_at_call 10; refine (HYB.out _ HS.out).mono ?_; rintro e y1 ⟨a2, n2, c2, rfl, hn2, hby2, hb⟩; have HC2 := Lib.hid (And.intro hn2 hby2); clear hn2 hby2; have HY1 := Lib.hid (HS.out.trans (hb.mono HS.out.size)); have HL1 := Lib.hid hb; clear hb)
        refine HK.out _ _ HY1.out (fun hHeld => ?_)
        clear HK HS
        refine wpAnyH_ready (rs := [2, 4]) (by kernel_rfl) (by simp) ?_
        refine AllReadyH.cons (o := _) rfl (fun K hK => ?_) (AllReadyH.cons (o := _) rfl (fun K hK => ?_) (AllReadyH.nil))
        · rw [if_pos (by rfl)]
          simp only [List.getElem_toArray, List.getElem_cons_zero, List.getElem_cons_succ]
          have HK := Lib.hid hK
          have HS := Lib.hid hHeld
          clear hK hHeld
          have hcv := ByAt.conv (cap := c2) (HC2.out.2) HC2.out.1
          rw [HS5.out] at hcv
          go_wp2_with fail
          refine HK.out _ _ HS.out (fun hHeld => ?_)
          clear HK HS hcv
          refine wpAnyH_ready (rs := [4]) (by kernel_rfl) (by simp) ?_
          refine AllReadyH.cons (o := _) rfl (fun K hK => ?_) (AllReadyH.nil)
          rw [if_pos (by rfl)]
          simp only [List.getElem_toArray, List.getElem_cons_zero, List.getElem_cons_succ]
          have HK := Lib.hid hK
          have HS := Lib.hid hHeld
          clear hK hHeld
          have hcv := ByAt.conv (cap := bc) (HBYI.out.2 _ (HBC.out.trans (HS.out.mono HBC.out.size))) HBYI.out.1
          rw [HS5.out] at hcv
          go_wp2_with fail
          refine HK.out _ _ HS.out (fun hHeld => ?_)
          clear HK HS hcv
          refine wpAnyH_take (i := 5) (oi := _) (v := .bool true) rfl (by kernel_rfl) (by kernel_rfl) (by kernel_rfl) (fun _ _ _ h => h) (Or.inl ⟨by rfl, ?_⟩) (by assumption) ?_
          · clear hHeld; intro X hSw; clear hSw; go_simp
          simp only [Act.put, List.getElem_toArray, List.getElem_cons_zero, List.getElem_cons_succ, List.setIfInBounds_toArray, List.set_cons_zero, List.set_cons_succ]
          refine wpAnyH_take (i := 6) (oi := _) (v := .bool true) rfl (by kernel_rfl) (by kernel_rfl) (by kernel_rfl) (fun _ _ _ h => h) (Or.inl ⟨by rfl, ?_⟩) (by assumption) ?_
          · clear hHeld; intro X hSw; clear hSw; go_simp
          simp only [Act.put, List.getElem_toArray, List.getElem_cons_zero, List.getElem_cons_succ, List.setIfInBounds_toArray, List.set_cons_zero, List.set_cons_succ]
          refine wpAnyH_ready (rs := [7]) (by kernel_rfl) (by simp) ?_
          refine AllReadyH.cons (o := _) rfl (fun K hK => ?_) (AllReadyH.nil)
          rw [if_pos (by rfl)]
          simp only [List.getElem_toArray, List.getElem_cons_zero, List.getElem_cons_succ]
          have HK := Lib.hid hK
          have HS := Lib.hid hHeld
          clear hK hHeld
          go_wp2_with (go_at_call 6; refine (wakes_any _ (HTAB.out _ (HBC.out.trans (HS.out.mono HBC.out.size)))).mono ?_; rintro e y7 ⟨rfl, hb⟩; skip; have HY7 := Lib.hid (HS.out.trans (hb.mono HS.out.size)); have HL7 := Lib.hid hb; clear hb)
          refine HK.out _ _ HY7.out (fun hHeld => ?_)
          clear HK HS
          refine wpAnyH_take (i := 8) (oi := _) (v := .bool true) rfl (by kernel_rfl) (by kernel_rfl) (by kernel_rfl) (fun _ _ _ h => h) (Or.inl ⟨by rfl, ?_⟩) (by assumption) ?_
          · clear hHeld; intro X hSw; clear hSw; go_simp
          simp only [Act.put, List.getElem_toArray, List.getElem_cons_zero, List.getElem_cons_succ, List.setIfInBounds_toArray, List.set_cons_zero, List.set_cons_succ]
          refine wpAnyH_take (i := 9) (oi := _) (v := .bool true) rfl (by kernel_rfl) (by kernel_rfl) (by kernel_rfl) (fun _ _ _ h => h) (Or.inl ⟨by rfl, ?_⟩) (by assumption) ?_
          · clear hHeld; intro X hSw; clear hSw; go_simp
          simp only [Act.put, List.getElem_toArray, List.getElem_cons_zero, List.getElem_cons_succ, List.setIfInBounds_toArray, List.set_cons_zero, List.set_cons_succ]
          refine wpAnyH_done (by kernel_rfl) ?_ _
          clear hHeld
          go_wp2_with fail
          go_ret
          exact ⟨rfl, HBC.out.trans (HY7.out.mono HBC.out.size)⟩
        · rw [if_pos (by rfl)]
          simp only [List.getElem_toArray, List.getElem_cons_zero, List.getElem_cons_succ]
          have HK := Lib.hid hK
          have HS := Lib.hid hHeld
          clear hK hHeld
          have hcv := ByAt.conv (cap := bc) (HBYI.out.2 _ (HBC.out.trans (HS.out.mono HBC.out.size))) HBYI.out.1
          rw [HS5.out] at hcv
          go_wp2_with fail
          refine HK.out _ _ HS.out (fun hHeld => ?_)
          clear HK HS hcv
          refine wpAnyH_ready (rs := [2]) (by kernel_rfl) (by simp) ?_
          refine AllReadyH.cons (o := _) rfl (fun K hK => ?_) (AllReadyH.nil)
          rw [if_pos (by rfl)]
          simp only [List.getElem_toArray, List.getElem_cons_zero, List.getElem_cons_succ]
          have HK := Lib.hid hK
          have HS := Lib.hid hHeld
          clear hK hHeld
          have hcv := ByAt.conv (cap := c2) (HC2.out.2) HC2.out.1
          rw [HS5.out] at hcv
          go_wp2_with fail
          refine HK.out _ _ HS.out (fun hHeld => ?_)
          clear HK HS hcv
          refine wpAnyH_take (i := 5) (oi := _) (v := .bool true) rfl (by kernel_rfl) (by kernel_rfl) (by kernel_rfl) (fun _ _ _ h => h) (Or.inl ⟨by rfl, ?_⟩) (by assumption) ?_
          · clear hHeld; intro X hSw; clear hSw; go_simp
          simp only [Act.put, List.getElem_toArray, List.getElem_cons_zero, List.getElem_cons_succ, List.setIfInBounds_toArray, List.set_cons_zero, List.set_cons_succ]
          refine wpAnyH_take (i := 6) (oi := _) (v := .bool true) rfl (by kernel_rfl) (by kernel_rfl) (by kernel_rfl) (fun _ _ _ h => h) (Or.inl ⟨by rfl, ?_⟩) (by assumption) ?_
          · clear hHeld; intro X hSw; clear hSw; go_simp
          simp only [Act.put, List.getElem_toArray, List.getElem_cons_zero, List.getElem_cons_succ, List.setIfInBounds_toArray, List.set_cons_zero, List.set_cons_succ]
          refine wpAnyH_ready (rs := [7]) (by kernel_rfl) (by simp) ?_
          refine AllReadyH.cons (o := _) rfl (fun K hK => ?_) (AllReadyH.nil)
          rw [if_pos (by rfl)]
          simp only [List.getElem_toArray, List.getElem_cons_zero, List.getElem_cons_succ]
          have HK := Lib.hid hK
          have HS := Lib.hid hHeld
          clear hK hHeld
          go_wp2_with (go_at_call 6; refine (wakes_any _ (HTAB.out _ (HBC.out.trans (HS.out.mono HBC.out.size)))).mono ?_; rintro e y7 ⟨rfl, hb⟩; skip; have HY7 := Lib.hid (HS.out.trans (hb.mono HS.out.size)); have HL7 := Lib.hid hb; clear hb)
          refine HK.out _ _ HY7.out (fun hHeld => ?_)
          clear HK HS
          refine wpAnyH_take (i := 8) (oi := _) (v := .bool true) rfl (by kernel_rfl) (by kernel_rfl) (by kernel_rfl) (fun _ _ _ h => h) (Or.inl ⟨by rfl, ?_⟩) (by assumption) ?_
          · clear hHeld; intro X hSw; clear hSw; go_simp
          simp only [Act.put, List.getElem_toArray, List.getElem_cons_zero, List.getElem_cons_succ, List.setIfInBounds_toArray, List.set_cons_zero, List.set_cons_succ]
          refine wpAnyH_take (i := 9) (oi := _) (v := .bool true) rfl (by kernel_rfl) (by kernel_rfl) (by kernel_rfl) (fun _ _ _ h => h) (Or.inl ⟨by rfl, ?_⟩) (by assumption) ?_
          · clear hHeld; intro X hSw; clear hSw; go_simp
          simp only [Act.put, List.getElem_toArray, List.getElem_cons_zero, List.getElem_cons_succ, List.setIfInBounds_toArray, List.set_cons_zero, List.set_cons_succ]
          refine wpAnyH_done (by kernel_rfl) ?_ _
          clear hHeld
          go_wp2_with fail
          go_ret
          exact ⟨rfl, HBC.out.trans (HY7.out.mono HBC.out.size)⟩
      · rw [if_pos (by rfl)]
        simp only [List.getElem_toArray, List.getElem_cons_zero, List.getElem_cons_succ]
        have HK := Lib.hid hK
        have HS := Lib.hid hHeld
        clear hK hHeld
        have hcv := ByAt.conv (cap := bc) (HBYI.out.2 _ (HBC.out.trans (HS.out.mono HBC.out.size))) HBYI.out.1
        rw [HS5.out] at hcv
        go_wp2_with fail
        refine HK.out _ _ HS.out (fun hHeld => ?_)
        clear HK HS hcv
        refine wpAnyH_ready (rs := [1]) (by kernel_rfl) (by simp) ?_
        refine AllReadyH.cons (o := _) rfl (fun K hK => ?_) (AllReadyH.nil)
        rw [if_pos (by rfl)]
        simp only [List.getElem_toArray, List.getElem_cons_zero, List.getElem_cons_succ]
        have HK := Lib.hid hK
        have HS := Lib.hid hHeld
        clear hK hHeld
        go_wp2_with (go_at_call 10; refine (HYB.out _ HS.out).mono ?_; rintro e y1 ⟨a2, n2, c2, rfl, hn2, hby2, hb⟩; have HC2 := Lib.hid (And.intro hn2 hby2); clear hn2 hby2; have HY1 := Lib.hid (HS.out.trans (hb.mono HS.out.size)); have HL1 := Lib.hid hb; clear hb)
        refine HK.out _ _ HY1.out (fun hHeld => ?_)
        clear HK HS
        refine wpAnyH_ready (rs := [2]) (by kernel_rfl) (by simp) ?_
        refine AllReadyH.cons (o := _) rfl (fun K hK => ?_) (AllReadyH.nil)
        rw [if_pos (by rfl)]
        simp only [List.getElem_toArray, List.getElem_cons_zero, List.getElem_cons_succ]
        have HK := Lib.hid hK
        have HS := Lib.hid hHeld
        clear hK hHeld
        have hcv := ByAt.conv (cap := c2) (HC2.out.2) HC2.out.1
        rw [HS5.out] at hcv
        go_wp2_with fail
        refine HK.out _ _ HS.out (fun hHeld => ?_)
        clear HK HS hcv
        refine wpAnyH_take (i := 5) (oi := _) (v := .bool true) rfl (by kernel_rfl) (by kernel_rfl) (by kernel_rfl) (fun _ _ _ h => h) (Or.inl ⟨by rfl, ?_⟩) (by assumption) ?_
        · clear hHeld; intro X hSw; clear hSw; go_simp
        simp only [Act.put, List.getElem_toArray, List.getElem_cons_zero, List.getElem_cons_succ, List.setIfInBounds_toArray, List.set_cons_zero, List.set_cons_succ]
        refine wpAnyH_take (i := 6) (oi := _) (v := .bool true) rfl (by kernel_rfl) (by kernel_rfl) (by kernel_rfl) (fun _ _ _ h => h) (Or.inl ⟨by rfl, ?_⟩) (by assumption) ?_
        · clear hHeld; intro X hSw; clear hSw; go_simp
        simp only [Act.put, List.getElem_toArray, List.getElem_cons_zero, List.getElem_cons_succ, List.setIfInBounds_toArray, List.set_cons_zero, List.set_cons_succ]
        refine wpAnyH_ready (rs := [7]) (by kernel_rfl) (by simp) ?_
        refine AllReadyH.cons (o := _) rfl (fun K hK => ?_) (AllReadyH.nil)
        rw [if_pos (by rfl)]
        simp only [List.getElem_toArray, List.getElem_cons_zero, List.getElem_cons_succ]
        have HK := Lib.hid hK
        have HS := Lib.hid hHeld
        clear hK hHeld
        go_wp2_with (go_at_call 6; refine (wakes_any _ (HTAB.out _ (HBC.out.trans (HS.out.mono HBC.out.size)))).mono ?_; rintro e y7 ⟨rfl, hb⟩; skip; have HY7 := Lib.hid (HS.out.trans (hb.mono HS.out.size)); have HL7 := Lib.hid hb; clear hb)
        refine HK.out _ _ HY7.out (fun hHeld => ?_)
        clear HK HS
        refine wpAnyH_take (i := 8) (oi := _) (v := .bool true) rfl (by kernel_rfl) (by kernel_rfl) (by kernel_rfl) (fun _ _ _ h => h) (Or.inl ⟨by rfl, ?_⟩) (by assumption) ?_
        · clear hHeld; intro X hSw; clear hSw; go_simp
        simp only [Act.put, List.getElem_toArray, List.getElem_cons_zero, List.getElem_cons_succ, List.setIfInBounds_toArray, List.set_cons_zero, List.set_cons_succ]
        refine wpAnyH_take (i := 9) (oi := _) (v := .bool true) rfl (by kernel_rfl) (by kernel_rfl) (by kernel_rfl) (fun _ _ _ h => h) (Or.inl ⟨by rfl, ?_⟩) (by assumption) ?_
        · clear hHeld; intro X hSw; clear hSw; go_simp
        simp only [Act.put, List.getElem_toArray, List.getElem_cons_zero, List.getElem_cons_succ, List.setIfInBounds_toArray, List.set_cons_zero, List.set_cons_succ]
        refine wpAnyH_done (by kernel_rfl) ?_ _
        clear hHeld
        go_wp2_with fail
        go_ret
        exact ⟨rfl, HBC.out.trans (HY7.out.mono HBC.out.size)⟩
    · obtain ⟨hz, h0, h1⟩ := readT_bad hr.symm her
      rw [← HBYI.out.1] at h1
      subst hz
      clear hr hyk
      have e0 : (foLen zeroTC.kids : Nat) = 0 := rfl
      have e1 : zeroTC.id = 0 := rfl
      have e2 : zeroTC.kind = 0 := rfl
      have e3 : zeroTC.text = ⟨#[]⟩ := rfl
      rw [e0, e1, e2, e3]
      rw [e0] at hyc
      clear e0 e1 e2 e3
      obtain ⟨X1, hX1⟩ : ∃ X1, X1 = w12.alloc (.cells #[.int .i64 0, .int .i64 0, .string ⟨#[]⟩, .slice ya 0 yc] 25) := ⟨_, rfl⟩
      have hbx1 : Below w12.heap.size w12 X1 := by rw [hX1]; exact bx_below _ _
      have hx1 : X1.heap[w12.heap.size]? = some (.cells #[.int .i64 0, .int .i64 0, .string ⟨#[]⟩, .slice ya 0 yc] 25 (0, 0)) := by rw [hX1]; exact heap_alloc_new w12 _
      have HBC := Lib.hid (HBB.out.trans (hbx1.mono HBB.out.size))
      have HSN : Hid (Calls Tryd.prog 14 #[.agg #[.int .i64 0, .int .i64 0, .string ⟨#[]⟩, .slice ya 0 yc], .agg #[.int .i64 0, .int .i64 0, .string ⟨#[]⟩, .slice none 0 0]] X1 (SameC zeroTC zeroTC X1)) := Lib.hid (tsame_any X1 (fun _ => False) (fun _ => False) _ _ zeroTC zeroTC (fun _ h => h.elim) (fun _ h => h.elim) ⟨ya, yc, rfl, Nat.zero_le _, True.intro⟩ ⟨none, 0, rfl, Nat.le_refl _, True.intro⟩ (by decide) (by decide))
      obtain ⟨x0, x1, x2, x3⟩ := box4 hx1
      have HXE := Lib.hid hX1
      clear hyc hbx1 hx1 hX1 hb12
      rw [HXE.out] at x0 x1 x2 x3
      go_wp2_with fail
      rw [← HXE.out]
      refine HSN.out.mono ?_
      rintro e w13 ⟨rfl, hb13⟩
      rw [sameT_refl]
      have HBD := Lib.hid (HBC.out.trans (hb13.mono HBC.out.size))
      clear hb13 x0 x1 x2 x3 HSN
      go_wp2_with fail
      refine (wakes_any w13 (HTAB.out w13 HBD.out)).mono ?_
      rintro e w14 ⟨rfl, hb14⟩
      have HB14 := Lib.hid (HBD.out.trans (hb14.mono HBD.out.size))
      clear hb14
      go_wp2_with fail
      go_ret
      exact ⟨rfl, HB14.out⟩
  · rw [if_pos (by rfl)]
    simp only [List.getElem_toArray, List.getElem_cons_zero, List.getElem_cons_succ]
    have HK := Lib.hid hK
    have HS := Lib.hid hHeld
    clear hK hHeld
    go_wp2_with (go_at_call 10; refine (HYU.out _ (HB10.out.trans (HS.out.mono HB10.out.size))).mono ?_; rintro e y17 ⟨a2, n2, c2, rfl, hn2, hby2, hb⟩; have HC2 := Lib.hid (And.intro hn2 hby2); clear hn2 hby2; have HY17 := Lib.hid (HS.out.trans (hb.mono HS.out.size)); have HL17 := Lib.hid hb; clear hb)
    refine HK.out _ _ HY17.out (fun hHeld => ?_)
    clear HK HS
    refine wpAnyH_ready (rs := [15, 18]) (by kernel_rfl) (by simp) ?_
    refine AllReadyH.cons (o := _) rfl (fun K hK => ?_) (AllReadyH.cons (o := _) rfl (fun K hK => ?_) (AllReadyH.nil))
    · rw [if_pos (by rfl)]
      simp only [List.getElem_toArray, List.getElem_cons_zero, List.getElem_cons_succ]
      have HK := Lib.hid hK
      have HS := Lib.hid hHeld
      clear hK hHeld
      have hcv := ByAt.conv (cap := c1) (HC1.out.2.below HL17.out) HC1.out.1
      rw [HTX.out.2.2.1] at hcv
      go_wp2_with fail
      refine HK.out _ _ HS.out (fun hHeld => ?_)
      clear HK HS hcv
      refine wpAnyH_ready (rs := [18]) (by kernel_rfl) (by simp) ?_
      refine AllReadyH.cons (o := _) rfl (fun K hK => ?_) (AllReadyH.nil)
      rw [if_pos (by rfl)]
      simp only [List.getElem_toArray, List.getElem_cons_zero, List.getElem_cons_succ]
      have HK := Lib.hid hK
      have HS := Lib.hid hHeld
      clear hK hHeld
      have hcv := ByAt.conv (cap := c2) (HC2.out.2) HC2.out.1
      rw [HTX.out.2.2.2] at hcv
      go_wp2_with fail
      refine HK.out _ _ HS.out (fun hHeld => ?_)
      clear HK HS hcv
      refine wpAnyH_take (i := 19) (oi := _) (v := .bool b) rfl (by kernel_rfl) (by kernel_rfl) (by kernel_rfl) (fun _ _ _ h => h) (Or.inl ⟨by rfl, ?_⟩) (by assumption) ?_
      · clear hHeld; intro X hSw; clear hSw; go_simp; exact HQ.out.2
      simp only [Act.put, List.getElem_toArray, List.getElem_cons_zero, List.getElem_cons_succ, List.setIfInBounds_toArray, List.set_cons_zero, List.set_cons_succ]
      refine wpAnyH_take (i := 20) (oi := _) (v := .bool false) rfl (by kernel_rfl) (by kernel_rfl) (by kernel_rfl) (fun _ _ _ h => h) (Or.inl ⟨by rfl, ?_⟩) (by assumption) ?_
      · clear hHeld; intro X hSw; clear hSw; go_simp
      simp only [Act.put, List.getElem_toArray, List.getElem_cons_zero, List.getElem_cons_succ, List.setIfInBounds_toArray, List.set_cons_zero, List.set_cons_succ]
      refine wpAnyH_take (i := 21) (oi := _) (v := .bool false) rfl (by kernel_rfl) (by kernel_rfl) (by kernel_rfl) (fun _ _ _ h => h) (Or.inl ⟨by rfl, ?_⟩) (by assumption) ?_
      · clear hHeld; intro X hSw; clear hSw; go_simp
      simp only [Act.put, List.getElem_toArray, List.getElem_cons_zero, List.getElem_cons_succ, List.setIfInBounds_toArray, List.set_cons_zero, List.set_cons_succ]
      refine wpAnyH_done (by kernel_rfl) ?_ _
      have HBA := Lib.hid (HB10.out.trans (hHeld.mono HB10.out.size))
      clear hHeld HBX HC1 HC2 HL17 HL14 HY14 HY17
      go_wp2_with fail
      refine (HRB.out _ HBA.out).mono ?_
      obtain ⟨r, hr⟩ : ∃ r, r = readT bs := ⟨_, rfl⟩
      rw [← hr]
      obtain ⟨y, at_, er⟩ := r
      rintro e w12 ⟨v12, rfl, ⟨ya, yc, rfl, hyc, hyk⟩, hb12⟩
      simp only at hyc hyk ⊢
      have HBB := Lib.hid (HBA.out.trans (hb12.mono HBA.out.size))
      by_cases her : er = 0
      · subst her
        have hg := readT_good hr.symm
        have hfit := readT_fit bs (by omega)
        rw [← hr] at hfit
        simp only at hfit
        obtain ⟨um, hum⟩ : ∃ um, um = foLen y.kids := ⟨_, rfl⟩
        rw [← hum] at hyc ⊢
        obtain ⟨X1, hX1⟩ : ∃ X1, X1 = w12.alloc (.cells #[.int .i64 y.id, .int .i64 y.kind, .string y.text, .slice ya um yc] 25) := ⟨_, rfl⟩
        have hbx1 : Below w12.heap.size w12 X1 := by rw [hX1]; exact bx_below _ _
        have hx1 : X1.heap[w12.heap.size]? = some (.cells #[.int .i64 y.id, .int .i64 y.kind, .string y.text, .slice ya um yc] 25 (0, 0)) := by rw [hX1]; exact heap_alloc_new w12 _
        have HBC := Lib.hid (HBB.out.trans (hbx1.mono HBB.out.size))
        have HYB : Hid (∀ X, Below X1.heap.size X1 X → Calls Tryd.prog 10 #[.agg #[.int .i64 y.id, .int .i64 y.kind, .string y.text, .slice ya um yc]] X (NewB X bs)) := Lib.hid fun X hX => by
          have h := tbytes_any X (fun z => z < w12.heap.size) (.agg #[.int .i64 y.id, .int .i64 y.kind, .string y.text, .slice ya um yc]) y (fun z hz => Nat.lt_of_lt_of_le hz (Nat.le_trans hbx1.size hX.size)) ⟨ya, yc, by rw [hum], by rw [← hum]; exact hyc, hyk.kept (w' := X) (S' := fun z => z < w12.heap.size) (fun z hz => ⟨hz.2, (hX.block z (Nat.lt_of_lt_of_le hz.2 hbx1.size)).trans (hbx1.block z hz.2)⟩)⟩ (by rw [hg.1]; omega)
          rw [hg.1] at h
          exact h
        have HBX := Lib.hid (fun (X : World) (h : Below X1.heap.size X1 X) => box4 ((h.block _ (lt_of_heap hx1)).trans hx1))
        have HXE := Lib.hid hX1
        obtain ⟨st, hst⟩ : ∃ st : ByteArray, st = ⟨bs.toArray⟩ := ⟨_, rfl⟩
        have HS5 := Lib.hid hst.symm
        clear hst hr hg hfit hyc hyk hum hbx1 hx1 hX1 hb12
        go_wp2_with fail
        rw [← HXE.out]
        refine wp_region_held_drew (S := fun X => Below X1.heap.size X1 X) (by kernel_rfl) (below_drewN (Below.refl _ X1) 1) (fun hHeld => ?_)
        refine wpAnyH_take (i := 0) (oi := _) (v := .agg #[.int .i64 y.id, .int .i64 y.kind, .string y.text, .slice ya um yc]) rfl (by kernel_rfl) (by kernel_rfl) (by kernel_rfl) (fun _ _ _ h => h) (Or.inl ⟨by rfl, ?_⟩) (by assumption) ?_
        · clear hHeld; intro X hSw; obtain ⟨a0, a1, a2, a3⟩ := HBX.out X hSw; clear hSw; go_simp
        simp only [Act.put, List.getElem_toArray, List.getElem_cons_zero, List.getElem_cons_succ, List.setIfInBounds_toArray, List.set_cons_zero, List.set_cons_succ]
        refine wpAnyH_take (i := 3) (oi := _) (v := .slice ba n bc) rfl (by kernel_rfl) (by kernel_rfl) (by kernel_rfl) (fun _ _ _ h => h) (Or.inl ⟨by rfl, ?_⟩) (by assumption) ?_
        · clear hHeld; intro X hSw; clear hSw; go_simp
        simp only [Act.put, List.getElem_toArray, List.getElem_cons_zero, List.getElem_cons_succ, List.setIfInBounds_toArray, List.set_cons_zero, List.set_cons_succ]
        refine wpAnyH_ready (rs := [1, 4]) (by kernel_rfl) (by simp) ?_
        refine AllReadyH.cons (o := _) rfl (fun K hK => ?_) (AllReadyH.cons (o := _) rfl (fun K hK => ?_) (AllReadyH.nil))
        · rw [if_pos (by rfl)]
          simp only [List.getElem_toArray, List.getElem_cons_zero, List.getElem_cons_succ]
          have HK := Lib.hid hK
          have HS := Lib.hid hHeld
          clear hK hHeld
          go_wp2_with (go_at_call 10; refine (HYB.out _ HS.out).mono ?_; rintro e y1 ⟨a2, n2, c2, rfl, hn2, hby2, hb⟩; have HC2 := Lib.hid (And.intro hn2 hby2); clear hn2 hby2; have HY1 := Lib.hid (HS.out.trans (hb.mono HS.out.size)); have HL1 := Lib.hid hb; clear hb)
          refine HK.out _ _ HY1.out (fun hHeld => ?_)
          clear HK HS
          refine wpAnyH_ready (rs := [2, 4]) (by kernel_rfl) (by simp) ?_
          refine AllReadyH.cons (o := _) rfl (fun K hK => ?_) (AllReadyH.cons (o := _) rfl (fun K hK => ?_) (AllReadyH.nil))
          · rw [if_pos (by rfl)]
            simp only [List.getElem_toArray, List.getElem_cons_zero, List.getElem_cons_succ]
            have HK := Lib.hid hK
            have HS := Lib.hid hHeld
            clear hK hHeld
            have hcv := ByAt.conv (cap := c2) (HC2.out.2) HC2.out.1
            rw [HS5.out] at hcv
            go_wp2_with fail
            refine HK.out _ _ HS.out (fun hHeld => ?_)
            clear HK HS hcv
            refine wpAnyH_ready (rs := [4]) (by kernel_rfl) (by simp) ?_
            refine AllReadyH.cons (o := _) rfl (fun K hK => ?_) (AllReadyH.nil)
            rw [if_pos (by rfl)]
            simp only [List.getElem_toArray, List.getElem_cons_zero, List.getElem_cons_succ]
            have HK := Lib.hid hK
            have HS := Lib.hid hHeld
            clear hK hHeld
            have hcv := ByAt.conv (cap := bc) (HBYI.out.2 _ (HBC.out.trans (HS.out.mono HBC.out.size))) HBYI.out.1
            rw [HS5.out] at hcv
            go_wp2_with fail
            refine HK.out _ _ HS.out (fun hHeld => ?_)
            clear HK HS hcv
            refine wpAnyH_take (i := 5) (oi := _) (v := .bool true) rfl (by kernel_rfl) (by kernel_rfl) (by kernel_rfl) (fun _ _ _ h => h) (Or.inl ⟨by rfl, ?_⟩) (by assumption) ?_
            · clear hHeld; intro X hSw; clear hSw; go_simp
            simp only [Act.put, List.getElem_toArray, List.getElem_cons_zero, List.getElem_cons_succ, List.setIfInBounds_toArray, List.set_cons_zero, List.set_cons_succ]
            refine wpAnyH_take (i := 6) (oi := _) (v := .bool true) rfl (by kernel_rfl) (by kernel_rfl) (by kernel_rfl) (fun _ _ _ h => h) (Or.inl ⟨by rfl, ?_⟩) (by assumption) ?_
            · clear hHeld; intro X hSw; clear hSw; go_simp
            simp only [Act.put, List.getElem_toArray, List.getElem_cons_zero, List.getElem_cons_succ, List.setIfInBounds_toArray, List.set_cons_zero, List.set_cons_succ]
            refine wpAnyH_ready (rs := [7]) (by kernel_rfl) (by simp) ?_
            refine AllReadyH.cons (o := _) rfl (fun K hK => ?_) (AllReadyH.nil)
            rw [if_pos (by rfl)]
            simp only [List.getElem_toArray, List.getElem_cons_zero, List.getElem_cons_succ]
            have HK := Lib.hid hK
            have HS := Lib.hid hHeld
            clear hK hHeld
            go_wp2_with (go_at_call 6; refine (wakes_any _ (HTAB.out _ (HBC.out.trans (HS.out.mono HBC.out.size)))).mono ?_; rintro e y7 ⟨rfl, hb⟩; skip; have HY7 := Lib.hid (HS.out.trans (hb.mono HS.out.size)); have HL7 := Lib.hid hb; clear hb)
            refine HK.out _ _ HY7.out (fun hHeld => ?_)
            clear HK HS
            refine wpAnyH_take (i := 8) (oi := _) (v := .bool true) rfl (by kernel_rfl) (by kernel_rfl) (by kernel_rfl) (fun _ _ _ h => h) (Or.inl ⟨by rfl, ?_⟩) (by assumption) ?_
            · clear hHeld; intro X hSw; clear hSw; go_simp
            simp only [Act.put, List.getElem_toArray, List.getElem_cons_zero, List.getElem_cons_succ, List.setIfInBounds_toArray, List.set_cons_zero, List.set_cons_succ]
            refine wpAnyH_take (i := 9) (oi := _) (v := .bool true) rfl (by kernel_rfl) (by kernel_rfl) (by kernel_rfl) (fun _ _ _ h => h) (Or.inl ⟨by rfl, ?_⟩) (by assumption) ?_
            · clear hHeld; intro X hSw; clear hSw; go_simp
            simp only [Act.put, List.getElem_toArray, List.getElem_cons_zero, List.getElem_cons_succ, List.setIfInBounds_toArray, List.set_cons_zero, List.set_cons_succ]
            refine wpAnyH_done (by kernel_rfl) ?_ _
            clear hHeld
            go_wp2_with fail
            go_ret
            exact ⟨rfl, HBC.out.trans (HY7.out.mono HBC.out.size)⟩
          · rw [if_pos (by rfl)]
            simp only [List.getElem_toArray, List.getElem_cons_zero, List.getElem_cons_succ]
            have HK := Lib.hid hK
            have HS := Lib.hid hHeld
            clear hK hHeld
            have hcv := ByAt.conv (cap := bc) (HBYI.out.2 _ (HBC.out.trans (HS.out.mono HBC.out.size))) HBYI.out.1
            rw [HS5.out] at hcv
            go_wp2_with fail
            refine HK.out _ _ HS.out (fun hHeld => ?_)
            clear HK HS hcv
            refine wpAnyH_ready (rs := [2]) (by kernel_rfl) (by simp) ?_
            refine AllReadyH.cons (o := _) rfl (fun K hK => ?_) (AllReadyH.nil)
            rw [if_pos (by rfl)]
            simp only [List.getElem_toArray, List.getElem_cons_zero, List.getElem_cons_succ]
            have HK := Lib.hid hK
            have HS := Lib.hid hHeld
            clear hK hHeld
            have hcv := ByAt.conv (cap := c2) (HC2.out.2) HC2.out.1
            rw [HS5.out] at hcv
            go_wp2_with fail
            refine HK.out _ _ HS.out (fun hHeld => ?_)
            clear HK HS hcv
            refine wpAnyH_take (i := 5) (oi := _) (v := .bool true) rfl (by kernel_rfl) (by kernel_rfl) (by kernel_rfl) (fun _ _ _ h => h) (Or.inl ⟨by rfl, ?_⟩) (by assumption) ?_
            · clear hHeld; intro X hSw; clear hSw; go_simp
            simp only [Act.put, List.getElem_toArray, List.getElem_cons_zero, List.getElem_cons_succ, List.setIfInBounds_toArray, List.set_cons_zero, List.set_cons_succ]
            refine wpAnyH_take (i := 6) (oi := _) (v := .bool true) rfl (by kernel_rfl) (by kernel_rfl) (by kernel_rfl) (fun _ _ _ h => h) (Or.inl ⟨by rfl, ?_⟩) (by assumption) ?_
            · clear hHeld; intro X hSw; clear hSw; go_simp
            simp only [Act.put, List.getElem_toArray, List.getElem_cons_zero, List.getElem_cons_succ, List.setIfInBounds_toArray, List.set_cons_zero, List.set_cons_succ]
            refine wpAnyH_ready (rs := [7]) (by kernel_rfl) (by simp) ?_
            refine AllReadyH.cons (o := _) rfl (fun K hK => ?_) (AllReadyH.nil)
            rw [if_pos (by rfl)]
            simp only [List.getElem_toArray, List.getElem_cons_zero, List.getElem_cons_succ]
            have HK := Lib.hid hK
            have HS := Lib.hid hHeld
            clear hK hHeld
            go_wp2_with (go_at_call 6; refine (wakes_any _ (HTAB.out _ (HBC.out.trans (HS.out.mono HBC.out.size)))).mono ?_; rintro e y7 ⟨rfl, hb⟩; skip; have HY7 := Lib.hid (HS.out.trans (hb.mono HS.out.size)); have HL7 := Lib.hid hb; clear hb)
            refine HK.out _ _ HY7.out (fun hHeld => ?_)
            clear HK HS
            refine wpAnyH_take (i := 8) (oi := _) (v := .bool true) rfl (by kernel_rfl) (by kernel_rfl) (by kernel_rfl) (fun _ _ _ h => h) (Or.inl ⟨by rfl, ?_⟩) (by assumption) ?_
            · clear hHeld; intro X hSw; clear hSw; go_simp
            simp only [Act.put, List.getElem_toArray, List.getElem_cons_zero, List.getElem_cons_succ, List.setIfInBounds_toArray, List.set_cons_zero, List.set_cons_succ]
            refine wpAnyH_take (i := 9) (oi := _) (v := .bool true) rfl (by kernel_rfl) (by kernel_rfl) (by kernel_rfl) (fun _ _ _ h => h) (Or.inl ⟨by rfl, ?_⟩) (by assumption) ?_
            · clear hHeld; intro X hSw; clear hSw; go_simp
            simp only [Act.put, List.getElem_toArray, List.getElem_cons_zero, List.getElem_cons_succ, List.setIfInBounds_toArray, List.set_cons_zero, List.set_cons_succ]
            refine wpAnyH_done (by kernel_rfl) ?_ _
            clear hHeld
            go_wp2_with fail
            go_ret
            exact ⟨rfl, HBC.out.trans (HY7.out.mono HBC.out.size)⟩
        · rw [if_pos (by rfl)]
          simp only [List.getElem_toArray, List.getElem_cons_zero, List.getElem_cons_succ]
          have HK := Lib.hid hK
          have HS := Lib.hid hHeld
          clear hK hHeld
          have hcv := ByAt.conv (cap := bc) (HBYI.out.2 _ (HBC.out.trans (HS.out.mono HBC.out.size))) HBYI.out.1
          rw [HS5.out] at hcv
          go_wp2_with fail
          refine HK.out _ _ HS.out (fun hHeld => ?_)
          clear HK HS hcv
          refine wpAnyH_ready (rs := [1]) (by kernel_rfl) (by simp) ?_
          refine AllReadyH.cons (o := _) rfl (fun K hK => ?_) (AllReadyH.nil)
          rw [if_pos (by rfl)]
          simp only [List.getElem_toArray, List.getElem_cons_zero, List.getElem_cons_succ]
          have HK := Lib.hid hK
          have HS := Lib.hid hHeld
          clear hK hHeld
          go_wp2_with (go_at_call 10; refine (HYB.out _ HS.out).mono ?_; rintro e y1 ⟨a2, n2, c2, rfl, hn2, hby2, hb⟩; have HC2 := Lib.hid (And.intro hn2 hby2); clear hn2 hby2; have HY1 := Lib.hid (HS.out.trans (hb.mono HS.out.size)); have HL1 := Lib.hid hb; clear hb)
          refine HK.out _ _ HY1.out (fun hHeld => ?_)
          clear HK HS
          refine wpAnyH_ready (rs := [2]) (by kernel_rfl) (by simp) ?_
          refine AllReadyH.cons (o := _) rfl (fun K hK => ?_) (AllReadyH.nil)
          rw [if_pos (by rfl)]
          simp only [List.getElem_toArray, List.getElem_cons_zero, List.getElem_cons_succ]
          have HK := Lib.hid hK
          have HS := Lib.hid hHeld
          clear hK hHeld
          have hcv := ByAt.conv (cap := c2) (HC2.out.2) HC2.out.1
          rw [HS5.out] at hcv
          go_wp2_with fail
          refine HK.out _ _ HS.out (fun hHeld => ?_)
          clear HK HS hcv
          refine wpAnyH_take (i := 5) (oi := _) (v := .bool true) rfl (by kernel_rfl) (by kernel_rfl) (by kernel_rfl) (fun _ _ _ h => h) (Or.inl ⟨by rfl, ?_⟩) (by assumption) ?_
          · clear hHeld; intro X hSw; clear hSw; go_simp
          simp only [Act.put, List.getElem_toArray, List.getElem_cons_zero, List.getElem_cons_succ, List.setIfInBounds_toArray, List.set_cons_zero, List.set_cons_succ]
          refine wpAnyH_take (i := 6) (oi := _) (v := .bool true) rfl (by kernel_rfl) (by kernel_rfl) (by kernel_rfl) (fun _ _ _ h => h) (Or.inl ⟨by rfl, ?_⟩) (by assumption) ?_
          · clear hHeld; intro X hSw; clear hSw; go_simp
          simp only [Act.put, List.getElem_toArray, List.getElem_cons_zero, List.getElem_cons_succ, List.setIfInBounds_toArray, List.set_cons_zero, List.set_cons_succ]
          refine wpAnyH_ready (rs := [7]) (by kernel_rfl) (by simp) ?_
          refine AllReadyH.cons (o := _) rfl (fun K hK => ?_) (AllReadyH.nil)
          rw [if_pos (by rfl)]
          simp only [List.getElem_toArray, List.getElem_cons_zero, List.getElem_cons_succ]
          have HK := Lib.hid hK
          have HS := Lib.hid hHeld
          clear hK hHeld
          go_wp2_with (go_at_call 6; refine (wakes_any _ (HTAB.out _ (HBC.out.trans (HS.out.mono HBC.out.size)))).mono ?_; rintro e y7 ⟨rfl, hb⟩; skip; have HY7 := Lib.hid (HS.out.trans (hb.mono HS.out.size)); have HL7 := Lib.hid hb; clear hb)
          refine HK.out _ _ HY7.out (fun hHeld => ?_)
          clear HK HS
          refine wpAnyH_take (i := 8) (oi := _) (v := .bool true) rfl (by kernel_rfl) (by kernel_rfl) (by kernel_rfl) (fun _ _ _ h => h) (Or.inl ⟨by rfl, ?_⟩) (by assumption) ?_
          · clear hHeld; intro X hSw; clear hSw; go_simp
          simp only [Act.put, List.getElem_toArray, List.getElem_cons_zero, List.getElem_cons_succ, List.setIfInBounds_toArray, List.set_cons_zero, List.set_cons_succ]
          refine wpAnyH_take (i := 9) (oi := _) (v := .bool true) rfl (by kernel_rfl) (by kernel_rfl) (by kernel_rfl) (fun _ _ _ h => h) (Or.inl ⟨by rfl, ?_⟩) (by assumption) ?_
          · clear hHeld; intro X hSw; clear hSw; go_simp
          simp only [Act.put, List.getElem_toArray, List.getElem_cons_zero, List.getElem_cons_succ, List.setIfInBounds_toArray, List.set_cons_zero, List.set_cons_succ]
          refine wpAnyH_done (by kernel_rfl) ?_ _
          clear hHeld
          go_wp2_with fail
          go_ret
          exact ⟨rfl, HBC.out.trans (HY7.out.mono HBC.out.size)⟩
      · obtain ⟨hz, h0, h1⟩ := readT_bad hr.symm her
        rw [← HBYI.out.1] at h1
        subst hz
        clear hr hyk
        have e0 : (foLen zeroTC.kids : Nat) = 0 := rfl
        have e1 : zeroTC.id = 0 := rfl
        have e2 : zeroTC.kind = 0 := rfl
        have e3 : zeroTC.text = ⟨#[]⟩ := rfl
        rw [e0, e1, e2, e3]
        rw [e0] at hyc
        clear e0 e1 e2 e3
        obtain ⟨X1, hX1⟩ : ∃ X1, X1 = w12.alloc (.cells #[.int .i64 0, .int .i64 0, .string ⟨#[]⟩, .slice ya 0 yc] 25) := ⟨_, rfl⟩
        have hbx1 : Below w12.heap.size w12 X1 := by rw [hX1]; exact bx_below _ _
        have hx1 : X1.heap[w12.heap.size]? = some (.cells #[.int .i64 0, .int .i64 0, .string ⟨#[]⟩, .slice ya 0 yc] 25 (0, 0)) := by rw [hX1]; exact heap_alloc_new w12 _
        have HBC := Lib.hid (HBB.out.trans (hbx1.mono HBB.out.size))
        have HSN : Hid (Calls Tryd.prog 14 #[.agg #[.int .i64 0, .int .i64 0, .string ⟨#[]⟩, .slice ya 0 yc], .agg #[.int .i64 0, .int .i64 0, .string ⟨#[]⟩, .slice none 0 0]] X1 (SameC zeroTC zeroTC X1)) := Lib.hid (tsame_any X1 (fun _ => False) (fun _ => False) _ _ zeroTC zeroTC (fun _ h => h.elim) (fun _ h => h.elim) ⟨ya, yc, rfl, Nat.zero_le _, True.intro⟩ ⟨none, 0, rfl, Nat.le_refl _, True.intro⟩ (by decide) (by decide))
        obtain ⟨x0, x1, x2, x3⟩ := box4 hx1
        have HXE := Lib.hid hX1
        clear hyc hbx1 hx1 hX1 hb12
        rw [HXE.out] at x0 x1 x2 x3
        go_wp2_with fail
        rw [← HXE.out]
        refine HSN.out.mono ?_
        rintro e w13 ⟨rfl, hb13⟩
        rw [sameT_refl]
        have HBD := Lib.hid (HBC.out.trans (hb13.mono HBC.out.size))
        clear hb13 x0 x1 x2 x3 HSN
        go_wp2_with fail
        refine (wakes_any w13 (HTAB.out w13 HBD.out)).mono ?_
        rintro e w14 ⟨rfl, hb14⟩
        have HB14 := Lib.hid (HBD.out.trans (hb14.mono HBD.out.size))
        clear hb14
        go_wp2_with fail
        go_ret
        exact ⟨rfl, HB14.out⟩
    · rw [if_pos (by rfl)]
      simp only [List.getElem_toArray, List.getElem_cons_zero, List.getElem_cons_succ]
      have HK := Lib.hid hK
      have HS := Lib.hid hHeld
      clear hK hHeld
      have hcv := ByAt.conv (cap := c2) (HC2.out.2) HC2.out.1
      rw [HTX.out.2.2.2] at hcv
      go_wp2_with fail
      refine HK.out _ _ HS.out (fun hHeld => ?_)
      clear HK HS hcv
      refine wpAnyH_ready (rs := [15]) (by kernel_rfl) (by simp) ?_
      refine AllReadyH.cons (o := _) rfl (fun K hK => ?_) (AllReadyH.nil)
      rw [if_pos (by rfl)]
      simp only [List.getElem_toArray, List.getElem_cons_zero, List.getElem_cons_succ]
      have HK := Lib.hid hK
      have HS := Lib.hid hHeld
      clear hK hHeld
      have hcv := ByAt.conv (cap := c1) (HC1.out.2.below HL17.out) HC1.out.1
      rw [HTX.out.2.2.1] at hcv
      go_wp2_with fail
      refine HK.out _ _ HS.out (fun hHeld => ?_)
      clear HK HS hcv
      refine wpAnyH_take (i := 19) (oi := _) (v := .bool b) rfl (by kernel_rfl) (by kernel_rfl) (by kernel_rfl) (fun _ _ _ h => h) (Or.inl ⟨by rfl, ?_⟩) (by assumption) ?_
      · clear hHeld; intro X hSw; clear hSw; go_simp; exact HQ.out.2
      simp only [Act.put, List.getElem_toArray, List.getElem_cons_zero, List.getElem_cons_succ, List.setIfInBounds_toArray, List.set_cons_zero, List.set_cons_succ]
      refine wpAnyH_take (i := 20) (oi := _) (v := .bool false) rfl (by kernel_rfl) (by kernel_rfl) (by kernel_rfl) (fun _ _ _ h => h) (Or.inl ⟨by rfl, ?_⟩) (by assumption) ?_
      · clear hHeld; intro X hSw; clear hSw; go_simp
      simp only [Act.put, List.getElem_toArray, List.getElem_cons_zero, List.getElem_cons_succ, List.setIfInBounds_toArray, List.set_cons_zero, List.set_cons_succ]
      refine wpAnyH_take (i := 21) (oi := _) (v := .bool false) rfl (by kernel_rfl) (by kernel_rfl) (by kernel_rfl) (fun _ _ _ h => h) (Or.inl ⟨by rfl, ?_⟩) (by assumption) ?_
      · clear hHeld; intro X hSw; clear hSw; go_simp
      simp only [Act.put, List.getElem_toArray, List.getElem_cons_zero, List.getElem_cons_succ, List.setIfInBounds_toArray, List.set_cons_zero, List.set_cons_succ]
      refine wpAnyH_done (by kernel_rfl) ?_ _
      have HBA := Lib.hid (HB10.out.trans (hHeld.mono HB10.out.size))
      clear hHeld HBX HC1 HC2 HL17 HL14 HY14 HY17
      go_wp2_with fail
      refine (HRB.out _ HBA.out).mono ?_
      obtain ⟨r, hr⟩ : ∃ r, r = readT bs := ⟨_, rfl⟩
      rw [← hr]
      obtain ⟨y, at_, er⟩ := r
      rintro e w12 ⟨v12, rfl, ⟨ya, yc, rfl, hyc, hyk⟩, hb12⟩
      simp only at hyc hyk ⊢
      have HBB := Lib.hid (HBA.out.trans (hb12.mono HBA.out.size))
      by_cases her : er = 0
      · subst her
        have hg := readT_good hr.symm
        have hfit := readT_fit bs (by omega)
        rw [← hr] at hfit
        simp only at hfit
        obtain ⟨um, hum⟩ : ∃ um, um = foLen y.kids := ⟨_, rfl⟩
        rw [← hum] at hyc ⊢
        obtain ⟨X1, hX1⟩ : ∃ X1, X1 = w12.alloc (.cells #[.int .i64 y.id, .int .i64 y.kind, .string y.text, .slice ya um yc] 25) := ⟨_, rfl⟩
        have hbx1 : Below w12.heap.size w12 X1 := by rw [hX1]; exact bx_below _ _
        have hx1 : X1.heap[w12.heap.size]? = some (.cells #[.int .i64 y.id, .int .i64 y.kind, .string y.text, .slice ya um yc] 25 (0, 0)) := by rw [hX1]; exact heap_alloc_new w12 _
        have HBC := Lib.hid (HBB.out.trans (hbx1.mono HBB.out.size))
        have HYB : Hid (∀ X, Below X1.heap.size X1 X → Calls Tryd.prog 10 #[.agg #[.int .i64 y.id, .int .i64 y.kind, .string y.text, .slice ya um yc]] X (NewB X bs)) := Lib.hid fun X hX => by
          have h := tbytes_any X (fun z => z < w12.heap.size) (.agg #[.int .i64 y.id, .int .i64 y.kind, .string y.text, .slice ya um yc]) y (fun z hz => Nat.lt_of_lt_of_le hz (Nat.le_trans hbx1.size hX.size)) ⟨ya, yc, by rw [hum], by rw [← hum]; exact hyc, hyk.kept (w' := X) (S' := fun z => z < w12.heap.size) (fun z hz => ⟨hz.2, (hX.block z (Nat.lt_of_lt_of_le hz.2 hbx1.size)).trans (hbx1.block z hz.2)⟩)⟩ (by rw [hg.1]; omega)
          rw [hg.1] at h
          exact h
        have HBX := Lib.hid (fun (X : World) (h : Below X1.heap.size X1 X) => box4 ((h.block _ (lt_of_heap hx1)).trans hx1))
        have HXE := Lib.hid hX1
        obtain ⟨st, hst⟩ : ∃ st : ByteArray, st = ⟨bs.toArray⟩ := ⟨_, rfl⟩
        have HS5 := Lib.hid hst.symm
        clear hst hr hg hfit hyc hyk hum hbx1 hx1 hX1 hb12
        go_wp2_with fail
        rw [← HXE.out]
        refine wp_region_held_drew (S := fun X => Below X1.heap.size X1 X) (by kernel_rfl) (below_drewN (Below.refl _ X1) 1) (fun hHeld => ?_)
        refine wpAnyH_take (i := 0) (oi := _) (v := .agg #[.int .i64 y.id, .int .i64 y.kind, .string y.text, .slice ya um yc]) rfl (by kernel_rfl) (by kernel_rfl) (by kernel_rfl) (fun _ _ _ h => h) (Or.inl ⟨by rfl, ?_⟩) (by assumption) ?_
        · clear hHeld; intro X hSw; obtain ⟨a0, a1, a2, a3⟩ := HBX.out X hSw; clear hSw; go_simp
        simp only [Act.put, List.getElem_toArray, List.getElem_cons_zero, List.getElem_cons_succ, List.setIfInBounds_toArray, List.set_cons_zero, List.set_cons_succ]
        refine wpAnyH_take (i := 3) (oi := _) (v := .slice ba n bc) rfl (by kernel_rfl) (by kernel_rfl) (by kernel_rfl) (fun _ _ _ h => h) (Or.inl ⟨by rfl, ?_⟩) (by assumption) ?_
        · clear hHeld; intro X hSw; clear hSw; go_simp
        simp only [Act.put, List.getElem_toArray, List.getElem_cons_zero, List.getElem_cons_succ, List.setIfInBounds_toArray, List.set_cons_zero, List.set_cons_succ]
        refine wpAnyH_ready (rs := [1, 4]) (by kernel_rfl) (by simp) ?_
        refine AllReadyH.cons (o := _) rfl (fun K hK => ?_) (AllReadyH.cons (o := _) rfl (fun K hK => ?_) (AllReadyH.nil))
        · rw [if_pos (by rfl)]
          simp only [List.getElem_toArray, List.getElem_cons_zero, List.getElem_cons_succ]
          have HK := Lib.hid hK
          have HS := Lib.hid hHeld
          clear hK hHeld
          go_wp2_with (go_at_call 10; refine (HYB.out _ HS.out).mono ?_; rintro e y1 ⟨a2, n2, c2, rfl, hn2, hby2, hb⟩; have HC2 := Lib.hid (And.intro hn2 hby2); clear hn2 hby2; have HY1 := Lib.hid (HS.out.trans (hb.mono HS.out.size)); have HL1 := Lib.hid hb; clear hb)
          refine HK.out _ _ HY1.out (fun hHeld => ?_)
          clear HK HS
          refine wpAnyH_ready (rs := [2, 4]) (by kernel_rfl) (by simp) ?_
          refine AllReadyH.cons (o := _) rfl (fun K hK => ?_) (AllReadyH.cons (o := _) rfl (fun K hK => ?_) (AllReadyH.nil))
          · rw [if_pos (by rfl)]
            simp only [List.getElem_toArray, List.getElem_cons_zero, List.getElem_cons_succ]
            have HK := Lib.hid hK
            have HS := Lib.hid hHeld
            clear hK hHeld
            have hcv := ByAt.conv (cap := c2) (HC2.out.2) HC2.out.1
            rw [HS5.out] at hcv
            go_wp2_with fail
            refine HK.out _ _ HS.out (fun hHeld => ?_)
            clear HK HS hcv
            refine wpAnyH_ready (rs := [4]) (by kernel_rfl) (by simp) ?_
            refine AllReadyH.cons (o := _) rfl (fun K hK => ?_) (AllReadyH.nil)
            rw [if_pos (by rfl)]
            simp only [List.getElem_toArray, List.getElem_cons_zero, List.getElem_cons_succ]
            have HK := Lib.hid hK
            have HS := Lib.hid hHeld
            clear hK hHeld
            have hcv := ByAt.conv (cap := bc) (HBYI.out.2 _ (HBC.out.trans (HS.out.mono HBC.out.size))) HBYI.out.1
            rw [HS5.out] at hcv
            go_wp2_with fail
            refine HK.out _ _ HS.out (fun hHeld => ?_)
            clear HK HS hcv
            refine wpAnyH_take (i := 5) (oi := _) (v := .bool true) rfl (by kernel_rfl) (by kernel_rfl) (by kernel_rfl) (fun _ _ _ h => h) (Or.inl ⟨by rfl, ?_⟩) (by assumption) ?_
            · clear hHeld; intro X hSw; clear hSw; go_simp
            simp only [Act.put, List.getElem_toArray, List.getElem_cons_zero, List.getElem_cons_succ, List.setIfInBounds_toArray, List.set_cons_zero, List.set_cons_succ]
            refine wpAnyH_take (i := 6) (oi := _) (v := .bool true) rfl (by kernel_rfl) (by kernel_rfl) (by kernel_rfl) (fun _ _ _ h => h) (Or.inl ⟨by rfl, ?_⟩) (by assumption) ?_
            · clear hHeld; intro X hSw; clear hSw; go_simp
            simp only [Act.put, List.getElem_toArray, List.getElem_cons_zero, List.getElem_cons_succ, List.setIfInBounds_toArray, List.set_cons_zero, List.set_cons_succ]
            refine wpAnyH_ready (rs := [7]) (by kernel_rfl) (by simp) ?_
            refine AllReadyH.cons (o := _) rfl (fun K hK => ?_) (AllReadyH.nil)
            rw [if_pos (by rfl)]
            simp only [List.getElem_toArray, List.getElem_cons_zero, List.getElem_cons_succ]
            have HK := Lib.hid hK
            have HS := Lib.hid hHeld
            clear hK hHeld
            go_wp2_with (go_at_call 6; refine (wakes_any _ (HTAB.out _ (HBC.out.trans (HS.out.mono HBC.out.size)))).mono ?_; rintro e y7 ⟨rfl, hb⟩; skip; have HY7 := Lib.hid (HS.out.trans (hb.mono HS.out.size)); have HL7 := Lib.hid hb; clear hb)
            refine HK.out _ _ HY7.out (fun hHeld => ?_)
            clear HK HS
            refine wpAnyH_take (i := 8) (oi := _) (v := .bool true) rfl (by kernel_rfl) (by kernel_rfl) (by kernel_rfl) (fun _ _ _ h => h) (Or.inl ⟨by rfl, ?_⟩) (by assumption) ?_
            · clear hHeld; intro X hSw; clear hSw; go_simp
            simp only [Act.put, List.getElem_toArray, List.getElem_cons_zero, List.getElem_cons_succ, List.setIfInBounds_toArray, List.set_cons_zero, List.set_cons_succ]
            refine wpAnyH_take (i := 9) (oi := _) (v := .bool true) rfl (by kernel_rfl) (by kernel_rfl) (by kernel_rfl) (fun _ _ _ h => h) (Or.inl ⟨by rfl, ?_⟩) (by assumption) ?_
            · clear hHeld; intro X hSw; clear hSw; go_simp
            simp only [Act.put, List.getElem_toArray, List.getElem_cons_zero, List.getElem_cons_succ, List.setIfInBounds_toArray, List.set_cons_zero, List.set_cons_succ]
            refine wpAnyH_done (by kernel_rfl) ?_ _
            clear hHeld
            go_wp2_with fail
            go_ret
            exact ⟨rfl, HBC.out.trans (HY7.out.mono HBC.out.size)⟩
          · rw [if_pos (by rfl)]
            simp only [List.getElem_toArray, List.getElem_cons_zero, List.getElem_cons_succ]
            have HK := Lib.hid hK
            have HS := Lib.hid hHeld
            clear hK hHeld
            have hcv := ByAt.conv (cap := bc) (HBYI.out.2 _ (HBC.out.trans (HS.out.mono HBC.out.size))) HBYI.out.1
            rw [HS5.out] at hcv
            go_wp2_with fail
            refine HK.out _ _ HS.out (fun hHeld => ?_)
            clear HK HS hcv
            refine wpAnyH_ready (rs := [2]) (by kernel_rfl) (by simp) ?_
            refine AllReadyH.cons (o := _) rfl (fun K hK => ?_) (AllReadyH.nil)
            rw [if_pos (by rfl)]
            simp only [List.getElem_toArray, List.getElem_cons_zero, List.getElem_cons_succ]
            have HK := Lib.hid hK
            have HS := Lib.hid hHeld
            clear hK hHeld
            have hcv := ByAt.conv (cap := c2) (HC2.out.2) HC2.out.1
            rw [HS5.out] at hcv
            go_wp2_with fail
            refine HK.out _ _ HS.out (fun hHeld => ?_)
            clear HK HS hcv
            refine wpAnyH_take (i := 5) (oi := _) (v := .bool true) rfl (by kernel_rfl) (by kernel_rfl) (by kernel_rfl) (fun _ _ _ h => h) (Or.inl ⟨by rfl, ?_⟩) (by assumption) ?_
            · clear hHeld; intro X hSw; clear hSw; go_simp
            simp only [Act.put, List.getElem_toArray, List.getElem_cons_zero, List.getElem_cons_succ, List.setIfInBounds_toArray, List.set_cons_zero, List.set_cons_succ]
            refine wpAnyH_take (i := 6) (oi := _) (v := .bool true) rfl (by kernel_rfl) (by kernel_rfl) (by kernel_rfl) (fun _ _ _ h => h) (Or.inl ⟨by rfl, ?_⟩) (by assumption) ?_
            · clear hHeld; intro X hSw; clear hSw; go_simp
            simp only [Act.put, List.getElem_toArray, List.getElem_cons_zero, List.getElem_cons_succ, List.setIfInBounds_toArray, List.set_cons_zero, List.set_cons_succ]
            refine wpAnyH_ready (rs := [7]) (by kernel_rfl) (by simp) ?_
            refine AllReadyH.cons (o := _) rfl (fun K hK => ?_) (AllReadyH.nil)
            rw [if_pos (by rfl)]
            simp only [List.getElem_toArray, List.getElem_cons_zero, List.getElem_cons_succ]
            have HK := Lib.hid hK
            have HS := Lib.hid hHeld
            clear hK hHeld
            go_wp2_with (go_at_call 6; refine (wakes_any _ (HTAB.out _ (HBC.out.trans (HS.out.mono HBC.out.size)))).mono ?_; rintro e y7 ⟨rfl, hb⟩; skip; have HY7 := Lib.hid (HS.out.trans (hb.mono HS.out.size)); have HL7 := Lib.hid hb; clear hb)
            refine HK.out _ _ HY7.out (fun hHeld => ?_)
            clear HK HS
            refine wpAnyH_take (i := 8) (oi := _) (v := .bool true) rfl (by kernel_rfl) (by kernel_rfl) (by kernel_rfl) (fun _ _ _ h => h) (Or.inl ⟨by rfl, ?_⟩) (by assumption) ?_
            · clear hHeld; intro X hSw; clear hSw; go_simp
            simp only [Act.put, List.getElem_toArray, List.getElem_cons_zero, List.getElem_cons_succ, List.setIfInBounds_toArray, List.set_cons_zero, List.set_cons_succ]
            refine wpAnyH_take (i := 9) (oi := _) (v := .bool true) rfl (by kernel_rfl) (by kernel_rfl) (by kernel_rfl) (fun _ _ _ h => h) (Or.inl ⟨by rfl, ?_⟩) (by assumption) ?_
            · clear hHeld; intro X hSw; clear hSw; go_simp
            simp only [Act.put, List.getElem_toArray, List.getElem_cons_zero, List.getElem_cons_succ, List.setIfInBounds_toArray, List.set_cons_zero, List.set_cons_succ]
            refine wpAnyH_done (by kernel_rfl) ?_ _
            clear hHeld
            go_wp2_with fail
            go_ret
            exact ⟨rfl, HBC.out.trans (HY7.out.mono HBC.out.size)⟩
        · rw [if_pos (by rfl)]
          simp only [List.getElem_toArray, List.getElem_cons_zero, List.getElem_cons_succ]
          have HK := Lib.hid hK
          have HS := Lib.hid hHeld
          clear hK hHeld
          have hcv := ByAt.conv (cap := bc) (HBYI.out.2 _ (HBC.out.trans (HS.out.mono HBC.out.size))) HBYI.out.1
          rw [HS5.out] at hcv
          go_wp2_with fail
          refine HK.out _ _ HS.out (fun hHeld => ?_)
          clear HK HS hcv
          refine wpAnyH_ready (rs := [1]) (by kernel_rfl) (by simp) ?_
          refine AllReadyH.cons (o := _) rfl (fun K hK => ?_) (AllReadyH.nil)
          rw [if_pos (by rfl)]
          simp only [List.getElem_toArray, List.getElem_cons_zero, List.getElem_cons_succ]
          have HK := Lib.hid hK
          have HS := Lib.hid hHeld
          clear hK hHeld
          go_wp2_with (go_at_call 10; refine (HYB.out _ HS.out).mono ?_; rintro e y1 ⟨a2, n2, c2, rfl, hn2, hby2, hb⟩; have HC2 := Lib.hid (And.intro hn2 hby2); clear hn2 hby2; have HY1 := Lib.hid (HS.out.trans (hb.mono HS.out.size)); have HL1 := Lib.hid hb; clear hb)
          refine HK.out _ _ HY1.out (fun hHeld => ?_)
          clear HK HS
          refine wpAnyH_ready (rs := [2]) (by kernel_rfl) (by simp) ?_
          refine AllReadyH.cons (o := _) rfl (fun K hK => ?_) (AllReadyH.nil)
          rw [if_pos (by rfl)]
          simp only [List.getElem_toArray, List.getElem_cons_zero, List.getElem_cons_succ]
          have HK := Lib.hid hK
          have HS := Lib.hid hHeld
          clear hK hHeld
          have hcv := ByAt.conv (cap := c2) (HC2.out.2) HC2.out.1
          rw [HS5.out] at hcv
          go_wp2_with fail
          refine HK.out _ _ HS.out (fun hHeld => ?_)
          clear HK HS hcv
          refine wpAnyH_take (i := 5) (oi := _) (v := .bool true) rfl (by kernel_rfl) (by kernel_rfl) (by kernel_rfl) (fun _ _ _ h => h) (Or.inl ⟨by rfl, ?_⟩) (by assumption) ?_
          · clear hHeld; intro X hSw; clear hSw; go_simp
          simp only [Act.put, List.getElem_toArray, List.getElem_cons_zero, List.getElem_cons_succ, List.setIfInBounds_toArray, List.set_cons_zero, List.set_cons_succ]
          refine wpAnyH_take (i := 6) (oi := _) (v := .bool true) rfl (by kernel_rfl) (by kernel_rfl) (by kernel_rfl) (fun _ _ _ h => h) (Or.inl ⟨by rfl, ?_⟩) (by assumption) ?_
          · clear hHeld; intro X hSw; clear hSw; go_simp
          simp only [Act.put, List.getElem_toArray, List.getElem_cons_zero, List.getElem_cons_succ, List.setIfInBounds_toArray, List.set_cons_zero, List.set_cons_succ]
          refine wpAnyH_ready (rs := [7]) (by kernel_rfl) (by simp) ?_
          refine AllReadyH.cons (o := _) rfl (fun K hK => ?_) (AllReadyH.nil)
          rw [if_pos (by rfl)]
          simp only [List.getElem_toArray, List.getElem_cons_zero, List.getElem_cons_succ]
          have HK := Lib.hid hK
          have HS := Lib.hid hHeld
          clear hK hHeld
          go_wp2_with (go_at_call 6; refine (wakes_any _ (HTAB.out _ (HBC.out.trans (HS.out.mono HBC.out.size)))).mono ?_; rintro e y7 ⟨rfl, hb⟩; skip; have HY7 := Lib.hid (HS.out.trans (hb.mono HS.out.size)); have HL7 := Lib.hid hb; clear hb)
          refine HK.out _ _ HY7.out (fun hHeld => ?_)
          clear HK HS
          refine wpAnyH_take (i := 8) (oi := _) (v := .bool true) rfl (by kernel_rfl) (by kernel_rfl) (by kernel_rfl) (fun _ _ _ h => h) (Or.inl ⟨by rfl, ?_⟩) (by assumption) ?_
          · clear hHeld; intro X hSw; clear hSw; go_simp
          simp only [Act.put, List.getElem_toArray, List.getElem_cons_zero, List.getElem_cons_succ, List.setIfInBounds_toArray, List.set_cons_zero, List.set_cons_succ]
          refine wpAnyH_take (i := 9) (oi := _) (v := .bool true) rfl (by kernel_rfl) (by kernel_rfl) (by kernel_rfl) (fun _ _ _ h => h) (Or.inl ⟨by rfl, ?_⟩) (by assumption) ?_
          · clear hHeld; intro X hSw; clear hSw; go_simp
          simp only [Act.put, List.getElem_toArray, List.getElem_cons_zero, List.getElem_cons_succ, List.setIfInBounds_toArray, List.set_cons_zero, List.set_cons_succ]
          refine wpAnyH_done (by kernel_rfl) ?_ _
          clear hHeld
          go_wp2_with fail
          go_ret
          exact ⟨rfl, HBC.out.trans (HY7.out.mono HBC.out.size)⟩
      · obtain ⟨hz, h0, h1⟩ := readT_bad hr.symm her
        rw [← HBYI.out.1] at h1
        subst hz
        clear hr hyk
        have e0 : (foLen zeroTC.kids : Nat) = 0 := rfl
        have e1 : zeroTC.id = 0 := rfl
        have e2 : zeroTC.kind = 0 := rfl
        have e3 : zeroTC.text = ⟨#[]⟩ := rfl
        rw [e0, e1, e2, e3]
        rw [e0] at hyc
        clear e0 e1 e2 e3
        obtain ⟨X1, hX1⟩ : ∃ X1, X1 = w12.alloc (.cells #[.int .i64 0, .int .i64 0, .string ⟨#[]⟩, .slice ya 0 yc] 25) := ⟨_, rfl⟩
        have hbx1 : Below w12.heap.size w12 X1 := by rw [hX1]; exact bx_below _ _
        have hx1 : X1.heap[w12.heap.size]? = some (.cells #[.int .i64 0, .int .i64 0, .string ⟨#[]⟩, .slice ya 0 yc] 25 (0, 0)) := by rw [hX1]; exact heap_alloc_new w12 _
        have HBC := Lib.hid (HBB.out.trans (hbx1.mono HBB.out.size))
        have HSN : Hid (Calls Tryd.prog 14 #[.agg #[.int .i64 0, .int .i64 0, .string ⟨#[]⟩, .slice ya 0 yc], .agg #[.int .i64 0, .int .i64 0, .string ⟨#[]⟩, .slice none 0 0]] X1 (SameC zeroTC zeroTC X1)) := Lib.hid (tsame_any X1 (fun _ => False) (fun _ => False) _ _ zeroTC zeroTC (fun _ h => h.elim) (fun _ h => h.elim) ⟨ya, yc, rfl, Nat.zero_le _, True.intro⟩ ⟨none, 0, rfl, Nat.le_refl _, True.intro⟩ (by decide) (by decide))
        obtain ⟨x0, x1, x2, x3⟩ := box4 hx1
        have HXE := Lib.hid hX1
        clear hyc hbx1 hx1 hX1 hb12
        rw [HXE.out] at x0 x1 x2 x3
        go_wp2_with fail
        rw [← HXE.out]
        refine HSN.out.mono ?_
        rintro e w13 ⟨rfl, hb13⟩
        rw [sameT_refl]
        have HBD := Lib.hid (HBC.out.trans (hb13.mono HBC.out.size))
        clear hb13 x0 x1 x2 x3 HSN
        go_wp2_with fail
        refine (wakes_any w13 (HTAB.out w13 HBD.out)).mono ?_
        rintro e w14 ⟨rfl, hb14⟩
        have HB14 := Lib.hid (HBD.out.trans (hb14.mono HBD.out.size))
        clear hb14
        go_wp2_with fail
        go_ret
        exact ⟨rfl, HB14.out⟩
end Go.Proofs.YteccnekdmehloaaDoor
