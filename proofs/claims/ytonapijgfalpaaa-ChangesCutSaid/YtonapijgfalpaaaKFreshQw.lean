/-
  .
-/
import Derived.Test.YtonapijgfalpaaaKIdsQw
import Derived.Test.YtonapijgfalpaaaKAlong1Qw
import Derived.Carry
import Derived.Deep.Cut
import Derived.Test.YtonapijgfalpaaaVAtQw
import Derived.Test.YtonapijgfalpaaaKTakeAQw
import Derived.Test.YtonapijgfalpaaaRSameQw
set_option linter.unusedVariables false
set_option linter.unusedSimpArgs false
namespace Go.Proofs.Ytonapijgfalpaaa
open Go.RowKit Go.Shelf
theorem own_base {w : World} {B B' : Nat} {e : TypeId} {size : Nat} {v : Value} {n : Nat} {xs : List Value} (h : w.ownsRow B e size v n xs) (hB : B' ≤ B) : w.ownsRow B' e size v n xs :=
 ⟨h.1, h.2.imp (fun h => h) (fun ⟨g, c, cur, h1, h2, h3⟩ => ⟨g, c, cur, h1, Nat.le_trans hB h2, h3⟩)⟩
def IdsC (w : World) (l : List Int) (e : Ending) (w' : World) : Prop := ∃ a c, e = .returned (.slice a l.length c) ∧ w'.ownsRow w.heap.size 3 1 (.slice a l.length c) l.length (l.map intV) ∧ Below w.heap.size w w'
set_option maxRecDepth 100000 in
set_option maxHeartbeats 4000000 in
theorem ids_any (w : World) (S : Nat → Prop) (nv : Value) (t : Tr) (up : Int) (hS : ∀ y, S y → y < w.heap.size) (ht : TrAt w S nv t) (hsz : ((foSize t.kids + 1 : Nat) : Int) ≤ up) (hup : up ≤ 1000000) :
 Calls Try.prog 158 #[nv, .int .i64 up] w (IdsC w (idT t)) := by
 have hmf : ∀ (fn : Fn) (first cap : Array Value) (w : World), (Instr.makeFunc fn first cap).run Try.prog w = .ok (.func fn first cap) w := fun _ _ _ _ => rfl
 obtain ⟨ka, tc, rfl, hcap, hk⟩ := ht
 obtain ⟨nk, hnk⟩ : ∃ nk, nk = foLen t.kids := ⟨_, rfl⟩
 rw [← hnk]
 obtain ⟨DV, hDV⟩ : ∃ DV, DV = Value.func (.func 184) #[] #[.pointer (some ⟨w.heap.size + 1 + 1, 0, none⟩), .pointer (some ⟨w.heap.size + 1, 0, none⟩), .pointer (some ⟨w.heap.size + 1 + 1 + 1, 0, none⟩)] := ⟨_, rfl⟩
 obtain ⟨W, hW⟩ : ∃ W, W = allocs w [.cells #[.int .i64 t.id, .int .i64 t.kind, .string t.text, .slice ka nk tc] 24, .cells #[.int .i64 up] 3, .cells #[.slice none 0 0] 64, .cells #[DV] 143] := ⟨_, rfl⟩
 have hb : Below w.heap.size w W := by rw [hW]; exact allocs_below _ _
 have hs : W.heap.size = w.heap.size + 4 := by rw [hW]; exact allocs_size _ _
 have h0 : W.heap[w.heap.size]? = some (.cells #[.int .i64 t.id, .int .i64 t.kind, .string t.text, .slice ka nk tc] 24 (0, 0)) := by rw [hW]; exact allocs_at _ _ 0 _ rfl
 have h1 : W.heap[w.heap.size + 1]? = some (.cells #[.int .i64 up] 3 (0, 0)) := by rw [hW]; exact allocs_at _ _ 1 _ rfl
 have h2 : W.heap[w.heap.size + 1 + 1]? = some (.cells #[.slice none 0 0] 64 (0, 0)) := by rw [hW]; exact allocs_at _ _ 2 _ rfl
 have h3 : W.heap[w.heap.size + 1 + 1 + 1]? = some (.cells #[DV] 143 (0, 0)) := by rw [hW]; exact allocs_at _ _ 3 _ rfl
 have hIW : IdW W (w.heap.size + 1 + 1) (w.heap.size + 1) (w.heap.size + 1 + 1 + 1) up := ⟨by rw [h3, hDV], h1, ⟨by omega, by omega⟩, ⟨by omega, by omega⟩, by omega⟩
 obtain ⟨b0, b1, b2, b3⟩ := box4 h0
 have hkW : FoAt W (fun y => S y ∨ y = w.heap.size) t.kids ka := hk.kept (w' := W) fun y hy => ⟨Or.inl hy, hb.block y (hS y hy)⟩
 have hnode : NodeAt W (fun y => S y ∨ y = w.heap.size) t w.heap.size 0 := ⟨Or.inr rfl, b0, b1, b2, ka, tc, by rw [← hnk]; exact b3, hcap, hkW⟩
 have hIA : IdAt W (w.heap.size + 1 + 1) (w.heap.size + 1) (w.heap.size + 1 + 1 + 1) up [] W := ⟨⟨none, 0, h2, World.ownsRow_nil _ _ _ _⟩, fun _ _ _ => rfl, Nat.le_refl _, rfl, rfl, rfl⟩
 have hc := down_ids hIW (S := fun y => S y ∨ y = w.heap.size) (fun y hy => by rcases hy with hy | hy; have := hS y hy; exact ⟨by omega, by omega⟩; exact ⟨by omega, by omega⟩) hup (foSize t.kids + 1) W [] t w.heap.size 0 (Nat.lt_succ_self _) hnode hIA (by simpa using hsz)
 rw [List.nil_append] at hc
 have HC := Lib.hid (And.intro hc (And.intro hb (And.intro hs hW)))
 have HDV := Lib.hid hDV
 clear hc hb hs hW h0 h1 h2 h3 hIW b0 b1 b2 b3 hkW hnode hIA hDV hS hk hcap hsz hup hnk
 go_enter Try.func158, Try.ntmps158
 go_wp2_with fail
 have hWW := HC.out.2.2.2
 rw [HDV.out] at hWW
 change Calls _ _ _ (allocs w [.cells #[.int .i64 t.id, .int .i64 t.kind, .string t.text, .slice ka nk tc] 24, .cells #[.int .i64 up] 3, .cells #[.slice none 0 0] 64, .cells #[Value.func (.func 184) #[] #[.pointer (some ⟨w.heap.size + 1 + 1, 0, none⟩), .pointer (some ⟨w.heap.size + 1, 0, none⟩), .pointer (some ⟨w.heap.size + 1 + 1 + 1, 0, none⟩)]] 143]) _
 rw [← hWW]
 clear hWW
 refine HC.out.1.mono ?_
 rintro e X ⟨rfl, hX⟩
 obtain ⟨a, c, hl, hro⟩ := hX.row
 have hl0 : X.cell? ⟨w.heap.size + 1 + 1, 0, none⟩ = some (.slice a (idT t).length c) := by rw [cell_of_row _ _ 0 _ _ _ hl]; rfl
 have hbX : Below w.heap.size w X := ⟨hX.os.trans HC.out.2.1.os, hX.tape.trans HC.out.2.1.tape, hX.output.trans HC.out.2.1.output, Nat.le_trans HC.out.2.1.size hX.size, fun y hy => (hX.below y (by have := HC.out.2.2.1; omega) (by omega)).trans (HC.out.2.1.block y hy)⟩
 have HE := Lib.hid (And.intro (own_base hro HC.out.2.1.size) hbX)
 obtain ⟨L, hL⟩ : ∃ L, L = idT t := ⟨_, rfl⟩
 rw [← hL] at hl0 HE
 have HL := Lib.hid hL
 obtain ⟨n, hn⟩ : ∃ n, n = L.length := ⟨_, rfl⟩
 rw [← hn] at hl0
 have HN := Lib.hid hn
 clear hl hro hX hbX hL hn
 go_wp2_with fail
 go_ret
 exact ⟨a, c, by rw [← HL.out, ← HN.out]; rfl, by have h := HE.out.1; rw [HL.out] at h; exact h, HE.out.2⟩
set_option maxRecDepth 100000 in
theorem great_any (w : World) (S : Nat → Prop) (nv : Value) (t : Tr) (hS : ∀ y, S y → y < w.heap.size) (ht : TrAt w S nv t) (hsz : foSize t.kids + 1 ≤ 2000) :
 Calls Try.prog 122 #[nv] w fun e w' => e = .returned (.bool false) ∧ Below w.heap.size w w' := by
 obtain ⟨ka, tc, rfl, hcap, hk⟩ := ht
 have hb : Below w.heap.size w (w.alloc (.cells #[.int .i64 t.id, .int .i64 t.kind, .string t.text, .slice ka (foLen t.kids) tc] 24)) := (Below.refl _ _).alloc (Nat.le_refl _) _
 have hc := ids_any (w.alloc (.cells #[.int .i64 t.id, .int .i64 t.kind, .string t.text, .slice ka (foLen t.kids) tc] 24)) S (.agg #[.int .i64 t.id, .int .i64 t.kind, .string t.text, .slice ka (foLen t.kids) tc]) t 2001 (fun y hy => Nat.lt_of_lt_of_le (hS y hy) hb.size) ⟨ka, tc, rfl, hcap, hk.below hb hS⟩ (by omega) (by omega)
 obtain ⟨nk, hnk⟩ : ∃ nk, nk = foLen t.kids := ⟨_, rfl⟩
 rw [← hnk] at hc hb ⊢
 obtain ⟨n, hn⟩ : ∃ n, n = (idT t).length := ⟨_, rfl⟩
 have hn2 : ¬ (2000 : Int) < (n : Int) := by rw [hn, idT_length]; omega
 have HC := Lib.hid (And.intro hc (And.intro hb hn))
 clear hc hb hn hk hcap hS hsz hnk
 go_enter Try.func122, Try.ntmps122
 go_wp2_with fail
 refine HC.out.1.mono ?_
 rintro e w2 ⟨a, c, rfl, _, hb2⟩
 rw [← HC.out.2.2]
 have HN2 := Lib.hid hn2
 have HB := Lib.hid (HC.out.2.1.trans (hb2.mono HC.out.2.1.size))
 clear hb2
 go_wp2_with fail
 go_ret
 refine ⟨?_, HB.out⟩
 have e : decide ((2000 : Int) < (n : Int)) = false := decide_eq_false (by omega)
 show Ending.returned (.bool (decide ((2000 : Int) < (n : Int)))) = _
 rw [e]
end Go.Proofs.Ytonapijgfalpaaa
namespace Go.Proofs.Ytonapijgfalpaaa
open Go.RowKit Go.Shelf
open Go.Maps
def freshK : List Int → List Int → Int → Int
 | _, [], e => e
 | l, i :: r, e => if i < 1 ∨ 1125899906842624 < i then 2 else freshK (l ++ [i]) r (if l.any (· == i) = true then 60 else e)
theorem ownsS_snoc {w : World} {b n : Nat} {l : List Int} {i : Int} (h : w.ownsMap Try.prog 3 (unitElem (H := Value)) b n ((setOf (.agg []) (l.map (Lit.int .i64 ·))).put (.int .i64 i) (.agg []))) : OwnsS w b n (l ++ [i]) := by
 unfold OwnsS
 rw [List.map_append, List.map_cons, List.map_nil, setOf_snoc]; exact h
theorem drop_snoc {l : List Int} {k : Nat} {x : Int} (h : l[k]? = some x) : l.drop k = x :: l.drop (k + 1) := by
 obtain ⟨hk, e⟩ := List.getElem?_eq_some_iff.1 h
 rw [List.drop_eq_getElem_cons hk, e]
theorem own_cap {w : World} {B n cap : Nat} {a : Option Addr} {l : List Int} (h : w.ownsRow B 3 1 (.slice a n cap) n (l.map intV)) (hn : 0 < n) : ∃ g, a = some ⟨g, 0, none⟩ ∧ n ≤ cap ∧ g < w.heap.size ∧ ∀ k x, l[k]? = some x → w.cell? ⟨g, k, none⟩ = some (.int .i64 x) := by
 rcases h.2 with ⟨hv, h0⟩ | ⟨g, c', cur, hv, hB, hh, h3, _⟩
 · omega
 · cases hv
   exact ⟨g, rfl, h3, lt_of_some hh, fun k x hx => owns_cell h rfl k _ (by rw [List.getElem?_map, hx]; rfl)⟩
def FreI (w W : World) (mb : Nat) (l : List Int) (n : Nat) (X : World) : Prop := OwnsS X mb n l ∧ Below w.heap.size w X ∧ (∀ y, y < W.heap.size → y ≠ mb → X.heap[y]? = W.heap[y]?) ∧ W.heap.size ≤ X.heap.size
theorem FreI.add {w W X Y Z : World} {mb n : Nat} {l : List Int} {i : Int} (h : FreI w W mb l n X) (hY : Below X.heap.size X Y) (hg : Y.grownBy Z (some mb)) (ho : OwnsS Z mb (n + 1) (l ++ [i])) (hw : w.heap.size ≤ mb) (hWX : w.heap.size ≤ W.heap.size) : FreI w W mb (l ++ [i]) (n + 1) Z := by
 obtain ⟨h1, h2, h3, h4⟩ := h
 have h5 : ∀ y, y < X.heap.size → y ≠ mb → Z.heap[y]? = X.heap[y]? := fun y hy hne => (hg.block y (Nat.lt_of_lt_of_le hy hY.size) (fun e => hne (Option.some.inj e))).trans (hY.block y hy)
 have h6 : X.heap.size ≤ Z.heap.size := Nat.le_trans hY.size hg.size
 have h7 := h2.size
 exact ⟨ho, ⟨(hg.os.trans hY.os).trans h2.os, (hg.tape.trans hY.tape).trans h2.tape, (hg.output.trans hY.output).trans h2.output, Nat.le_trans h2.size h6, fun y hy => (h5 y (by omega) (by omega)).trans (h2.block y hy)⟩, fun y hy hne => (h5 y (by omega) hne).trans (h3 y hy hne), Nat.le_trans h4 h6⟩
set_option maxRecDepth 100000 in
set_option maxHeartbeats 8000000 in
theorem fresh_any (w : World) (S Sx : Nat → Prop) (nv xv : Value) (t x : Tr) (hS : ∀ y, S y → y < w.heap.size) (hSx : ∀ y, Sx y → y < w.heap.size) (ht : TrAt w S nv t) (hx : TrAt w Sx xv x) (hsz : foSize t.kids + 1 ≤ 2000) (hxz : foSize x.kids + 1 ≤ 2000) (hok : ∀ i ∈ idT t, (Lit.int .i64 i).wf = true) (hxk : ∀ i ∈ idT x, (Lit.int .i64 i).wf = true) :
 Calls Try.prog 186 #[nv, xv] w fun e w' => e = .returned (.int .i64 (freshK (idT t) (idT x) 0)) ∧ Below w.heap.size w w' := by
 obtain ⟨ka, tc, rfl, hcap, hk⟩ := ht
 obtain ⟨xa, xc, rfl, hxcap, hxkk⟩ := hx
 obtain ⟨tn, htn⟩ : ∃ n, n = foLen t.kids := ⟨_, rfl⟩
 obtain ⟨xn, hxn⟩ : ∃ n, n = foLen x.kids := ⟨_, rfl⟩
 rw [← htn, ← hxn]
 obtain ⟨B, hB⟩ : ∃ B, B = allocs w [.cells #[.int .i64 t.id, .int .i64 t.kind, .string t.text, .slice ka tn tc] 24, .cells #[.int .i64 x.id, .int .i64 x.kind, .string x.text, .slice xa xn xc] 24, .map #[] 0] := ⟨_, rfl⟩
 have hb : Below w.heap.size w B := by rw [hB]; exact allocs_below _ _
 have hs : B.heap.size = w.heap.size + 3 := by rw [hB]; exact allocs_size _ _
 have ht0 : B.heap[w.heap.size]? = some (.cells #[.int .i64 t.id, .int .i64 t.kind, .string t.text, .slice ka tn tc] 24 (0, 0)) := by rw [hB]; exact allocs_at _ _ 0 _ rfl
 have hx0 : B.heap[w.heap.size + 1]? = some (.cells #[.int .i64 x.id, .int .i64 x.kind, .string x.text, .slice xa xn xc] 24 (0, 0)) := by rw [hB]; exact allocs_at _ _ 1 _ rfl
 have hm0 : OwnsS B (w.heap.size + 2) 0 [] := by
  have h := World.ownsMap_made (allocs w [.cells #[.int .i64 t.id, .int .i64 t.kind, .string t.text, .slice ka tn tc] 24, .cells #[.int .i64 x.id, .int .i64 x.kind, .string x.text, .slice xa xn xc] 24]) Try.prog 3 (unitElem (H := Value))
  have e : (allocs w [.cells #[.int .i64 t.id, .int .i64 t.kind, .string t.text, .slice ka tn tc] 24, .cells #[.int .i64 x.id, .int .i64 x.kind, .string x.text, .slice xa xn xc] 24]).heap.size = w.heap.size + 2 := allocs_size _ _
  rw [e] at h
  rw [hB]; exact h
 have hidt := ids_any B S (.agg #[.int .i64 t.id, .int .i64 t.kind, .string t.text, .slice ka tn tc]) t 2000 (fun y hy => Nat.lt_of_lt_of_le (hS y hy) hb.size) ⟨ka, tc, by rw [htn], hcap, hk.below hb hS⟩ (by omega) (by omega)
 have hidx : ∀ X, Below w.heap.size w X → Calls Try.prog 158 #[.agg #[.int .i64 x.id, .int .i64 x.kind, .string x.text, .slice xa xn xc], .int .i64 2000] X (IdsC X (idT x)) := fun X hX => ids_any X Sx (.agg #[.int .i64 x.id, .int .i64 x.kind, .string x.text, .slice xa xn xc]) x 2000 (fun y hy => Nat.lt_of_lt_of_le (hSx y hy) hX.size) ⟨xa, xc, by rw [hxn], hxcap, hxkk.below hX hSx⟩ (by omega) (by omega)
 have hl1 : (idT t).length ≤ 2000 := by rw [idT_length]; omega
 have hl2 : (idT x).length ≤ 2000 := by rw [idT_length]; omega
 obtain ⟨lt, hlt⟩ : ∃ l, l = idT t := ⟨_, rfl⟩
 obtain ⟨lx, hlx⟩ : ∃ l, l = idT x := ⟨_, rfl⟩
 rw [← hlt] at hidt hl1 hok ⊢
 rw [← hlx] at hidx hl2 hxk ⊢
 have HT := Lib.hid hidt
 have HX := Lib.hid hidx
 have HOK := Lib.hid (And.intro hok hxk)
 have HB := Lib.hid (And.intro hb (And.intro hs (And.intro hx0 hm0)))
 have HBE := Lib.hid hB
 obtain ⟨b0, b1, b2, b3⟩ := box4 ht0
 have hmm := @run_makeMap Try.prog
 have hz2 : w.heap.size + 1 + 1 = w.heap.size + 2 := rfl
 clear hidt hidx hok hxk hb hs ht0 hx0 hm0 hB htn hxn hcap hk hxcap hxkk hlt hlx hS hSx hsz hxz
 go_enter Try.func186, Try.ntmps186
 go_upto_region 2 with fail
 change Code.wp _ _ _ _ (allocs w [.cells #[.int .i64 t.id, .int .i64 t.kind, .string t.text, .slice ka tn tc] 24, .cells #[.int .i64 x.id, .int .i64 x.kind, .string x.text, .slice xa xn xc] 24, .map #[] 0])
 rw [← HBE.out]
 clear hmm HBE
 go_wp2_with fail
 refine HT.out.mono ?_
 rintro e W ⟨ia, ic, rfl, hown, hbW⟩
 clear b0 b1 b2 b3
 obtain ⟨m, hm⟩ : ∃ m, m = lt.length := ⟨_, rfl⟩
 rw [← hm] at hown ⊢
 obtain ⟨mb, hmb⟩ : ∃ mb, mb = w.heap.size + 1 + 1 := ⟨_, rfl⟩
 have hmW : mb < W.heap.size := by have := HB.out.2.1; have := hbW.size; omega
 have HI0 := Lib.hid (show FreI w W mb [] 0 W from ⟨by rw [hmb]; exact HB.out.2.2.2.at (hbW.block _ (by have := HB.out.2.1; omega)), HB.out.1.trans (hbW.mono HB.out.1.size), fun _ _ _ => rfl, Nat.le_refl _⟩)
 have hneq : ∀ g, (Value.slice ia m ic).ownBlock = some g → g ≠ mb := fun g hg => by have := (owns_bounds hown hg).1; have := HB.out.2.1; omega
 have HO := Lib.hid (And.intro hown (And.intro hm (And.intro hmW (And.intro hneq (And.intro (show w.heap.size ≤ mb by omega) (show w.heap.size ≤ W.heap.size by have := HB.out.2.1; have := hbW.size; omega))))))
 have HXB := Lib.hid (And.intro ((hbW.block _ (lt_of_heap HB.out.2.2.1)).trans HB.out.2.2.1) (show w.heap.size + 1 ≠ mb by omega))
 rw [← hmb]
 have hm2 : m ≤ 2000 := by omega
 clear hown hbW hm hmb hmW hneq HT
 go_wp2_with fail
 go_loopw [17] (fun i wr => ∃ k : Nat, k ≤ m ∧ i = .int .i64 (k : Int) ∧ Hid (FreI w W mb (lt.take k) k wr)) (fun i _ => m - (intOf i).toNat)
 case atStart => exact ⟨0, Nat.zero_le _, rfl, HI0⟩
 case round =>
  obtain ⟨k, hk, rfl, hh⟩ := hrel
  by_cases hlt : k < m
  · have hki : (k : Int) < (m : Int) := by omega
    obtain ⟨i, hi⟩ : ∃ i, lt[k]? = some i := ⟨_, List.getElem?_eq_getElem (by rw [← HO.out.2.1]; exact hlt)⟩
    obtain ⟨g, rfl, hgc, hgl, hcell⟩ := own_cap HO.out.1 (by omega)
    have c0 : wr.cell? ⟨g, k, none⟩ = some (.int .i64 i) := (World.cell?_of_block (a := ⟨g, k, none⟩) (hh.out.2.2.1 g hgl (HO.out.2.2.2.1 g rfl))).trans (hcell k i hi)
    have hkey := keyOf_int_mk (P := Try.prog) Try.underlying3 (HOK.out.1 i (List.mem_of_getElem? hi))
    have hown := hh.out.1
    unfold OwnsS at hown
    have HR := Lib.hid (And.intro hi hlt)
    clear hi hlt hk hcell hgl
    go_wp2_with (at_mapUpdate; refine wpList_mapUpdate_own _ rfl _ _ _ 179 rfl 3 181 law7 Try.underlying179 unitElem mb k _ rfl hown (by unfold maxLen; omega) _ _ _ rfl rfl hkey _ [] unitElem_mk ?_; intro w5 hown5 hgrow5)
    refine ⟨⟨k + 1, by have := HR.out.2; omega, by go_num, Lib.hid ?_⟩, by have := HR.out.2; simp [intOf]; omega⟩
    rw [List.take_add_one, HR.out.1]
    exact hh.out.add (Below.refl _ _) hgrow5 (ownsS_snoc hown5) HO.out.2.2.2.2.1 HO.out.2.2.2.2.2
  · have hki : ¬ (k : Int) < (m : Int) := by omega
    have hkm : k = m := by omega
    have HKM := Lib.hid hkm
    have HIW := hh
    have hx1 := (hh.out.2.2.1 _ (lt_of_heap HXB.out.1) HXB.out.2).trans HXB.out.1
    obtain ⟨b0, b1, b2, b3⟩ := box4 hx1
    have HXX := Lib.hid (HX.out wr hh.out.2.1)
    clear hkm hlt hk hx1
    go_wp2_with fail
    refine HXX.out.mono ?_
    rintro e W2 ⟨ja, jc, rfl, hown, hbW2⟩
    clear b0 b1 b2 b3
    obtain ⟨n, hn⟩ : ∃ n, n = lx.length := ⟨_, rfl⟩
    rw [← hn] at hown ⊢
    have hl3 : lt.take k = lt := by rw [HKM.out, HO.out.2.1]; exact List.take_length
    have hmwr : mb < wr.heap.size := Nat.lt_of_lt_of_le HO.out.2.2.1 HIW.out.2.2.2
    have hI2 : FreI w W2 mb lt m W2 := by
     have h := HIW.out
     rw [hl3, HKM.out] at h
     exact ⟨h.1.at (hbW2.block _ hmwr), h.2.1.trans (hbW2.mono h.2.1.size), fun _ _ _ => rfl, Nat.le_refl _⟩
    have hneq : ∀ g, (Value.slice ja n jc).ownBlock = some g → g ≠ mb := fun g hg => by have := (owns_bounds hown hg).1; omega
    have HI2 := Lib.hid hI2
    have HO2 := Lib.hid (And.intro hown (And.intro hn (And.intro hneq (And.intro (show w.heap.size ≤ W2.heap.size by have := HIW.out.2.1.size; have := hbW2.size; omega) HO.out.2.2.2.2.1))))
    have hn2 : n ≤ 2000 := by omega
    clear hown hn hneq hl3 hmwr hI2 hbW2 HIW HKM hh HXX HO HI0 HXB HX
    go_wp2_with fail
    go_loopw [8, 28] (fun ev i X => ∃ (j : Nat) (er : Int), j ≤ n ∧ i = .int .i64 (j : Int) ∧ ev = .int .i64 er ∧ Hid (FreI w W2 mb (lt ++ lx.take j) (m + j) X ∧ freshK (lt ++ lx.take j) (lx.drop j) er = freshK lt lx 0)) (fun _ i _ => n - (intOf i).toNat)
    case atStart => exact ⟨0, 0, Nat.zero_le _, rfl, rfl, Lib.hid ⟨by simpa using HI2.out, by simp⟩⟩
    case round =>
     obtain ⟨k, er, hk, rfl, rfl, hh⟩ := hrel
     by_cases hlt : k < n
     · have hki : (k : Int) < (n : Int) := by omega
       obtain ⟨i, hi⟩ : ∃ i, lx[k]? = some i := ⟨_, List.getElem?_eq_getElem (by rw [← HO2.out.2.1]; exact hlt)⟩
       obtain ⟨g, rfl, hgc, hgl, hcell⟩ := own_cap HO2.out.1 (by omega)
       have c0 : wr.cell? ⟨g, k, none⟩ = some (.int .i64 i) := (World.cell?_of_block (a := ⟨g, k, none⟩) (hh.out.1.2.2.1 g hgl (HO2.out.2.2.1 g rfl))).trans (hcell k i hi)
       have hkey := keyOf_int_mk (P := Try.prog) Try.underlying3 (HOK.out.2 i (List.mem_of_getElem? hi))
       have hfr := hh.out.2
       rw [drop_snoc hi, freshK] at hfr
       by_cases h1 : i < 1
       · rw [if_pos (Or.inl h1)] at hfr
         have HF := Lib.hid hfr
         have HBW := Lib.hid hh.out.1.2.1
         clear hfr hi hcell hgl hh hk hlt
         go_wp2_with fail
         go_ret
         exact ⟨by rw [HF.out]; rfl, HBW.out⟩
       · by_cases h2 : 1125899906842624 < i
         · rw [if_pos (Or.inr h2)] at hfr
           have HF := Lib.hid hfr
           have HBW := Lib.hid hh.out.1.2.1
           clear hfr hi hcell hgl hh hk hlt
           go_wp2_with fail
           go_ret
           exact ⟨by rw [HF.out]; rfl, HBW.out⟩
         · rw [if_neg (by omega)] at hfr
           have hown := hh.out.1.1
           unfold OwnsS at hown
           have hmp : mb < wr.heap.size := World.ownsMap.lt hown
           have hownA : (wr.alloc (.cells #[] 181)).ownsMap Try.prog 3 (unitElem (H := Value)) mb (m + k) (setOf (.agg []) ((lt ++ lx.take k).map (Lit.int .i64 ·))) := OwnsS.at hh.out.1.1 (Below.heap_alloc _ _ _ hmp)
           obtain ⟨hb, hhb⟩ : ∃ hb, hb = (lt ++ lx.take k).any (· == i) := ⟨_, rfl⟩
           rw [← hhb] at hfr
           have htk : lt ++ lx.take (k + 1) = (lt ++ lx.take k) ++ [i] := by rw [List.take_add_one, hi, List.append_assoc]; rfl
           have HR := Lib.hid (And.intro hfr (And.intro htk (And.intro hlt hhb)))
           clear hfr htk hlt hhb hi hcell hgl hk hmp
           cases hb
           · go_wp2_with (first | at_lookup; refine wpList_lookup_own_unit _ rfl _ _ 179 rfl 3 181 law7 Try.underlying179 (zeroU _) mb (m + k) _ rfl hown _ _ rfl hkey ?_; rw [has_ids]; rw [← HR.out.2.2.2] | at_mapUpdate; refine wpList_mapUpdate_own _ rfl _ _ _ 179 rfl 3 181 law7 Try.underlying179 unitElem mb (m + k) _ rfl hownA (by unfold maxLen; omega) _ _ _ rfl rfl hkey _ [] unitElem_mk ?_; intro w5 hown5 hgrow5)
             refine ⟨⟨k + 1, er, by have := HR.out.2.2.1; omega, by go_num, by trivial, Lib.hid ⟨?_, ?_⟩⟩, by have := HR.out.2.2.1; simp [intOf]; omega⟩
             · rw [HR.out.2.1]
               exact hh.out.1.add (box_below _ _) hgrow5 (ownsS_snoc hown5) HO2.out.2.2.2.2 HO2.out.2.2.2.1
             · rw [HR.out.2.1]
               have h := HR.out.1
               rw [if_neg Bool.false_ne_true] at h
               exact h
           · go_wp2_with (first | at_lookup; refine wpList_lookup_own_unit _ rfl _ _ 179 rfl 3 181 law7 Try.underlying179 (zeroU _) mb (m + k) _ rfl hown _ _ rfl hkey ?_; rw [has_ids]; rw [← HR.out.2.2.2] | at_mapUpdate; refine wpList_mapUpdate_own _ rfl _ _ _ 179 rfl 3 181 law7 Try.underlying179 unitElem mb (m + k) _ rfl hownA (by unfold maxLen; omega) _ _ _ rfl rfl hkey _ [] unitElem_mk ?_; intro w5 hown5 hgrow5)
             refine ⟨⟨k + 1, 60, by have := HR.out.2.2.1; omega, by go_num, by trivial, Lib.hid ⟨?_, ?_⟩⟩, by have := HR.out.2.2.1; simp [intOf]; omega⟩
             · rw [HR.out.2.1]
               exact hh.out.1.add (box_below _ _) hgrow5 (ownsS_snoc hown5) HO2.out.2.2.2.2 HO2.out.2.2.2.1
             · rw [HR.out.2.1]
               have h := HR.out.1
               rw [if_pos rfl] at h
               exact h
     · have hki : ¬ (k : Int) < (n : Int) := by omega
       have hkn : k = n := by omega
       have hfr := hh.out.2
       rw [List.drop_eq_nil_of_le (by rw [hkn, HO2.out.2.1]; exact Nat.le_refl _), freshK] at hfr
       have HF := Lib.hid hfr
       have HBW := Lib.hid hh.out.1.2.1
       clear hfr hkn hlt hk hh
       go_wp2_with fail
       go_ret
       exact ⟨by rw [HF.out]; rfl, HBW.out⟩
end Go.Proofs.Ytonapijgfalpaaa
namespace Go.Proofs.Ytonapijgfalpaaa
open Go.RowKit Go.Shelf
def opsV : Value := .agg #[.nilFunc, .func (.func 159) #[] #[], .func (.func 160) #[] #[], .func (.func 161) #[] #[], .func (.func 162) #[] #[]]
def opsO : Obj := .cells #[.nilFunc, .func (.func 159) #[] #[], .func (.func 160) #[] #[], .func (.func 161) #[] #[], .func (.func 162) #[] #[]] 146 (0, 0)
set_option maxRecDepth 100000 in
theorem operations_any (w : World) : Calls Try.prog 123 #[] w fun e w' => e = .returned opsV ∧ Below w.heap.size w w' := by
 go_enter Try.func123, Try.ntmps123
 go_wp2_with fail
 exact bodyPost_ret (results_cellW rfl _ _ w.heap.size 146 _ _ _ rfl (heap_alloc_new w _) Try.underlying146 rfl (by kernel_rfl)) rfl ⟨rfl, (Below.refl _ _).alloc (Nat.le_refl _) _⟩
theorem FoAt.cells {w : World} {S : Nat → Prop} : ∀ {f : Fo} {a : Option Addr}, FoAt w S f a → FoAt w (fun x => CellsB w x ∧ S x) f a
 | .nil, _, _ => True.intro
 | .node _ _ k l r, a, h => by
   obtain ⟨b, off, ka, cap, e, hb, h0, h1, h2, h3, h4, h5, h6⟩ := h
   exact ⟨b, off, ka, cap, e, ⟨cellsB h0, hb⟩, h0, h1, h2, h3, h4, h5.cells, h6.cells⟩
theorem heap_alloc_size1 (w : World) (o : Obj) : (w.alloc o).heap.size = w.heap.size + 1 := by simp
def applyR (r : Tr × Int) : Tr := if r.2 = 0 then r.1 else zeroK
def ApplyC (w : World) (T : Nat → Prop) (r : Tr × Int) (e : Ending) (w' : World) : Prop := ∃ v, e = .returned (.tuple #[v, .int .i64 r.2]) ∧ TrAt w' (fun y => CellsB w' y ∧ (T y ∨ w.heap.size ≤ y)) v (applyR r) ∧ Below w.heap.size w w'
theorem apply_end {P : Program} {fn : Func} {p u : Tmp} (h : fn.results = #[.cell p 24, .tmp u]) (hP : P = Try.prog) {w W : World} {T : Nat → Prop} {tmps : Array Value} {r : Tr × Int} {g m kc : Nat} {kb : Option Addr} {y : Tr} (hb : Below w.heap.size w W) (hz : W.heap[g]? = some (.cells #[.int .i64 y.id, .int .i64 y.kind, .string y.text, .slice kb m kc] 24 (0, 0))) (hm : m = foLen y.kids) (hc : foLen y.kids ≤ kc) (hf : FoAt W (fun z => CellsB W z ∧ (T z ∨ w.heap.size ≤ z)) y.kids kb) (hy : applyR r = y)
 (h1 : tmps.getD p undef = .pointer (some ⟨g, 0, none⟩)) (h2 : tmps.getD u undef = .int .i64 r.2) : bodyPost P fn (ApplyC w T r) .ret { tmps, defers := [] } W := by
 subst hP
 refine bodyPost_ret (results_cellT h tmps W g 24 _ _ _ (.int .i64 r.2) h1 hz Try.underlying24 rfl (by kernel_rfl) h2) rfl ?_
 exact ⟨_, rfl, by rw [hy]; exact ⟨kb, kc, by rw [hm], hc, hf⟩, hb⟩
end Go.Proofs.Ytonapijgfalpaaa
