/-
  .
-/
import Derived.Test.YtonapijgfalpaaaHWayQw
import Derived.Test.YtonapijgfalpaaaHSharedQw
import Derived.Test.YtonapijgfalpaaaVRangeQw
import Derived.Deep.RegionHeld3
import Derived.StillTailTactics
import Derived.Deep.RegionHeld
import Derived.Test.YtonapijgfalpaaaJPgQw
set_option linter.unusedVariables false
set_option linter.unusedSimpArgs false
namespace Go.Proofs.Ytonapijgfalpaaa
open Go.RowKit Go.Shelf
theorem fpi_root (id : Int) (t : Tr) : fpi id 0 (rootF t) = (pathT id t).map (fun p => 0 :: p) := by
 simp only [rootF, fpi, pathT]
 by_cases h : t.id = id
 · rw [if_pos h, if_pos h]; rfl
 · rw [if_neg h, if_neg h]
   cases fpi id 0 t.kids <;> rfl
theorem chain_drop {root : Fo} : ∀ (j : Nat) (L : List Fr), ChainS root L → ChainS root (L.drop j)
 | 0, _, h => h
 | j + 1, [], h => by simpa using h
 | j + 1, x :: L, h => chain_drop j L h.tail
theorem places_length (L : List Fr) : (places L).length = L.length := by simp [places]
theorem places_drop (L : List Fr) (k : Nat) (hk : k < L.length) : places (L.drop (L.length - 1 - k)) = (places L).take (k + 1) := by
 rw [places, places, ← List.map_take, List.take_reverse]
 congr 3; omega
theorem WayAt.at {w' : World} {S : Nat → Prop} {t : Tr} {id : Int} {rv : Value} {L : List Fr} (h : WayAt w' S t id rv L) {k : Nat} (hk : k < L.length) : ∃ (g n cap b off q c pl : Nat) (u : Tr), rv = .slice (some ⟨g, 0, none⟩) n cap ∧ n = L.length ∧ n ≤ cap ∧ w'.cell? ⟨g, k * 2, none⟩ = some (.slice (some ⟨b, off, none⟩) q c) ∧ w'.cell? ⟨g, k * 2 + 1, none⟩ = some (.int .i64 (pl : Int)) ∧ pl < q ∧ q ≤ foSize t.kids + 1 ∧
 w'.cell? ⟨b, off + pl * 4, none⟩ = some (.int .i64 u.id) ∧ (places L)[k]? = some pl ∧ atT t (((places L).drop 1).take k) = some u := by
 obtain ⟨x, r, hxr⟩ : ∃ x r, L.drop (L.length - 1 - k) = x :: r := by
  cases hd : L.drop (L.length - 1 - k) with
  | nil => have := congrArg List.length hd; rw [List.length_drop, List.length_nil] at this; omega
  | cons x r => exact ⟨x, r, rfl⟩
 have hmem : ∀ y ∈ x :: r, y ∈ L := fun y hy => by rw [← hxr] at hy; exact List.mem_of_mem_drop hy
 have hxk : L.reverse[k]? = some x := by
  rw [List.getElem?_reverse hk]
  have h0 : (L.drop (L.length - 1 - k))[0]? = some x := by rw [hxr]; rfl
  rwa [List.getElem?_drop, Nat.add_zero] at h0
 obtain ⟨a, cap, rfl⟩ := owns_slice h.rows
 have hcap : L.length ≤ cap := by
  rcases h.rows.2 with ⟨hv, h0⟩ | ⟨_, _, _, hv, _, _, h3, _⟩
  · omega
  · cases hv; exact h3
 obtain ⟨g, rfl, hn, c0, c1, _⟩ := RowsAt.at h.rows hxk
 have hch := chain_drop (L.length - 1 - k) L h.chain
 rw [hxr] at hch
 obtain ⟨p, u, hp, hat, hu⟩ := chain_at (t := t) (x :: r) hch (fun y hy => h.ok y (hmem y hy)) x r rfl
 have hok := h.ok x (hmem x (by simp))
 obtain ⟨b0, o0, key, l, q, hd, b, off, ka, kc, ha, hSb, d0, _⟩ := (h.lies x (hmem x (by simp))).1.at x.p.toNat (by have := hok.1; have := hok.2; omega)
 have huk : u = ⟨key.1, key.2.1, key.2.2, l⟩ := by rw [kidF, hd] at hu; cases hu; rfl
 have hpx : x.p = (x.p.toNat : Int) := by have := hok.1; omega
 rw [hpx] at c1
 rw [ha] at c0
 have hl := chain_size _ h.chain x (hmem x (by simp))
 rw [rootF_size] at hl
 have hpl : places L = (places L).take (k + 1) ++ (places L).drop (k + 1) := (List.take_append_drop _ _).symm
 have hpk := places_drop L k hk
 rw [hxr, hp] at hpk
 refine ⟨g, L.length, cap, b, off, foLen x.f, x.cap, x.p.toNat, u, rfl, rfl, hcap, c0, c1, by have := hok.2; have := hok.1; omega, by omega, by rw [huk]; exact d0, ?_, ?_⟩
 · rw [places, List.getElem?_map, hxk]; rfl
 · have e : ((places L).drop 1).take k = p := by
    have h1 : (places L).drop 1 = ((places L).take (k + 1)).drop 1 ++ (places L).drop (k + 1) := by
     have h2 := List.drop_take (i := 1) (j := k + 1) (l := places L)
     rw [h2, Nat.add_sub_cancel]
     have h3 := List.take_append_drop k ((places L).drop 1)
     rw [List.drop_drop] at h3
     rw [Nat.add_comm k 1]
     exact h3.symm
    rw [h1, ← hpk]
    have hlen : p.length = k := by
     have := congrArg List.length hpk
     rw [List.length_take, places_length, List.length_cons] at this; omega
    simp [hlen]
   rw [e]; exact hat
theorem WayAt.path {w' : World} {S : Nat → Prop} {t : Tr} {id : Int} {rv : Value} {L : List Fr} (h : WayAt w' S t id rv L) : (L = [] ∧ pathT id t = none) ∨ (∃ p, pathT id t = some p ∧ places L = 0 :: p ∧ L.length = p.length + 1) := by
 have h1 := h.is
 rw [fpi_root] at h1
 rcases h1 with ⟨h1, h2⟩ | ⟨h1, h2⟩
 · left
   refine ⟨h1, ?_⟩
   cases hp : pathT id t with
   | none => rfl
   | some p => rw [hp] at h2; cases h2
 · right
   cases hp : pathT id t with
   | none => rw [hp] at h2; cases h2
   | some p =>
     rw [hp] at h2
     have h3 := Option.some.inj h2
     exact ⟨p, rfl, h3.symm, by rw [← places_length, ← h3]; rfl⟩
theorem WayAt.kept {w w' : World} {S : Nat → Prop} {t : Tr} {id : Int} {rv : Value} {L : List Fr} (h : WayAt w S t id rv L) (hb : Below w.heap.size w w') : WayAt w' S t id rv L :=
 ⟨h.rows.kept fun g hg => hb.block g (owns_bounds h.rows hg).2, h.ok, fun y hy => ⟨(h.lies y hy).1.kept fun k hk => ⟨hk, hb.block k (h.sl k hk)⟩, (h.lies y hy).2⟩, h.chain, h.is, h.few, fun y hy => Nat.lt_of_lt_of_le (h.sl y hy) hb.size⟩
def withinT (a b : Int) (t : Tr) : Bool := match pathT a t, pathT b t with
 | some p, some q => decide (lcp p q = p.length)
 | _, _ => false
theorem box_below (w : World) (o : Obj) : Below w.heap.size w (w.alloc o) := (Below.refl _ _).alloc (Nat.le_refl _) _
def natI (p : List Nat) : List Int := p.map (fun n : Nat => (n : Int))
theorem natI_length (p : List Nat) : (natI p).length = p.length := by simp [natI]
theorem make_len (W : World) (q : Nat) (h : q ≤ 1000000) : ∃ zs : Array Value, zs.size = q ∧ (Instr.makeSlice 64 (.int .i64 (q : Int)) (.int .i64 (q : Int))).run Try.prog W = .ok (.slice (some ⟨W.heap.size, 0, none⟩) q q) (W.alloc (.cells zs 3)) := by
 obtain ⟨i0, hi, hz0, hz1, hz2⟩ := info_parts Try.infoInt
 have hr := run_makeSlice (P := Try.prog) W 64 3 i0 (.int .i64 0) Try.underlying64 hi hz0 .i64 .i64 (q : Int) (q : Int) (by omega) (by omega) (by rw [hz1]; omega) (by rw [hz2]; omega) (by omega)
 rw [hz1] at hr
 exact ⟨_, (size_madeCells _ _).trans (Nat.mul_one q), by rw [hr]; simp; rfl⟩
def PathC (w : World) (p : Option (List Nat)) (e : Ending) (w' : World) : Prop := ∃ v, e = .returned (.tuple #[v, .bool p.isSome]) ∧ w'.ownsRow w.heap.size 3 1 v (natI (p.getD [])).length ((natI (p.getD [])).map intV) ∧ Below w.heap.size w w'
def PathI (W : World) (w0 : World) (zs : Array Value) (p : List Nat) (k : Nat) (wr : World) : Prop := wr.ownsRow w0.heap.size 3 1 (.slice (some ⟨W.heap.size, 0, none⟩) p.length p.length) p.length (((natI p).map intV).take k ++ zs.toList.drop k) ∧ Below W.heap.size W wr
theorem PathI.step {W w0 wr : World} {zs : Array Value} {p : List Nat} {k x : Nat} {o : Obj} (h : PathI W w0 zs p k wr) (hz : zs.size = p.length) (hx : p[k]? = some x) : PathI W w0 zs p (k + 1) ((wr.setCell ⟨W.heap.size, k, none⟩ (.int .i64 (x : Int))).alloc o) := by
 have hk := (List.getElem?_eq_some_iff.1 hx).1
 have h2 := (World.ownsRow.stored h.1 k (.int .i64 (x : Int))).1
 have e : (((natI p).map intV).take k ++ zs.toList.drop k).set k (.int .i64 (x : Int)) = ((natI p).map intV).take (k + 1) ++ zs.toList.drop (k + 1) := by
  have hl : (((natI p).map intV).take k).length = k := by rw [List.length_take, List.length_map, natI_length]; omega
  rw [List.set_append_right _ _ (by omega), hl, Nat.sub_self]
  have hz2 : k < zs.toList.length := by rw [Array.length_toList]; omega
  rw [← List.getElem_cons_drop hz2, pgE, List.take_add_one]
  have h3 : ((natI p).map intV)[k]? = some (.int .i64 (x : Int)) := by rw [List.getElem?_map, natI, List.getElem?_map, hx]; rfl
  rw [h3]; simp
 rw [e] at h2
 have h4 := h.2.setCell (p := ⟨W.heap.size, k, none⟩) (Nat.le_refl _) (.int .i64 (x : Int))
 exact ⟨h2.alloc o, h4.alloc h4.size o⟩
set_option maxRecDepth 100000 in
set_option maxHeartbeats 2000000 in
theorem path_any (w : World) (S : Nat → Prop) (nv : Value) (t : Tr) (id : Int) (hS : ∀ x, S x → x < w.heap.size) (ht : TrAt w S nv t) (hsz : foSize t.kids ≤ 400000) : Calls Try.prog 67 #[nv, .int .i64 id] w (PathC w (pathT id t)) := by
 obtain ⟨ka, tc, rfl, hcap, hk⟩ := ht
 have hb := box_below w (.cells #[.int .i64 t.id, .int .i64 t.kind, .string t.text, .slice ka (foLen t.kids) tc] 24)
 have hway := way_any (w.alloc (.cells #[.int .i64 t.id, .int .i64 t.kind, .string t.text, .slice ka (foLen t.kids) tc] 24)) S _ t id (fun x hx => Nat.lt_of_lt_of_le (hS x hx) hb.size) ⟨ka, tc, rfl, hcap, hk.below hb hS⟩ hsz
 have HC := Lib.hid (And.intro hway hb)
 obtain ⟨n, hn⟩ : ∃ n, n = foLen t.kids := ⟨_, rfl⟩
 rw [← hn] at HC ⊢
 clear hway hb hk hcap hS hn
 go_enter Try.func67, Try.ntmps67
 go_wp2_with fail
 refine HC.out.1.mono ?_
 rintro e W ⟨rv, L, rfl, hw, hb, _⟩
 have hbW : Below w.heap.size w W := HC.out.2.trans (hb.mono HC.out.2.size)
 rcases hw.path with ⟨rfl, hp⟩ | ⟨p, hp, hpl, hlen⟩
 · obtain ⟨a, c, rfl⟩ := owns_slice hw.rows
   have HE := Lib.hid (And.intro hp hbW)
   clear hw hb hp hbW HC
   simp only [List.length_nil]
   go_wp2_with fail
   go_ret2
   exact ⟨.slice none 0 0, by rw [HE.out.1]; rfl, by rw [HE.out.1]; exact World.ownsRow_nil _ _ _ _, HE.out.2⟩
 · obtain ⟨m, hm⟩ : ∃ m, m = p.length := ⟨_, rfl⟩
   rw [← hm] at hlen
   obtain ⟨g, n2, cap, _, _, _, _, _, _, rfl, rfl, hnc, _⟩ := hw.at (k := 0) (by omega)
   have hfew := hw.few
   have hrow : ∀ (k x : Nat), p[k]? = some x → ∃ (a : Option Addr) (q c : Nat), W.cell? ⟨g, 2 + k * 2, none⟩ = some (.slice a q c) ∧ W.cell? ⟨g, 2 + k * 2 + 1, none⟩ = some (.int .i64 (x : Int)) := fun k x hx => by
    obtain ⟨g', _, _, b, off, q, c, pl, u2, e2, _, _, c0, c2, _, _, _, hpk2, _⟩ := hw.at (k := k + 1) (by have := (List.getElem?_eq_some_iff.1 hx).1; omega)
    cases e2
    rw [hpl, List.getElem?_cons_succ, hx] at hpk2
    cases hpk2
    rw [show (k + 1) * 2 = 2 + k * 2 by omega] at c0 c2
    exact ⟨_, _, _, c0, c2⟩
   rw [hlen]
   rw [hlen] at hnc hfew
   obtain ⟨zs, hzs, hmk⟩ := make_len W m (by omega)
   have hgl : g < W.heap.size := (owns_bounds hw.rows (g := g) rfl).2
   have HST : Hid (PathI W w zs p 0 (W.alloc (.cells zs 3))) := Lib.hid ⟨⟨by rw [List.take_zero, List.nil_append, List.drop_zero, Array.length_toList]; omega, Or.inr ⟨W.heap.size, p.length, zs, rfl, hbW.size, heap_alloc_new W _, Nat.le_refl _, by unfold maxLen; omega, by omega, by rw [List.take_zero, List.nil_append, List.drop_zero]; rw [List.take_of_length_le (by rw [Array.length_toList]; omega)]⟩⟩, box_below W _⟩
   have HE := Lib.hid (And.intro hp (And.intro hbW (And.intro hm (And.intro hrow hzs))))
   have hmb : m ≤ 1000000 := by omega
   have hmz : ((m : Int) + 1 == 0) = false := by simp; omega
   have hmw : IntKind.i64.wrap (m : Int) = (m : Int) := IntWalk.i64_in _ (by omega)
   have hm1 : (1 : Int) ≤ (m : Int) + 1 := by omega
   have hcc : (m : Int) + 1 ≤ (cap : Int) := by omega
   clear hw hb hp hbW HC hlen hpl hrow hzs hfew hm
   go_wp2_with fail
   all_goals
    go_loopw [23] (fun i wr => ∃ k : Nat, k ≤ m ∧ i = .int .i64 (k : Int) ∧ Hid (PathI W w zs p k wr)) (fun i _ => m - (intOf i).toNat)
    case atStart => exact ⟨0, Nat.zero_le _, rfl, HST⟩
    case round =>
     obtain ⟨k, hk, rfl, hh⟩ := hrel
     clear HST
     by_cases hlt : k < m
     · first
        | (exfalso; omega)
        | (obtain ⟨x, hx⟩ : ∃ x, p[k]? = some x := ⟨_, List.getElem?_eq_getElem (by rw [← HE.out.2.2.1]; exact hlt)⟩
           obtain ⟨a, q, c, c0, c1⟩ := HE.out.2.2.2.1 k x hx
           obtain ⟨v0, hv0⟩ : ∃ v0, zs.toList[k]? = some v0 := ⟨_, List.getElem?_eq_getElem (by rw [Array.length_toList, HE.out.2.2.2.2]; exact hlt)⟩
           have hown := hh.out.1
           have hcell := World.ownsRow.cellAt hown k (by rw [← HE.out.2.2.1]; omega)
           have hfz := World.ownsRow.frozenAt hown k
           rw [List.getElem?_append_right (by rw [List.length_take, List.length_map, natI_length]; omega), List.length_take, List.length_map, natI_length, List.getElem?_drop, show k + (k - min k p.length) = k by (have := HE.out.2.2.1; omega), hv0] at hcell
           have d0 : wr.cell? ⟨g, 2 + k * 2, none⟩ = some (.slice a q c) := (hh.out.2.cell (p := ⟨g, 2 + k * 2, none⟩) hgl).trans c0
           have d1 : wr.cell? ⟨g, 2 + k * 2 + 1, none⟩ = some (.int .i64 (x : Int)) := (hh.out.2.cell (p := ⟨g, 2 + k * 2 + 1, none⟩) hgl).trans c1
           have hWl : W.heap.size < wr.heap.size := (World.block_lt_of_cell? _ _ hcell)
           have hcellA : ∀ o, (wr.alloc o).cell? ⟨W.heap.size, k, none⟩ = some v0 := fun o => (World.cell?_of_block (Below.heap_alloc wr o W.heap.size hWl)).trans hcell
           have hfzA : ∀ o, (wr.alloc o).frozen? ⟨W.heap.size, k, none⟩ = false := fun o => (World.frozen?_of_block (Below.heap_alloc wr o W.heap.size hWl)).trans hfz
           have hnx := fun o => hh.out.step (o := o) (by rw [HE.out.2.2.2.2]; exact HE.out.2.2.1) hx
           have HN := Lib.hid hnx
           have hki : (k : Int) < (m : Int) := by omega
           have HLT := Lib.hid hlt
           clear hx c0 c1 hv0 hown hcell hfz hnx hlt hk hh
           go_wp2_with fail
           exact ⟨⟨k + 1, by have := HLT.out; omega, by go_num, Lib.hid (HN.out _)⟩, by have := HLT.out; simp [intOf]; omega⟩)
     · have hki : ¬ (k : Int) < (m : Int) := by omega
       have hkm : k = m := by omega
       have HO := Lib.hid (And.intro hh.out hkm)
       clear hh hk hlt hkm
       go_wp2_with fail
       go_ret2
       obtain ⟨⟨ho, hb9⟩, hkm⟩ := HO.out
       refine ⟨.slice (some ⟨W.heap.size, 0, none⟩) m m, by rw [HE.out.1]; rfl, ?_, HE.out.2.1.trans (hb9.mono HE.out.2.1.size)⟩
       rw [HE.out.1]
       show World.ownsRow _ _ _ _ _ (natI p).length ((natI p).map intV)
       rw [natI_length]
       rw [List.take_of_length_le (by rw [List.length_map, natI_length]; have := HE.out.2.2.1; omega), List.drop_eq_nil_of_le (by rw [Array.length_toList]; have := HE.out.2.2.2.2; omega), List.append_nil] at ho
       rw [HE.out.2.2.1]
       exact ho
attribute [local go_sem] Oper.semAt_some
def IdsAt (w : World) (b : Nat) (ids : List Int) (S : Nat → Prop) : Prop := ∃ a cap, w.heap[b]? = some (.cells #[.slice a ids.length cap] 64 (0, 0)) ∧ w.ownsRow 0 3 1 (.slice a ids.length cap) ids.length (ids.map intV) ∧ S b ∧ (∀ g, (Value.slice a ids.length cap).ownBlock = some g → S g) ∧ ∀ y, S y → y < w.heap.size
theorem IdsAt.kept {w w' : World} {b : Nat} {ids : List Int} {S : Nat → Prop} (h : IdsAt w b ids S) (hs : w.heap.size ≤ w'.heap.size) (hk : ∀ y, S y → w'.heap[y]? = w.heap[y]?) : IdsAt w' b ids S := by
 obtain ⟨a, cap, h1, h2, h3, h4, h5⟩ := h
 exact ⟨a, cap, (hk b h3).trans h1, owns_kept h2 (fun g cur hc hg => hk g (h4 g hg)), h3, h4, fun y hy => Nat.lt_of_lt_of_le (h5 y hy) hs⟩
end Go.Proofs.Ytonapijgfalpaaa
namespace Go.Proofs.Ytonapijgfalpaaa
open Go.RowKit Go.Shelf
theorem lcp_cons (p q : List Nat) : lcp (0 :: p) (0 :: q) = lcp p q + 1 := by simp [lcp]
theorem lcp_nil (l : List Nat) : lcp ([] : List Nat) l = 0 := by simp [lcp]
theorem lcp_nil' (l : List Nat) : lcp l ([] : List Nat) = 0 := by cases l <;> simp [lcp]
theorem places_nil : places [] = [] := rfl
set_option maxRecDepth 100000 in
set_option maxHeartbeats 2000000 in
theorem within_any (w : World) (S : Nat → Prop) (nv : Value) (t : Tr) (a b : Int) (hS : ∀ x, S x → x < w.heap.size) (ht : TrAt w S nv t) (hsz : foSize t.kids ≤ 400000) : Calls Try.prog 65 #[nv, .int .i64 a, .int .i64 b] w fun e w' => e = .returned (.bool (withinT a b t)) ∧ Below w.heap.size w w' := by
 obtain ⟨ka, tc, rfl, hcap, hk⟩ := ht
 obtain ⟨B, hB⟩ : ∃ B, B = w.alloc (.cells #[.int .i64 t.id, .int .i64 t.kind, .string t.text, .slice ka (foLen t.kids) tc] 24) := ⟨_, rfl⟩
 have hb := box_below w (.cells #[.int .i64 t.id, .int .i64 t.kind, .string t.text, .slice ka (foLen t.kids) tc] 24)
 have hbx := heap_alloc_new w (.cells #[.int .i64 t.id, .int .i64 t.kind, .string t.text, .slice ka (foLen t.kids) tc] 24)
 rw [← hB] at hb hbx
 have hway := fun (i : Int) (X : World) (hX : Below B.heap.size B X) => way_any X S (.agg #[.int .i64 t.id, .int .i64 t.kind, .string t.text, .slice ka (foLen t.kids) tc]) t i (fun x hx => Nat.lt_of_lt_of_le (hS x hx) (Nat.le_trans hb.size hX.size)) ⟨ka, tc, rfl, hcap, hk.below (hb.trans (hX.mono hb.size)) hS⟩ hsz
 obtain ⟨n, hn⟩ : ∃ n, n = foLen t.kids := ⟨_, rfl⟩
 rw [← hn] at hB hbx
 simp only [← hn] at hway
 have HC := Lib.hid (And.intro hway (And.intro hb (And.intro hB hbx)))
 rw [← hn]
 obtain ⟨pr, hpr⟩ : ∃ pr, pr = withinT a b t := ⟨_, rfl⟩
 have HP := Lib.hid hpr
 have hpe : (.bool (withinT a b t) : Value) = (.bool (pr)) := by rw [hpr]
 rw [hpe]
 clear hway hb hk hcap hS hn hpr hpe hB hbx
 go_enter Try.func65, Try.ntmps65
 go_wp2_with fail
 rw [← HC.out.2.2.1]
 refine (HC.out.1 a B (Below.refl _ _)).mono ?_
 rintro e W ⟨rv, L, rfl, hw, hb, _⟩
 have hbxW := (hb.block _ (lt_of_heap HC.out.2.2.2)).trans HC.out.2.2.2
 have n0 : W.cell? ⟨w.heap.size, 0, none⟩ = some (.int .i64 t.id) := by rw [cell_of_row _ _ 0 _ _ _ hbxW]; rfl
 have n1 : W.cell? ⟨w.heap.size, 1, none⟩ = some (.int .i64 t.kind) := by rw [cell_of_row _ _ 1 _ _ _ hbxW]; rfl
 have n2 : W.cell? ⟨w.heap.size, 2, none⟩ = some (.string t.text) := by rw [cell_of_row _ _ 2 _ _ _ hbxW]; rfl
 have n3 : W.cell? ⟨w.heap.size, 3, none⟩ = some (.slice ka n tc) := by rw [cell_of_row _ _ 3 _ _ _ hbxW]; rfl
 have HW := Lib.hid (And.intro hw hb)
 clear hw hb hbxW
 go_wp2_with fail
 refine (HC.out.1 b W HW.out.2).mono ?_
 rintro e W2 ⟨rv2, L2, rfl, hw2, hb2, _⟩
 have hw := HW.out.1.kept hb2
 have hb9 : Below w.heap.size w W2 := (HC.out.2.1.trans (HW.out.2.mono HC.out.2.1.size)).trans (hb2.mono (Nat.le_trans HC.out.2.1.size HW.out.2.size))
 have hsh := shared_any W2 rv rv2 L L2 hw.rows hw2.rows (by have := hw.few; omega) (by have := hw2.few; omega)
 rw [lcp_places L L2 hw.ok hw2.ok] at hsh
 have H2 := Lib.hid (And.intro hw (And.intro hw2 hb9))
 have HSH := Lib.hid hsh
 clear hw hw2 hb2 hb9 hsh n0 n1 n2 n3
 go_wp2_with fail
 refine HSH.out.mono ?_
 rintro e W3 ⟨rfl, hb3⟩
 have hw3 := H2.out.1.kept hb3
 have hbz : Below w.heap.size w W3 := H2.out.2.2.trans (hb3.mono H2.out.2.2.size)
 obtain ⟨ra, rc, rfl⟩ := owns_slice hw3.rows
 obtain ⟨m, hm⟩ : ∃ m, m = lcp (places L) (places L2) := ⟨_, rfl⟩
 obtain ⟨len, hlen⟩ : ∃ len, len = L.length := ⟨_, rfl⟩
 have hml := lcp_le (places L) (places L2)
 rw [places_length, places_length, ← hm, ← hlen] at hml
 have hfew := hw3.few
 rw [← hlen] at hfew
 have hres : pr = (decide (0 < m) && decide (m = len)) := by
  rw [HP.out, withinT]
  rcases H2.out.1.path with ⟨h1, h2⟩ | ⟨p, h2, h3, h4⟩
  · rw [h2, hm, h1, places_nil, lcp_nil]; rfl
  · rw [h2]
    rcases H2.out.2.1.path with ⟨g1, g2⟩ | ⟨q, g2, g3, g4⟩
    · rw [g2, hm, g1, places_nil, lcp_nil']; simp
    · rw [g2, hm, h3, g3, lcp_cons, hlen, h4]
      simp only []
      rw [show decide (0 < lcp p q + 1) = true by simp, Bool.true_and]
      rw [decide_eq_decide]; omega
 have HE := Lib.hid (And.intro hres hbz)
 rw [← hm]
 rw [← hlen]
 clear hw3 hbz hb3 hres hm hlen hfew HSH HW HC
 by_cases h0 : 0 < m
 · have h0i : (0 : Int) < (m : Int) := by omega
   by_cases hq : m = len
   · have hqi : ((m : Int) == (len : Int)) = true := by simp; omega
     have HQ := Lib.hid (And.intro h0 hq)
     clear hq h0
     go_wp2_with fail
     go_ret
     exact ⟨congrArg (fun z => Ending.returned (.bool z)) (by rw [HE.out.1]; simp [HQ.out.1, HQ.out.2] <;> (have := HQ.out.1; have := HQ.out.2; omega)), HE.out.2⟩
   · have hqi : ((m : Int) == (len : Int)) = false := by simp; omega
     have HQ := Lib.hid (And.intro h0 hq)
     clear hq h0
     go_wp2_with fail
     go_ret
     exact ⟨congrArg (fun z => Ending.returned (.bool z)) (by rw [HE.out.1]; simp [HQ.out.2]), HE.out.2⟩
 · have h0i : ¬ (0 : Int) < (m : Int) := by omega
   have HQ := Lib.hid h0
   clear h0
   go_wp2_with fail
   go_ret
   exact ⟨congrArg (fun z => Ending.returned (.bool z)) (by rw [HE.out.1]; simp [HQ.out]), HE.out.2⟩
def IntsL (w : World) (S : Nat → Prop) (a : Option Addr) (cap : Nat) (l : List Int) : Prop := l.length ≤ cap ∧ (l = [] ∨ ∃ b off, a = some ⟨b, off, none⟩ ∧ S b ∧ ∀ k x, l[k]? = some x → w.cell? ⟨b, off + k, none⟩ = some (.int .i64 x))
theorem IntsL.kept {w w' : World} {S S' : Nat → Prop} {a : Option Addr} {cap : Nat} {l : List Int} (h : IntsL w S a cap l) (hS : ∀ k, S k → S' k ∧ w'.heap[k]? = w.heap[k]?) : IntsL w' S' a cap l := by
 obtain ⟨h0, h1⟩ := h
 refine ⟨h0, h1.imp (fun h => h) ?_⟩
 rintro ⟨b, off, e, hb, hc⟩
 exact ⟨b, off, e, (hS b hb).1, fun k x hx => (World.cell?_of_block (hS b hb).2).trans (hc k x hx)⟩
theorem intsL_own {w : World} {B : Nat} {a : Option Addr} {cap n : Nat} {l : List Int} (h : w.ownsRow B 3 1 (.slice a n cap) n (l.map intV)) : IntsL w (fun y => B ≤ y ∧ y < w.heap.size) a cap l ∧ n = l.length := by
 have hl : n = l.length := by have := h.1; rw [List.length_map] at this; omega
 rcases h.2 with ⟨hv, h0⟩ | ⟨g, c', cur, hv, hB, hh, h3, h4, h5, h6⟩
 · cases hv
   exact ⟨⟨by omega, Or.inl (List.length_eq_zero_iff.1 (by omega))⟩, hl⟩
 · cases hv
   refine ⟨⟨by omega, Or.inr ⟨g, 0, rfl, ⟨hB, lt_of_some hh⟩, fun k x hx => ?_⟩⟩, hl⟩
   rw [Nat.zero_add]
   exact owns_cell h rfl k _ (by rw [List.getElem?_map, hx]; rfl)
theorem IntsL.drop {w : World} {S : Nat → Prop} {b off cap : Nat} {l : List Int} (h : IntsL w S (some ⟨b, off, none⟩) cap l) (m : Nat) : IntsL w S (some ⟨b, off + m, none⟩) (cap - m) (l.drop m) := by
 obtain ⟨h0, h1⟩ := h
 refine ⟨by rw [List.length_drop]; omega, ?_⟩
 rcases h1 with h1 | ⟨b', off', e, hb, hc⟩
 · exact Or.inl (by rw [h1]; simp)
 · cases e
   refine Or.inr ⟨b, off + m, rfl, hb, fun k x hx => ?_⟩
   rw [List.getElem?_drop] at hx
   have := hc (m + k) x hx
   rw [Nat.add_assoc]; exact this
theorem IntsL.cap {w : World} {S : Nat → Prop} {a : Option Addr} {cap cap' : Nat} {l : List Int} (h : IntsL w S a cap l) (hc : l.length ≤ cap') : IntsL w S a cap' l := ⟨hc, h.2⟩
def NodeAt (w : World) (S : Nat → Prop) (u : Tr) (b off : Nat) : Prop := S b ∧ w.cell? ⟨b, off, none⟩ = some (.int .i64 u.id) ∧ w.cell? ⟨b, off + 1, none⟩ = some (.int .i64 u.kind) ∧ w.cell? ⟨b, off + 2, none⟩ = some (.string u.text) ∧ ∃ ka kc, w.cell? ⟨b, off + 3, none⟩ = some (.slice ka (foLen u.kids) kc) ∧ foLen u.kids ≤ kc ∧ FoAt w S u.kids ka
theorem NodeAt.kept {w w' : World} {S S' : Nat → Prop} {u : Tr} {b off : Nat} (h : NodeAt w S u b off) (hS : ∀ y, S y → S' y ∧ w'.heap[y]? = w.heap[y]?) : NodeAt w' S' u b off := by
 obtain ⟨h0, h1, h2, h3, ka, kc, h4, h5, h6⟩ := h
 have hb := hS b h0
 exact ⟨hb.1, (World.cell?_of_block hb.2).trans h1, (World.cell?_of_block hb.2).trans h2, (World.cell?_of_block hb.2).trans h3, ka, kc, (World.cell?_of_block hb.2).trans h4, h5, h6.kept hS⟩
def setF : Fo → Nat → Tr → Fo
 | .nil, _, _ => .nil
 | .node b o k l r, 0, u => .node b o (u.id, u.kind, u.text) u.kids r
 | .node b o k l r, i + 1, u => .node b o k l (setF r i u)
def putP : Tr → List Nat → Tr → Tr
 | _, [], x => x
 | t, i :: p, x => match kidF t.kids i with
   | none => t
   | some u => ⟨t.id, t.kind, t.text, setF t.kids i (putP u p x)⟩
theorem setF_len : ∀ (f : Fo) (i : Nat) (u : Tr), foLen (setF f i u) = foLen f
 | .nil, _, _ => rfl
 | .node _ _ _ _ _, 0, _ => rfl
 | .node _ _ _ _ r, i + 1, u => by simp [setF, foLen, setF_len r i u]
theorem atT_append : ∀ (p : List Nat) (t : Tr) (r : List Nat), atT t (p ++ r) = (atT t p).bind fun u => atT u r
 | [], t, r => rfl
 | i :: p, t, r => by
   simp only [List.cons_append, atT]
   cases kidF t.kids i with
   | none => rfl
   | some u => exact atT_append p u r
theorem putP_append : ∀ (p : List Nat) (t u v x : Tr) (i : Nat), atT t p = some u → kidF u.kids i = some v → putP t (p ++ [i]) x = putP t p ⟨u.id, u.kind, u.text, setF u.kids i x⟩
 | [], t, u, v, x, i, h, hv => by cases h; simp [putP, hv]
 | j :: p, t, u, v, x, i, h, hv => by
   simp only [atT] at h
   simp only [List.cons_append, putP]
   cases hk : kidF t.kids j with
   | none => simp [hk] at h
   | some w => rw [hk] at h; simp only at h ⊢; rw [putP_append p w u v x i h hv]
def ButAt (w : World) (S : Nat → Prop) : Nat → Fo → Nat → Nat → Prop
 | _, .nil, _, _ => True
 | 0, .node _ _ _ _ r, b, off => FoAt w S r (some ⟨b, off + 4, none⟩)
 | i + 1, .node _ _ k l r, b, off => NodeAt w S ⟨k.1, k.2.1, k.2.2, l⟩ b off ∧ ButAt w S i r b (off + 4)
theorem but_fill : ∀ (f : Fo) (i : Nat) {w : World} {S : Nat → Prop} {u : Tr} {b off : Nat}, ButAt w S i f b off → NodeAt w S u b (off + i * 4) → i < foLen f → FoAt w S (setF f i u) (some ⟨b, off, none⟩)
 | .nil, _, _, _, _, _, _, _, _, h => by simp [foLen] at h
 | .node _ _ k l r, 0, w, S, u, b, off, h, hn, _ => by
   obtain ⟨h0, h1, h2, h3, ka, kc, h4, h5, h6⟩ := hn
   simp only [Nat.zero_mul, Nat.add_zero] at h1 h2 h3 h4
   exact ⟨b, off, ka, kc, rfl, h0, h1, h2, h3, h4, h5, h6, h⟩
 | .node _ _ k l r, i + 1, w, S, u, b, off, h, hn, hi => by
   obtain ⟨⟨h0, h1, h2, h3, ka, kc, h4, h5, h6⟩, hr⟩ := h
   refine ⟨b, off, ka, kc, rfl, h0, h1, h2, h3, h4, h5, h6, but_fill r i hr ?_ (by simp [foLen] at hi; omega)⟩
   rw [show off + 4 + i * 4 = off + (i + 1) * 4 by omega]; exact hn
theorem but_row : ∀ (f : Fo) (i : Nat) (xs : List Value) {w w' : World} {S S' : Nat → Prop} {b off : Nat}, FoRow w S f xs → i < foLen f → S' b → (∀ y, S y → S' y ∧ w'.heap[y]? = w.heap[y]?) → (∀ j u, xs[j]? = some u → (j < i * 4 ∨ i * 4 + 4 ≤ j) → w'.cell? ⟨b, off + j, none⟩ = some u) → ButAt w' S' i f b off
 | .nil, _, _, _, _, _, _, _, _, _, h, _, _, _ => by simp [foLen] at h
 | .node _ _ k l r, 0, xs, w, w', S, S', b, off, hf, _, hb, hS, hc => by
   obtain ⟨ka, cap, ys, e, hcp, hkl, hr⟩ := hf
   subst e
   refine FoRow.lies hb (off + 4) (hr.kept hS) fun j u hu => ?_
   have := hc (j + 4) u (by rw [List.getElem?_append_right (by simp)]; simpa using hu) (Or.inr (by omega))
   rw [show off + 4 + j = off + (j + 4) by omega]; exact this
 | .node _ _ k l r, i + 1, xs, w, w', S, S', b, off, hf, hi, hb, hS, hc => by
   obtain ⟨ka, cap, ys, e, hcp, hkl, hr⟩ := hf
   subst e
   refine ⟨⟨hb, hc 0 _ rfl (Or.inl (by omega)), hc 1 _ rfl (Or.inl (by omega)), hc 2 _ rfl (Or.inl (by omega)), ka, cap, hc 3 _ rfl (Or.inl (by omega)), hcp, hkl.kept hS⟩, but_row r i ys hr (by simp [foLen] at hi; omega) hb hS fun j u hu hj => ?_⟩
   have := hc (j + 4) u (by rw [List.getElem?_append_right (by simp)]; simpa using hu) (by omega)
   rw [show off + 4 + j = off + (j + 4) by omega]; exact this
theorem fo_row : ∀ (f : Fo) {w : World} {S : Nat → Prop} {b off : Nat}, FoAt w S f (some ⟨b, off, none⟩) → ∃ xs, FoRow w S f xs ∧ xs.length = foLen f * 4 ∧ (∀ j u, xs[j]? = some u → w.cell? ⟨b, off + j, none⟩ = some u) ∧ ∀ u ∈ xs, u.oneCell' = true
 | .nil, _, _, _, _, _ => ⟨[], rfl, rfl, fun _ _ h => by simp at h, fun _ h => by cases h⟩
 | .node _ _ k l r, w, S, b, off, h => by
   obtain ⟨b', off', ka, kc, e, hb, c0, c1, c2, c3, hcp, hkl, hr⟩ := h
   cases e
   obtain ⟨ys, h1, h2, h3, h4⟩ := fo_row r hr
   refine ⟨[.int .i64 k.1, .int .i64 k.2.1, .string k.2.2, .slice ka (foLen l) kc] ++ ys, ⟨ka, kc, ys, rfl, hcp, hkl, h1⟩, by rw [List.length_append, h2]; simp [foLen]; omega, fun j u hu => ?_, fun u hu => ?_⟩
   · match j, hu with
     | 0, hu => simp at hu; subst hu; exact c0
     | 1, hu => simp at hu; subst hu; exact c1
     | 2, hu => simp at hu; subst hu; exact c2
     | 3, hu => simp at hu; subst hu; exact c3
     | j + 4, hu =>
       have := h3 j u (by simpa using hu)
       rw [show off + (j + 4) = off + 4 + j by omega]; exact this
   · rcases List.mem_append.1 hu with hu | hu
     · simp only [List.mem_cons, List.not_mem_nil, or_false] at hu
       rcases hu with rfl | rfl | rfl | rfl <;> rfl
     · exact h4 u hu
theorem fo_row' (f : Fo) {w : World} {S : Nat → Prop} {a : Option Addr} (h : FoAt w S f a) : ∃ xs, FoRow w S f xs ∧ xs.length = foLen f * 4 ∧ (∀ ad, a = some ad → ∀ j u, xs[j]? = some u → w.cell? (ad.add j) = some u) ∧ (∀ u ∈ xs, u.oneCell' = true) := by
 cases f with
 | nil => exact ⟨[], rfl, rfl, fun _ _ _ _ h => by simp at h, fun _ h => by cases h⟩
 | node b0 o0 k l r =>
   have h' := h
   obtain ⟨b', off', ka, kc, e, _⟩ := h'
   subst e
   obtain ⟨xs, h1, h2, h3, h4⟩ := fo_row _ h
   exact ⟨xs, h1, h2, fun ad hd j u hu => by cases hd; rw [Addr.add_mid]; exact h3 j u hu, h4⟩
theorem kidF_size {f : Fo} {i : Nat} {u : Tr} (h : kidF f i = some u) : foSize u.kids + 1 ≤ foSize f := by
 have h2 := foDrop_size h
 have h3 : ∀ (j : Nat) (f : Fo), foSize (foDrop j f) ≤ foSize f := by
  intro j
  induction j with
  | zero => intro f; rw [foDrop_zero]; exact Nat.le_refl _
  | succ j ih => intro f; cases f with
    | nil => exact Nat.le_refl _
    | node b o a l r => have := ih r; simp only [foDrop, foSize]; omega
 have := h3 i f
 omega
theorem setF_size2 : ∀ (f : Fo) (i : Nat) (u v : Tr), kidF f i = some u → foSize (setF f i v) + foSize u.kids = foSize f + foSize v.kids
 | .nil, i, _, _, h => by cases i <;> simp [kidF, foDrop, headT] at h
 | .node _ _ k l r, 0, u, v, h => by
   simp only [kidF, foDrop, headT] at h
   cases h
   simp only [setF, foSize]; omega
 | .node _ _ k l r, i + 1, u, v, h => by
   have := setF_size2 r i u v (by simpa [kidF, foDrop] using h)
   simp only [setF, foSize]; omega
def insF : Fo → Nat → Tr → Fo
 | f, 0, u => .node 0 0 (u.id, u.kind, u.text) u.kids f
 | .nil, _ + 1, _ => .nil
 | .node b o k l r, i + 1, u => .node b o k l (insF r i u)
def delF : Fo → Nat → Fo
 | .nil, _ => .nil
 | .node _ _ _ _ r, 0 => r
 | .node b o k l r, i + 1 => .node b o k l (delF r i)
theorem insF_zero (f : Fo) (u : Tr) : insF f 0 u = .node 0 0 (u.id, u.kind, u.text) u.kids f := by cases f <;> rfl
theorem delF_zero (b o : Nat) (k : Int × Int × ByteArray) (l r : Fo) : delF (.node b o k l r) 0 = r := rfl
theorem insF_len : ∀ (f : Fo) (i : Nat) (u : Tr), i ≤ foLen f → foLen (insF f i u) = foLen f + 1
 | f, 0, u, _ => by rw [insF_zero]; rfl
 | .nil, i + 1, u, h => by simp [foLen] at h
 | .node b o k l r, i + 1, u, h => by
   have := insF_len r i u (by simp [foLen] at h; omega)
   simp only [insF, foLen, this]
theorem delF_len : ∀ (f : Fo) (i : Nat), i < foLen f → foLen (delF f i) + 1 = foLen f
 | .nil, i, h => by simp [foLen] at h
 | .node b o k l r, 0, _ => rfl
 | .node b o k l r, i + 1, h => by
   have := delF_len r i (by simp [foLen] at h; omega)
   simp only [delF, foLen]; omega
theorem ins_del : ∀ (f : Fo) (i : Nat) (u : Tr), kidF f i = some u → sameF (insF (delF f i) i u) f = true ∧ foLen (insF (delF f i) i u) = foLen f
 | .nil, i, u, h => by cases i <;> simp [kidF, foDrop, headT] at h
 | .node b o k l r, 0, u, h => by
   simp only [kidF, foDrop, headT] at h
   cases h
   rw [delF_zero, insF_zero]
   exact ⟨by simp [sameF, sameK, sameF_refl], rfl⟩
 | .node b o k l r, i + 1, u, h => by
   obtain ⟨h1, h2⟩ := ins_del r i u (by simpa [kidF, foDrop] using h)
   refine ⟨?_, by simp only [delF, insF, foLen, h2]⟩
   simp only [delF, insF, sameF, h1, sameF_refl, Bool.and_true]
   simp [sameK]
theorem insF_size : ∀ (f : Fo) (i : Nat) (u : Tr), i ≤ foLen f → foSize (insF f i u) = foSize f + foSize u.kids + 1
 | f, 0, u, _ => by rw [insF_zero]; simp only [foSize]; omega
 | .nil, i + 1, u, h => by simp [foLen] at h
 | .node b o k l r, i + 1, u, h => by
   have := insF_size r i u (by simp [foLen] at h; omega)
   simp only [insF, foSize, this]; omega
theorem delF_size : ∀ (f : Fo) (i : Nat) (u : Tr), kidF f i = some u → foSize (delF f i) + foSize u.kids + 1 = foSize f
 | .nil, i, u, h => by cases i <;> simp [kidF, foDrop, headT] at h
 | .node b o k l r, 0, u, h => by
   simp only [kidF, foDrop, headT] at h
   cases h
   simp only [delF, foSize]; omega
 | .node b o k l r, i + 1, u, h => by
   have := delF_size r i u (by simpa [kidF, foDrop] using h)
   simp only [delF, foSize]; omega
def cellsT (u : Tr) (ka : Option Addr) (kc : Nat) : List Value := [.int .i64 u.id, .int .i64 u.kind, .string u.text, .slice ka (foLen u.kids) kc]
theorem insF_row {w : World} {S : Nat → Prop} : ∀ (f : Fo) (i : Nat) (u : Tr) (ka : Option Addr) (kc : Nat) (xs : List Value), FoRow w S f xs → foLen u.kids ≤ kc → FoAt w S u.kids ka → i ≤ foLen f → FoRow w S (insF f i u) (xs.take (i * 4) ++ cellsT u ka kc ++ xs.drop (i * 4))
 | f, 0, u, ka, kc, xs, h, hc, hk, _ => by
   rw [insF_zero, Nat.zero_mul, List.take_zero, List.drop_zero, List.nil_append]
   exact ⟨ka, kc, xs, rfl, hc, hk, h⟩
 | .nil, i + 1, u, ka, kc, xs, h, hc, hk, hi => by simp [foLen] at hi
 | .node b o k l r, i + 1, u, ka, kc, xs, h, hc, hk, hi => by
   obtain ⟨na, nc, ys, e, h1, h2, h3⟩ := h
   subst e
   have := insF_row r i u ka kc ys h3 hc hk (by simp [foLen] at hi; omega)
   refine ⟨na, nc, _, ?_, h1, h2, this⟩
   rw [show (i + 1) * 4 = i * 4 + 1 + 1 + 1 + 1 by omega]
   simp
theorem delF_row {w : World} {S : Nat → Prop} : ∀ (f : Fo) (i : Nat) (xs : List Value), FoRow w S f xs → i < foLen f → FoRow w S (delF f i) (xs.take (i * 4) ++ xs.drop (i * 4 + 4))
 | .nil, i, xs, h, hi => by simp [foLen] at hi
 | .node b o k l r, 0, xs, h, hi => by
   obtain ⟨na, nc, ys, e, h1, h2, h3⟩ := h
   subst e
   rw [delF_zero]; simpa using h3
 | .node b o k l r, i + 1, xs, h, hi => by
   obtain ⟨na, nc, ys, e, h1, h2, h3⟩ := h
   subst e
   have := delF_row r i ys h3 (by simp [foLen] at hi; omega)
   refine ⟨na, nc, _, ?_, h1, h2, this⟩
   rw [show (i + 1) * 4 = i * 4 + 1 + 1 + 1 + 1 by omega, show i * 4 + 1 + 1 + 1 + 1 + 4 = i * 4 + 4 + 1 + 1 + 1 + 1 by omega]
   simp
theorem FoRow.nth {w : World} {S : Nat → Prop} : ∀ (f : Fo) (i : Nat) (u : Tr) (xs : List Value), FoRow w S f xs → kidF f i = some u → ∃ ka kc, xs[i * 4]? = some (.int .i64 u.id) ∧ xs[i * 4 + 1]? = some (.int .i64 u.kind) ∧ xs[i * 4 + 2]? = some (.string u.text) ∧ xs[i * 4 + 3]? = some (.slice ka (foLen u.kids) kc) ∧ foLen u.kids ≤ kc ∧ FoAt w S u.kids ka
 | .nil, i, u, xs, h, hi => by cases i <;> simp [kidF, foDrop, headT] at hi
 | .node b o k l r, 0, u, xs, h, hi => by
   obtain ⟨na, nc, ys, e, h1, h2, h3⟩ := h
   subst e
   simp only [kidF, foDrop, headT] at hi
   cases hi
   exact ⟨na, nc, by simp, by simp, by simp, by simp, h1, h2⟩
 | .node b o k l r, i + 1, u, xs, h, hi => by
   obtain ⟨na, nc, ys, e, h1, h2, h3⟩ := h
   subst e
   obtain ⟨ka, kc, e0, e1, e2, e3, h4⟩ := FoRow.nth r i u ys h3 (by simpa [kidF, foDrop] using hi)
   refine ⟨ka, kc, ?_, ?_, ?_, ?_, h4⟩
   · rw [show (i + 1) * 4 = i * 4 + 4 by omega, List.getElem?_append_right (by simp)]; simpa using e0
   · rw [show (i + 1) * 4 + 1 = i * 4 + 1 + 4 by omega, List.getElem?_append_right (by simp)]; simpa using e1
   · rw [show (i + 1) * 4 + 2 = i * 4 + 2 + 4 by omega, List.getElem?_append_right (by simp)]; simpa using e2
   · rw [show (i + 1) * 4 + 3 = i * 4 + 3 + 4 by omega, List.getElem?_append_right (by simp)]; simpa using e3
theorem pathT_at : ∀ (id : Int) (t : Tr) (p : List Nat), pathT id t = some p → ∃ u, atT t p = some u ∧ u.id = id := by
 have key : ∀ (f : Fo) (id : Int) (i : Nat) (p : List Nat), fpi id i f = some p → ∃ j q u, p = (i + j) :: q ∧ ∃ v, kidF f j = some v ∧ atT v q = some u ∧ u.id = id := by
  intro f
  induction f with
  | nil => intro id i p h; simp [fpi] at h
  | node b o k l r ihl ihr =>
    intro id i p h
    simp only [fpi] at h
    split at h
    · rename_i hk
      cases h
      exact ⟨0, [], ⟨k.1, k.2.1, k.2.2, l⟩, rfl, _, rfl, rfl, hk⟩
    · split at h
      · rename_i q hq
        cases h
        obtain ⟨j, q', u, e, v, h1, h2, h3⟩ := ihl id 0 q hq
        subst e
        refine ⟨0, (0 + j) :: q', u, rfl, ⟨k.1, k.2.1, k.2.2, l⟩, rfl, ?_, h3⟩
        rw [atT]; simp only [Nat.zero_add, h1]; exact h2
      · obtain ⟨j, q', u, e, v, h1, h2, h3⟩ := ihr id (i + 1) p h
        refine ⟨j + 1, q', u, by rw [e]; congr 1; omega, v, ?_, h2, h3⟩
        simpa [kidF, foDrop] using h1
 intro id t p h
 rw [pathT] at h
 split at h
 · rename_i hid
   cases h
   exact ⟨t, rfl, hid⟩
 · obtain ⟨j, q, u, e, v, h1, h2, h3⟩ := key _ _ _ _ h
   subst e
   exact ⟨u, by rw [atT]; simp only [Nat.zero_add, h1]; exact h2, h3⟩
theorem atT_size : ∀ (p : List Nat) (t u : Tr), atT t p = some u → foSize u.kids + p.length ≤ foSize t.kids
 | [], t, u, h => by cases h; simp
 | i :: p, t, u, h => by
   simp only [atT] at h
   cases hk : kidF t.kids i with
   | none => rw [hk] at h; cases h
   | some v =>
     rw [hk] at h
     have h1 := atT_size p v u h
     have h2 := kidF_size hk
     simp only [List.length_cons]; omega
def zeroK : Tr := ⟨0, 0, ⟨#[]⟩, .nil⟩
def putK (par at_ : Int) (t x : Tr) : Tr × Int := match pathT par t with
 | none => (zeroK, 4)
 | some p => match atT t p with
   | none => (zeroK, 4)
   | some u => if 0 ≤ at_ ∧ at_ ≤ (foLen u.kids : Int) then (putP t p ⟨u.id, u.kind, u.text, insF u.kids at_.toNat x⟩, 0) else (putP t p u, 2)
def takeK (t : Tr) (q : List Nat) (i : Nat) : Tr × Tr := match atT t q with
 | none => (zeroK, zeroK)
 | some u => match kidF u.kids i with
   | none => (zeroK, zeroK)
   | some v => (putP t q ⟨u.id, u.kind, u.text, delF u.kids i⟩, v)
theorem putP_size2 : ∀ (p : List Nat) (t u x : Tr), atT t p = some u → foSize (putP t p x).kids + foSize u.kids = foSize t.kids + foSize x.kids
 | [], t, u, x, h => by cases h; simp [putP]; omega
 | i :: p, t, u, x, h => by
   simp only [atT] at h
   simp only [putP]
   cases hk : kidF t.kids i with
   | none => rw [hk] at h; cases h
   | some v =>
     rw [hk] at h
     have h1 := putP_size2 p v u x h
     have h2 := setF_size2 t.kids i v (putP v p x) hk
     simp only
     omega
theorem putK_size (par at_ : Int) (t x : Tr) : foSize (putK par at_ t x).1.kids ≤ foSize t.kids + foSize x.kids + 1 := by
 unfold putK
 split
 · simp [zeroK, foSize]
 · split
   · simp [zeroK, foSize]
   · rename_i p hp _ u hu
     split
     · rename_i hc
       have h1 := putP_size2 p t u ⟨u.id, u.kind, u.text, insF u.kids at_.toNat x⟩ hu
       have h2 := insF_size u.kids at_.toNat x (by omega)
       simp only at h1 ⊢; omega
     · have h1 := putP_size2 p t u u hu
       simp only; omega
theorem takeK_size (t : Tr) (q : List Nat) (i : Nat) : foSize (takeK t q i).1.kids + foSize (takeK t q i).2.kids ≤ foSize t.kids := by
 unfold takeK
 split
 · simp [zeroK, foSize]
 · rename_i u hu
   split
   · simp [zeroK, foSize]
   · rename_i v hv
     have h1 := putP_size2 q t u ⟨u.id, u.kind, u.text, delF u.kids i⟩ hu
     have h2 := delF_size u.kids i v hv
     simp only at h1 ⊢; omega
end Go.Proofs.Ytonapijgfalpaaa
