/-
  .
-/
import Derived.Test.YtgkmmnihaiopaaaHWayQa
import Derived.Test.YtgkmmnihaiopaaaHSharedQa
import Derived.Test.YtgkmmnihaiopaaaRWalkNQa
import Derived.OwnWalk
import Derived.Deep.RegionHeld3
import Derived.StillTailTactics
import Derived.Test.YtgkmmnihaiopaaaERowWQa
import Derived.Test.YtgkmmnihaiopaaaJPgQa
set_option maxRecDepth 100000
set_option maxHeartbeats 40000000
set_option linter.unusedVariables false
set_option linter.unusedSimpArgs false
namespace Go.Proofs.Ytgkmmnihaiopaaa
open Go.RowKit Go.Shelf
theorem ze6 (id : Int) (t : Tr) : fpi id 0 (zl t) = (zw id t).map (fun p => 0 :: p) := by
 simp only [zl, fpi, zw]
 by_cases h : t.id = id
 · rw [if_pos h, if_pos h]; rfl
 · rw [if_neg h, if_neg h]
   cases fpi id 0 t.kids <;> rfl
theorem Qq {root : Fo} : ∀ (j : Nat) (L : List Fr), yZ root L → yZ root (L.drop j)
 | 0, _, h => h
 | j + 1, [], h => by simpa using h
 | j + 1, x :: L, h => Qq j L h.tail
theorem qV (L : List Fr) : (places L).length = L.length := by simp [places]
theorem zbo (L : List Fr) (k : Nat) (hk : k < L.length) : places (L.drop (L.length - 1 - k)) = (places L).take (k + 1) := by
 rw [places, places, ← List.map_take, List.take_reverse]
 congr 3; omega
theorem Yz.at {w' : World} {S : Nat → Prop} {t : Tr} {id : Int} {rv : Value} {L : List Fr} (h : Yz w' S t id rv L) {k : Nat} (hk : k < L.length) : ∃ (g n cap b off q c pl : Nat) (u : Tr), rv = .slice (some ⟨g, 0, none⟩) n cap ∧ n = L.length ∧ n ≤ cap ∧ w'.cell? ⟨g, k * 2, none⟩ = some (.slice (some ⟨b, off, none⟩) q c) ∧ w'.cell? ⟨g, k * 2 + 1, none⟩ = some (.int .i64 (pl : Int)) ∧ pl < q ∧ q ≤ zg t.kids + 1 ∧
 w'.cell? ⟨b, off + pl * 4, none⟩ = some (.int .i64 u.id) ∧ (places L)[k]? = some pl ∧ atT t (((places L).drop 1).take k) = some u := by
 obtain ⟨x, r, hxr⟩ : ∃ x r, L.drop (L.length - 1 - k) = x :: r := by
  cases hd : L.drop (L.length - 1 - k) with
  | nil => have := congrArg List.length hd; rw [List.length_drop, List.length_nil] at this; omega
  | cons x r => exact ⟨x, r, rfl⟩
 have hmem : ∀ y ∈ x :: r, y ∈ L := fun y hy => by rw [← hxr] at hy; exact List.mem_of_mem_drop hy
 have hxk : L.reverse[k]? = some x := by
  rw [List.getElem?_reverse hk]
  have h0 : (L.drop (L.length - 1 - k))[0]? = some x := by rw [hxr]; rfl
  rwa [List.getElem?_drop, Nat.add_zero] at h0
 obtain ⟨a, cap, rfl⟩ := zu h.rows
 have hcap : L.length ≤ cap := by
  rcases h.rows.2 with ⟨hv, h0⟩ | ⟨_, _, _, hv, _, _, h3, _⟩
  · omega
  · cases hv; exact h3
 obtain ⟨g, rfl, hn, c0, c1, _⟩ := yE.at h.rows hxk
 have hch := Qq (L.length - 1 - k) L h.chain
 rw [hxr] at hch
 obtain ⟨p, u, hp, hat, hu⟩ := zaF (t := t) (x :: r) hch (fun y hy => h.ok y (hmem y hy)) x r rfl
 have hok := h.ok x (hmem x (by simp))
 obtain ⟨b0, o0, key, l, q, hd, b, off, ka, kc, ha, hSb, d0, _⟩ := (h.lies x (hmem x (by simp))).1.at x.p.toNat (by have := hok.1; have := hok.2; omega)
 have huk : u = ⟨key.1, key.2.1, key.2.2, l⟩ := by rw [zz, hd] at hu; cases hu; rfl
 have hpx : x.p = (x.p.toNat : Int) := by have := hok.1; omega
 rw [hpx] at c1
 rw [ha] at c0
 have hl := jL _ h.chain x (hmem x (by simp))
 rw [zI] at hl
 have hpl : places L = (places L).take (k + 1) ++ (places L).drop (k + 1) := (List.take_append_drop _ _).symm
 have hpk := zbo L k hk
 rw [hxr, hp] at hpk
 refine ⟨g, L.length, cap, b, off, foLen x.f, x.cap, x.p.toNat, u, rfl, rfl, hcap, c0, c1, by have := hok.2; have := hok.1; omega, by omega, by rw [huk]; exact d0, ?_, ?_⟩
 · rw [places, List.getElem?_map, hxk]; rfl
 · have e : ((places L).drop 1).take k = p := by
    have h1 : (places L).drop 1 = ((places L).take (k + 1)).drop 1 ++ (places L).drop (k + 1) := by
     have h2 := List.drop_take (i := 1) (j := k + 1) (l := places L)
     rw [h2, Nat.add_sub_cancel]
     have h3 := List.take_append_drop k ((places L).drop 1)
     rw [List.drop_drop] at h3
     rw [Nat.add_comm k 1]
     exact h3.symm
    rw [h1, ← hpk]
    have hlen : p.length = k := by
     have := congrArg List.length hpk
     rw [List.length_take, qV, List.length_cons] at this; omega
    simp [hlen]
   rw [e]; exact hat
theorem Yz.path {w' : World} {S : Nat → Prop} {t : Tr} {id : Int} {rv : Value} {L : List Fr} (h : Yz w' S t id rv L) : (L = [] ∧ zw id t = none) ∨ (∃ p, zw id t = some p ∧ places L = 0 :: p ∧ L.length = p.length + 1) := by
 have h1 := h.is
 rw [ze6] at h1
 rcases h1 with ⟨h1, h2⟩ | ⟨h1, h2⟩
 · left
   refine ⟨h1, ?_⟩
   cases hp : zw id t with
   | none => rfl
   | some p => rw [hp] at h2; cases h2
 · right
   cases hp : zw id t with
   | none => rw [hp] at h2; cases h2
   | some p =>
     rw [hp] at h2
     have h3 := Option.some.inj h2
     exact ⟨p, rfl, h3.symm, by rw [← qV, ← h3]; rfl⟩
theorem Yz.kept {w w' : World} {S : Nat → Prop} {t : Tr} {id : Int} {rv : Value} {L : List Fr} (h : Yz w S t id rv L) (hb : Below w.heap.size w w') : Yz w' S t id rv L :=
 ⟨h.rows.kept fun g hg => hb.block g (zA h.rows hg).2, h.ok, fun y hy => ⟨(h.lies y hy).1.kept fun k hk => ⟨hk, hb.block k (h.sl k hk)⟩, (h.lies y hy).2⟩, h.chain, h.is, h.few, fun y hy => nL (h.sl y hy) hb.size⟩
def vJ (a b : Int) (t : Tr) : Bool := match zw a t, zw b t with
 | some p, some q => decide (lcp p q = p.length)
 | _, _ => false
theorem zh (w : World) (o : Obj) : Below w.heap.size w (w.alloc o) := (Below.refl _ _).alloc (Nat.le_refl _) _
end Go.Proofs.Ytgkmmnihaiopaaa
namespace Go.Proofs.Ytgkmmnihaiopaaa
open Go.RowKit
theorem Try.Y7 : (Try.prog.info? 3).map (fun i => (i.zero, i.size, i.bytes)) = some (some (.int .i64 0), 1, 8) := by kernel_rfl
def ze9 (l : List Sp) : List Int := l.map (fun x => x.2.1.1)
def vE (n : Int) : Value := .int .i64 n
def zgc (w : World) (l : List Int) (e : Ending) (w' : World) : Prop := ∃ v, e = .returned v ∧ w'.ownsRow w.heap.size 3 1 v l.length (l.map vE) ∧ Below w.heap.size w w'
end Go.Proofs.Ytgkmmnihaiopaaa
namespace Go.Proofs.Ytgkmmnihaiopaaa
open Go.RowKit Go.Shelf
def yF (p : List Nat) : List Int := p.map (fun n : Nat => (n : Int))
theorem zP (p : List Nat) : (yF p).length = p.length := by simp [yF]
theorem zfk (W : World) (q : Nat) (h : q ≤ 1000000) : ∃ zs : Array Value, zs.size = q ∧ (Instr.makeSlice 65 (.int .i64 (q : Int)) (.int .i64 (q : Int))).run Try.prog W = .ok (.slice (some ⟨W.heap.size, 0, none⟩) q q) (W.alloc (.cells zs 3)) := by
 obtain ⟨i0, hi, hz0, hz1, hz2⟩ := info_parts Try.Y7
 have hr := run_makeSlice (P := Try.prog) W 65 3 i0 (.int .i64 0) Try.underlying65 hi hz0 .i64 .i64 (q : Int) (q : Int) (by omega) (by omega) (by rw [hz1]; omega) (by rw [hz2]; omega) (by omega)
 rw [hz1] at hr
 exact ⟨_, (size_madeCells _ _).trans (Nat.mul_one q), by rw [hr]; simp; rfl⟩
def zau (w : World) (p : Option (List Nat)) (e : Ending) (w' : World) : Prop := ∃ v, e = .returned (.tuple #[v, .bool p.isSome]) ∧ w'.ownsRow w.heap.size 3 1 v (yF (p.getD [])).length ((yF (p.getD [])).map vE) ∧ Below w.heap.size w w'
def zav (W : World) (w0 : World) (zs : Array Value) (p : List Nat) (k : Nat) (wr : World) : Prop := wr.ownsRow w0.heap.size 3 1 (.slice (some ⟨W.heap.size, 0, none⟩) p.length p.length) p.length (((yF p).map vE).take k ++ zs.toList.drop k) ∧ Below W.heap.size W wr
theorem zav.step {W w0 wr : World} {zs : Array Value} {p : List Nat} {k x : Nat} {o : Obj} (h : zav W w0 zs p k wr) (hz : zs.size = p.length) (hx : p[k]? = some x) : zav W w0 zs p (k + 1) ((wr.setCell ⟨W.heap.size, k, none⟩ (.int .i64 (x : Int))).alloc o) := by
 have hk := (List.getElem?_eq_some_iff.1 hx).1
 have h2 := (World.ownsRow.stored h.1 k (.int .i64 (x : Int))).1
 have e : (((yF p).map vE).take k ++ zs.toList.drop k).set k (.int .i64 (x : Int)) = ((yF p).map vE).take (k + 1) ++ zs.toList.drop (k + 1) := by
  have hl : (((yF p).map vE).take k).length = k := by rw [List.length_take, List.length_map, zP]; omega
  rw [List.set_append_right _ _ (by omega), hl, Nat.sub_self]
  have hz2 : k < zs.toList.length := by rw [Array.length_toList]; omega
  rw [← List.getElem_cons_drop hz2, pgE, List.take_add_one]
  have h3 : ((yF p).map vE)[k]? = some (.int .i64 (x : Int)) := by rw [List.getElem?_map, yF, List.getElem?_map, hx]; rfl
  rw [h3]; simp
 rw [e] at h2
 have h4 := h.2.setCell (p := ⟨W.heap.size, k, none⟩) (Nat.le_refl _) (.int .i64 (x : Int))
 exact ⟨h2.alloc o, h4.alloc h4.size o⟩
theorem kM (w : World) (S : Nat → Prop) (nv : Value) (t : Tr) (id : Int) (hS : ∀ x, S x → x < w.heap.size) (ht : zH w S nv t) (hsz : zg t.kids ≤ 400000) : Calls Try.prog 88 #[nv, .int .i64 id] w (zau w (zw id t)) := by
 obtain ⟨ka, tc, rfl, hcap, hk⟩ := ht
 have hb := zh w (.cells #[.int .i64 t.id, .int .i64 t.kind, .string t.text, .slice ka (foLen t.kids) tc] 27)
 have hway := zc4 (w.alloc (.cells #[.int .i64 t.id, .int .i64 t.kind, .string t.text, .slice ka (foLen t.kids) tc] 27)) S _ t id (fun x hx => nL (hS x hx) hb.size) ⟨ka, tc, rfl, hcap, hk.below hb hS⟩ hsz
 have HC := hH (aN hway hb)
 obtain ⟨n, hn⟩ : ∃ n, n = foLen t.kids := ⟨_, rfl⟩
 rw [← hn] at HC ⊢
 clear hway hb hk hcap hS hn
 go_enter Try.func88, Try.ntmps88
 go_wp2_with fail
 refine HC.out.1.mono ?_
 rintro e W ⟨rv, L, rfl, hw, hb, _⟩
 have hbW : Below w.heap.size w W := HC.out.2.trans (hb.mono HC.out.2.size)
 rcases hw.path with ⟨rfl, hp⟩ | ⟨p, hp, hpl, hlen⟩
 · obtain ⟨a, c, rfl⟩ := zu hw.rows
   have HE := hH (aN hp hbW)
   clear hw hb hp hbW HC
   simp only [List.length_nil]
   go_wp2_with fail
   go_ret2
   exact ⟨.slice none 0 0, by rw [HE.out.1]; rfl, by rw [HE.out.1]; exact World.ownsRow_nil _ _ _ _, HE.out.2⟩
 · obtain ⟨m, hm⟩ : ∃ m, m = p.length := ⟨_, rfl⟩
   rw [← hm] at hlen
   obtain ⟨g, n2, cap, _, _, _, _, _, _, rfl, rfl, hnc, _⟩ := hw.at (k := 0) (by omega)
   have hfew := hw.few
   have hrow : ∀ (k x : Nat), p[k]? = some x → ∃ (a : Option Addr) (q c : Nat), W.cell? ⟨g, 2 + k * 2, none⟩ = some (.slice a q c) ∧ W.cell? ⟨g, 2 + k * 2 + 1, none⟩ = some (.int .i64 (x : Int)) := fun k x hx => by
    obtain ⟨g', _, _, b, off, q, c, pl, u2, e2, _, _, c0, c2, _, _, _, hpk2, _⟩ := hw.at (k := k + 1) (by have := (List.getElem?_eq_some_iff.1 hx).1; omega)
    cases e2
    rw [hpl, List.getElem?_cons_succ, hx] at hpk2
    cases hpk2
    rw [show (k + 1) * 2 = 2 + k * 2 by omega] at c0 c2
    exact ⟨_, _, _, c0, c2⟩
   rw [hlen]
   rw [hlen] at hnc hfew
   obtain ⟨zs, hzs, hmk⟩ := zfk W m (by omega)
   have hgl : g < W.heap.size := (zA hw.rows (g := g) rfl).2
   have HST : Hid (zav W w zs p 0 (W.alloc (.cells zs 3))) := hH ⟨⟨by rw [List.take_zero, List.nil_append, List.drop_zero, Array.length_toList]; omega, Or.inr ⟨W.heap.size, p.length, zs, rfl, hbW.size, heap_alloc_new W _, Nat.le_refl _, by unfold maxLen; omega, by omega, by rw [List.take_zero, List.nil_append, List.drop_zero]; rw [List.take_of_length_le (by rw [Array.length_toList]; omega)]⟩⟩, zh W _⟩
   have HE := hH (aN hp (aN hbW (aN hm (aN hrow hzs))))
   have hmb : m ≤ 1000000 := by omega
   have hmz : ((m : Int) + 1 == 0) = false := by simp; omega
   have hmw : IntKind.i64.wrap (m : Int) = (m : Int) := IntWalk.i64_in _ (by omega)
   have hm1 : (1 : Int) ≤ (m : Int) + 1 := by omega
   have hcc : (m : Int) + 1 ≤ (cap : Int) := by omega
   clear hw hb hp hbW HC hlen hpl hrow hzs hfew hm
   go_wp2_with fail
   all_goals
    go_loopw [23] (fun i wr => ∃ k : Nat, k ≤ m ∧ i = .int .i64 (k : Int) ∧ Hid (zav W w zs p k wr)) (fun i _ => m - (intOf i).toNat)
    case atStart => exact ⟨0, Nat.zero_le _, rfl, HST⟩
    case round =>
     obtain ⟨k, hk, rfl, hh⟩ := hrel
     clear HST
     by_cases hlt : k < m
     · first
        | (exfalso; omega)
        | (obtain ⟨x, hx⟩ : ∃ x, p[k]? = some x := ⟨_, List.getElem?_eq_getElem (by rw [← HE.out.2.2.1]; exact hlt)⟩
           obtain ⟨a, q, c, c0, c1⟩ := HE.out.2.2.2.1 k x hx
           obtain ⟨v0, hv0⟩ : ∃ v0, zs.toList[k]? = some v0 := ⟨_, List.getElem?_eq_getElem (by rw [Array.length_toList, HE.out.2.2.2.2]; exact hlt)⟩
           have hown := hh.out.1
           have hcell := World.ownsRow.cellAt hown k (by rw [← HE.out.2.2.1]; omega)
           have hfz := World.ownsRow.frozenAt hown k
           rw [List.getElem?_append_right (by rw [List.length_take, List.length_map, zP]; omega), List.length_take, List.length_map, zP, List.getElem?_drop, show k + (k - min k p.length) = k by (have := HE.out.2.2.1; omega), hv0] at hcell
           have d0 : wr.cell? ⟨g, 2 + k * 2, none⟩ = some (.slice a q c) := (hh.out.2.cell (p := ⟨g, 2 + k * 2, none⟩) hgl).trans c0
           have d1 : wr.cell? ⟨g, 2 + k * 2 + 1, none⟩ = some (.int .i64 (x : Int)) := (hh.out.2.cell (p := ⟨g, 2 + k * 2 + 1, none⟩) hgl).trans c1
           have hWl : W.heap.size < wr.heap.size := (World.block_lt_of_cell? _ _ hcell)
           have hcellA : ∀ o, (wr.alloc o).cell? ⟨W.heap.size, k, none⟩ = some v0 := fun o => (World.cell?_of_block (Below.heap_alloc wr o W.heap.size hWl)).trans hcell
           have hfzA : ∀ o, (wr.alloc o).frozen? ⟨W.heap.size, k, none⟩ = false := fun o => (World.frozen?_of_block (Below.heap_alloc wr o W.heap.size hWl)).trans hfz
           have hnx := fun o => hh.out.step (o := o) (by rw [HE.out.2.2.2.2]; exact HE.out.2.2.1) hx
           have HN := hH hnx
           have hki : (k : Int) < (m : Int) := by omega
           have HLT := hH hlt
           clear hx c0 c1 hv0 hown hcell hfz hnx hlt hk hh
           go_wp2_with fail
           exact ⟨⟨k + 1, by have := HLT.out; omega, by go_num, hH (HN.out _)⟩, by have := HLT.out; simp [intOf]; omega⟩)
     · have hki : ¬ (k : Int) < (m : Int) := by omega
       have hkm : k = m := by omega
       have HO := hH (aN hh.out hkm)
       clear hh hk hlt hkm
       go_wp2_with fail
       go_ret2
       obtain ⟨⟨ho, hb9⟩, hkm⟩ := HO.out
       refine ⟨.slice (some ⟨W.heap.size, 0, none⟩) m m, by rw [HE.out.1]; rfl, ?_, HE.out.2.1.trans (hb9.mono HE.out.2.1.size)⟩
       rw [HE.out.1]
       show World.ownsRow _ _ _ _ _ (yF p).length ((yF p).map vE)
       rw [zP]
       rw [List.take_of_length_le (by rw [List.length_map, zP]; have := HE.out.2.2.1; omega), List.drop_eq_nil_of_le (by rw [Array.length_toList]; have := HE.out.2.2.2.2; omega), List.append_nil] at ho
       rw [HE.out.2.2.1]
       exact ho
theorem zff (p q : List Nat) : lcp (0 :: p) (0 :: q) = lcp p q + 1 := by simp [lcp]
theorem zfW (l : List Nat) : lcp ([] : List Nat) l = 0 := by simp [lcp]
theorem zfi (l : List Nat) : lcp l ([] : List Nat) = 0 := by cases l <;> simp [lcp]
theorem QW : places [] = [] := rfl
theorem zcG (w : World) (S : Nat → Prop) (nv : Value) (t : Tr) (a b : Int) (hS : ∀ x, S x → x < w.heap.size) (ht : zH w S nv t) (hsz : zg t.kids ≤ 400000) : Calls Try.prog 90 #[nv, .int .i64 a, .int .i64 b] w fun e w' => e = .returned (.bool (vJ a b t)) ∧ Below w.heap.size w w' := by
 obtain ⟨ka, tc, rfl, hcap, hk⟩ := ht
 obtain ⟨B, hB⟩ : ∃ B, B = w.alloc (.cells #[.int .i64 t.id, .int .i64 t.kind, .string t.text, .slice ka (foLen t.kids) tc] 27) := ⟨_, rfl⟩
 have hb := zh w (.cells #[.int .i64 t.id, .int .i64 t.kind, .string t.text, .slice ka (foLen t.kids) tc] 27)
 have hbx := heap_alloc_new w (.cells #[.int .i64 t.id, .int .i64 t.kind, .string t.text, .slice ka (foLen t.kids) tc] 27)
 rw [← hB] at hb hbx
 have hway := fun (i : Int) (X : World) (hX : Below B.heap.size B X) => zc4 X S (.agg #[.int .i64 t.id, .int .i64 t.kind, .string t.text, .slice ka (foLen t.kids) tc]) t i (fun x hx => nL (hS x hx) (Nat.le_trans hb.size hX.size)) ⟨ka, tc, rfl, hcap, hk.below (hb.trans (hX.mono hb.size)) hS⟩ hsz
 obtain ⟨n, hn⟩ : ∃ n, n = foLen t.kids := ⟨_, rfl⟩
 rw [← hn] at hB hbx
 simp only [← hn] at hway
 have HC := hH (aN hway (aN hb (aN hB hbx)))
 rw [← hn]
 obtain ⟨pr, hpr⟩ : ∃ pr, pr = vJ a b t := ⟨_, rfl⟩
 have HP := hH hpr
 have hpe : (.bool (vJ a b t) : Value) = (.bool (pr)) := by rw [hpr]
 rw [hpe]
 clear hway hb hk hcap hS hn hpr hpe hB hbx
 go_enter Try.func90, Try.ntmps90
 go_wp2_with fail
 rw [← HC.out.2.2.1]
 refine (HC.out.1 a B (Below.refl _ _)).mono ?_
 rintro e W ⟨rv, L, rfl, hw, hb, _⟩
 have hbxW := (hb.block _ (lt_of_heap HC.out.2.2.2)).trans HC.out.2.2.2
 have n0 : W.cell? ⟨w.heap.size, 0, none⟩ = some (.int .i64 t.id) := by rw [cell_of_row _ _ 0 _ _ _ hbxW]; rfl
 have n1 : W.cell? ⟨w.heap.size, 1, none⟩ = some (.int .i64 t.kind) := by rw [cell_of_row _ _ 1 _ _ _ hbxW]; rfl
 have n2 : W.cell? ⟨w.heap.size, 2, none⟩ = some (.string t.text) := by rw [cell_of_row _ _ 2 _ _ _ hbxW]; rfl
 have n3 : W.cell? ⟨w.heap.size, 3, none⟩ = some (.slice ka n tc) := by rw [cell_of_row _ _ 3 _ _ _ hbxW]; rfl
 have HW := hH (aN hw hb)
 clear hw hb hbxW
 go_wp2_with fail
 refine (HC.out.1 b W HW.out.2).mono ?_
 rintro e W2 ⟨rv2, L2, rfl, hw2, hb2, _⟩
 have hw := HW.out.1.kept hb2
 have hb9 : Below w.heap.size w W2 := (HC.out.2.1.trans (HW.out.2.mono HC.out.2.1.size)).trans (hb2.mono (Nat.le_trans HC.out.2.1.size HW.out.2.size))
 have hsh := zcA W2 rv rv2 L L2 hw.rows hw2.rows (by have := hw.few; omega) (by have := hw2.few; omega)
 rw [zcj L L2 hw.ok hw2.ok] at hsh
 have H2 := hH (aN hw (aN hw2 hb9))
 have HSH := hH hsh
 clear hw hw2 hb2 hb9 hsh n0 n1 n2 n3
 go_wp2_with fail
 refine HSH.out.mono ?_
 rintro e W3 ⟨rfl, hb3⟩
 have hw3 := H2.out.1.kept hb3
 have hbz : Below w.heap.size w W3 := H2.out.2.2.trans (hb3.mono H2.out.2.2.size)
 obtain ⟨ra, rc, rfl⟩ := zu hw3.rows
 obtain ⟨m, hm⟩ : ∃ m, m = lcp (places L) (places L2) := ⟨_, rfl⟩
 obtain ⟨len, hlen⟩ : ∃ len, len = L.length := ⟨_, rfl⟩
 have hml := zfh (places L) (places L2)
 rw [qV, qV, ← hm, ← hlen] at hml
 have hfew := hw3.few
 rw [← hlen] at hfew
 have hres : pr = (decide (0 < m) && decide (m = len)) := by
  rw [HP.out, vJ]
  rcases H2.out.1.path with ⟨h1, h2⟩ | ⟨p, h2, h3, h4⟩
  · rw [h2, hm, h1, QW, zfW]; rfl
  · rw [h2]
    rcases H2.out.2.1.path with ⟨g1, g2⟩ | ⟨q, g2, g3, g4⟩
    · rw [g2, hm, g1, QW, zfi]; simp
    · rw [g2, hm, h3, g3, zff, hlen, h4]
      simp only []
      rw [show decide (0 < lcp p q + 1) = true by simp, Bool.true_and]
      rw [decide_eq_decide]; omega
 have HE := hH (aN hres hbz)
 rw [← hm]
 rw [← hlen]
 clear hw3 hbz hb3 hres hm hlen hfew HSH HW HC
 by_cases h0 : 0 < m
 · have h0i : (0 : Int) < (m : Int) := by omega
   by_cases hq : m = len
   · have hqi : ((m : Int) == (len : Int)) = true := by simp; omega
     have HQ := hH (aN h0 hq)
     clear hq h0
     go_wp2_with fail
     go_ret
     exact ⟨congrArg (fun z => Ending.returned (.bool z)) (by rw [HE.out.1]; simp [HQ.out.1, HQ.out.2] <;> (have := HQ.out.1; have := HQ.out.2; omega)), HE.out.2⟩
   · have hqi : ((m : Int) == (len : Int)) = false := by simp; omega
     have HQ := hH (aN h0 hq)
     clear hq h0
     go_wp2_with fail
     go_ret
     exact ⟨congrArg (fun z => Ending.returned (.bool z)) (by rw [HE.out.1]; simp [HQ.out.2]), HE.out.2⟩
 · have h0i : ¬ (0 : Int) < (m : Int) := by omega
   have HQ := hH h0
   clear h0
   go_wp2_with fail
   go_ret
   exact ⟨congrArg (fun z => Ending.returned (.bool z)) (by rw [HE.out.1]; simp [HQ.out]), HE.out.2⟩
end Go.Proofs.Ytgkmmnihaiopaaa
namespace Go.Proofs.Ytgkmmnihaiopaaa
open Go.RowKit
theorem Jw : ∀ l : List Sp, l.flatMap idC = (ze9 l).map vE
 | [] => rfl
 | x :: l => by rw [List.flatMap_cons, Jw l]; rfl
theorem JJ (w : World) (S : Nat → Prop) (nv : Value) (t : Tr) (hS : ∀ x, S x → x < w.heap.size) (ht : zH w S nv t) (hsz : zg t.kids + 1 ≤ 400000) : Calls Try.prog 65 #[nv] w (zgc w (ze9 (spF 1 (zl t)))) := by
 obtain ⟨ka, cap, rfl, hcap, hk⟩ := ht
 obtain ⟨n, hn⟩ : ∃ n, n = foLen t.kids := ⟨_, rfl⟩
 rw [← hn]
 have hb : Below w.heap.size w (w.alloc (.cells #[.int .i64 t.id, .int .i64 t.kind, .string t.text, .slice ka n cap] 27)) := (Below.refl _ w).alloc (Nat.le_refl _) _
 have hc := zfp (w.alloc (.cells #[.int .i64 t.id, .int .i64 t.kind, .string t.text, .slice ka n cap] 27)) S (.agg #[.int .i64 t.id, .int .i64 t.kind, .string t.text, .slice ka n cap]) t (fun x hx => nL (hS x hx) hb.size) ⟨ka, cap, by rw [hn], hcap, hk.below hb hS⟩ hsz
 have HC := hH (aN hc hb)
 clear hc hb hS hcap hk hn hsz
 go_enter Try.func65, Try.ntmps65
 go_wp2_with fail
 refine HC.out.1.mono ?_
 rintro e w2 ⟨v, rfl, ho, hb2⟩
 have HE := hH (aN ho hb2)
 clear ho hb2
 go_wp2_with fail
 go_ret
 refine ⟨_, rfl, ?_, HC.out.2.trans (HE.out.2.mono HC.out.2.size)⟩
 have h := zdS HE.out.1 HC.out.2.size
 rw [Jw] at h
 rw [show (ze9 (spF 1 (zl t))).length = (spF 1 (zl t)).length by simp [ze9]]
 exact h
end Go.Proofs.Ytgkmmnihaiopaaa
