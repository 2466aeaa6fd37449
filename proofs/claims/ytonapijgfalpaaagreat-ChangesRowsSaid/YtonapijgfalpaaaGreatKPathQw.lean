/-
  .
-/
import Derived.Test.YtonapijgfalpaaaGreatVManyQw
import Derived.Test.YtonapijgfalpaaaGreatLRowQw
import Derived.Test.YtonapijgfalpaaaGreatJPgQw
set_option maxRecDepth 100000
set_option maxHeartbeats 40000000
set_option linter.unusedVariables false
set_option linter.unusedSimpArgs false
namespace Go.Proofs.YtonapijgfalpaaaGreat
open Go.RowKit Go.Shelf
def yE (p : List Nat) : List Int := p.map (fun n : Nat => (n : Int))
theorem zN (p : List Nat) : (yE p).length = p.length := by simp [yE]
theorem zet (W : World) (q : Nat) (h : q ≤ 1000000) : ∃ zs : Array Value, zs.size = q ∧ (Instr.makeSlice 30 (.int .i64 (q : Int)) (.int .i64 (q : Int))).run Tryz.prog W = .ok (.slice (some ⟨W.heap.size, 0, none⟩) q q) (W.alloc (.cells zs 3)) := by
 obtain ⟨i0, hi, hz0, hz1, hz2⟩ := info_parts Tryz.kw
 have hr := run_makeSlice (P := Tryz.prog) W 30 3 i0 (.int .i64 0) Tryz.underlying30 hi hz0 .i64 .i64 (q : Int) (q : Int) (by omega) (by omega) (by rw [hz1]; omega) (by rw [hz2]; omega) (by omega)
 rw [hz1] at hr
 exact ⟨_, (size_madeCells _ _).trans (Nat.mul_one q), by rw [hr]; simp; rfl⟩
def zco (w : World) (p : Option (List Nat)) (e : Ending) (w' : World) : Prop := ∃ v, e = .returned (.tuple #[v, .bool p.isSome]) ∧ w'.ownsRow w.heap.size 3 1 v (yE (p.getD [])).length ((yE (p.getD [])).map qF) ∧ Below w.heap.size w w'
def zaj (W : World) (w0 : World) (zs : Array Value) (p : List Nat) (k : Nat) (wr : World) : Prop := wr.ownsRow w0.heap.size 3 1 (.slice (some ⟨W.heap.size, 0, none⟩) p.length p.length) p.length (((yE p).map qF).take k ++ zs.toList.drop k) ∧ Below W.heap.size W wr
theorem zaj.step {W w0 wr : World} {zs : Array Value} {p : List Nat} {k x : Nat} {o : Obj} (h : zaj W w0 zs p k wr) (hz : zs.size = p.length) (hx : p[k]? = some x) : zaj W w0 zs p (k + 1) ((wr.setCell ⟨W.heap.size, k, none⟩ (.int .i64 (x : Int))).alloc o) := by
 have hk := (List.getElem?_eq_some_iff.1 hx).1
 have h2 := (World.ownsRow.stored h.1 k (.int .i64 (x : Int))).1
 have e : (((yE p).map qF).take k ++ zs.toList.drop k).set k (.int .i64 (x : Int)) = ((yE p).map qF).take (k + 1) ++ zs.toList.drop (k + 1) := by
  have hl : (((yE p).map qF).take k).length = k := by rw [List.length_take, List.length_map, zN]; omega
  rw [List.set_append_right _ _ (by omega), hl, Nat.sub_self]
  have hz2 : k < zs.toList.length := by rw [Array.length_toList]; omega
  rw [← List.getElem_cons_drop hz2, pgE, List.take_add_one]
  have h3 : ((yE p).map qF)[k]? = some (.int .i64 (x : Int)) := by rw [List.getElem?_map, yE, List.getElem?_map, hx]; rfl
  rw [h3]; simp
 rw [e] at h2
 have h4 := h.2.setCell (p := ⟨W.heap.size, k, none⟩) (Nat.le_refl _) (.int .i64 (x : Int))
 exact ⟨h2.alloc o, h4.alloc h4.size o⟩
theorem Qj (w : World) (S : Nat → Prop) (nv : Value) (t : Tr) (id : Int) (hS : ∀ x, S x → x < w.heap.size) (ht : zL w S nv t) (hsz : ze t.kids ≤ 400000) : Calls Tryz.prog 124 #[nv, .int .i64 id] w (zco w (zM id t)) := by
 obtain ⟨ka, tc, rfl, hcap, hk⟩ := ht
 have hb := zh w (.cells #[.int .i64 t.id, .int .i64 t.kind, .string t.text, .slice ka (zb t.kids) tc] 37)
 have hway := zfw (w.alloc (.cells #[.int .i64 t.id, .int .i64 t.kind, .string t.text, .slice ka (zb t.kids) tc] 37)) S _ t id (fun x hx => nL (hS x hx) hb.size) ⟨ka, tc, rfl, hcap, hk.below hb hS⟩ hsz
 have HC := hH (aN hway hb)
 obtain ⟨n, hn⟩ : ∃ n, n = zb t.kids := ⟨_, rfl⟩
 rw [← hn] at HC ⊢
 clear hway hb hk hcap hS hn
 go_enter Tryz.func124, Tryz.ntmps124
 go_wp2_with fail
 refine HC.out.1.mono ?_
 rintro e W ⟨rv, L, rfl, hw, hb, _⟩
 have hbW : Below w.heap.size w W := HC.out.2.trans (hb.mono HC.out.2.size)
 rcases hw.path with ⟨rfl, hp⟩ | ⟨p, hp, hpl, hlen⟩
 · obtain ⟨a, c, rfl⟩ := zw hw.rows
   have HE := hH (aN hp hbW)
   clear hw hb hp hbW HC
   simp only [List.length_nil]
   go_wp2_with fail
   go_ret2
   exact ⟨.slice none 0 0, by rw [HE.out.1]; rfl, by rw [HE.out.1]; exact World.ownsRow_nil _ _ _ _, HE.out.2⟩
 · obtain ⟨m, hm⟩ : ∃ m, m = p.length := ⟨_, rfl⟩
   rw [← hm] at hlen
   obtain ⟨g, n2, cap, _, _, _, _, _, _, rfl, rfl, hnc, _⟩ := hw.at (k := 0) (by omega)
   have hfew := hw.few
   have hrow : ∀ (k x : Nat), p[k]? = some x → ∃ (a : Option Addr) (q c : Nat), W.cell? ⟨g, 2 + k * 2, none⟩ = some (.slice a q c) ∧ W.cell? ⟨g, 2 + k * 2 + 1, none⟩ = some (.int .i64 (x : Int)) := fun k x hx => by
    obtain ⟨g', _, _, b, off, q, c, pl, u2, e2, _, _, c0, c2, _, _, _, hpk2, _⟩ := hw.at (k := k + 1) (by have := (List.getElem?_eq_some_iff.1 hx).1; omega)
    cases e2
    rw [hpl, List.getElem?_cons_succ, hx] at hpk2
    cases hpk2
    rw [show (k + 1) * 2 = 2 + k * 2 by omega] at c0 c2
    exact ⟨_, _, _, c0, c2⟩
   rw [hlen]
   rw [hlen] at hnc hfew
   obtain ⟨zs, hzs, hmk⟩ := zet W m (by omega)
   have hgl : g < W.heap.size := (zq hw.rows (g := g) rfl).2
   have HST : Hid (zaj W w zs p 0 (W.alloc (.cells zs 3))) := hH ⟨⟨by rw [List.take_zero, List.nil_append, List.drop_zero, Array.length_toList]; omega, Or.inr ⟨W.heap.size, p.length, zs, rfl, hbW.size, heap_alloc_new W _, Nat.le_refl _, by unfold maxLen; omega, by omega, by rw [List.take_zero, List.nil_append, List.drop_zero]; rw [List.take_of_length_le (by rw [Array.length_toList]; omega)]⟩⟩, zh W _⟩
   have HE := hH (aN hp (aN hbW (aN hm (aN hrow hzs))))
   have hmb : m ≤ 1000000 := by omega
   have hmz : ((m : Int) + 1 == 0) = false := by simp; omega
   have hmw : IntKind.i64.wrap (m : Int) = (m : Int) := IntWalk.i64_in _ (by omega)
   have hm1 : (1 : Int) ≤ (m : Int) + 1 := by omega
   have hcc : (m : Int) + 1 ≤ (cap : Int) := by omega
   clear hw hb hp hbW HC hlen hpl hrow hzs hfew hm
   go_wp2_with fail
   all_goals
    go_loopw [23] (fun i wr => ∃ k : Nat, k ≤ m ∧ i = .int .i64 (k : Int) ∧ Hid (zaj W w zs p k wr)) (fun i _ => m - (intOf i).toNat)
    case atStart => exact ⟨0, Nat.zero_le _, rfl, HST⟩
    case round =>
     obtain ⟨k, hk, rfl, hh⟩ := hrel
     clear HST
     by_cases hlt : k < m
     · first
        | (exfalso; omega)
        | (obtain ⟨x, hx⟩ : ∃ x, p[k]? = some x := ⟨_, List.getElem?_eq_getElem (by rw [← HE.out.2.2.1]; exact hlt)⟩
           obtain ⟨a, q, c, c0, c1⟩ := HE.out.2.2.2.1 k x hx
           obtain ⟨v0, hv0⟩ : ∃ v0, zs.toList[k]? = some v0 := ⟨_, List.getElem?_eq_getElem (by rw [Array.length_toList, HE.out.2.2.2.2]; exact hlt)⟩
           have hown := hh.out.1
           have hcell := World.ownsRow.cellAt hown k (by rw [← HE.out.2.2.1]; omega)
           have hfz := World.ownsRow.frozenAt hown k
           rw [List.getElem?_append_right (by rw [List.length_take, List.length_map, zN]; omega), List.length_take, List.length_map, zN, List.getElem?_drop, show k + (k - min k p.length) = k by (have := HE.out.2.2.1; omega), hv0] at hcell
           have d0 : wr.cell? ⟨g, 2 + k * 2, none⟩ = some (.slice a q c) := (hh.out.2.cell (p := ⟨g, 2 + k * 2, none⟩) hgl).trans c0
           have d1 : wr.cell? ⟨g, 2 + k * 2 + 1, none⟩ = some (.int .i64 (x : Int)) := (hh.out.2.cell (p := ⟨g, 2 + k * 2 + 1, none⟩) hgl).trans c1
           have hWl : W.heap.size < wr.heap.size := (World.block_lt_of_cell? _ _ hcell)
           have hcellA : ∀ o, (wr.alloc o).cell? ⟨W.heap.size, k, none⟩ = some v0 := fun o => (World.cell?_of_block (Below.heap_alloc wr o W.heap.size hWl)).trans hcell
           have hfzA : ∀ o, (wr.alloc o).frozen? ⟨W.heap.size, k, none⟩ = false := fun o => (World.frozen?_of_block (Below.heap_alloc wr o W.heap.size hWl)).trans hfz
           have hnx := fun o => hh.out.step (o := o) (by rw [HE.out.2.2.2.2]; exact HE.out.2.2.1) hx
           have HN := hH hnx
           have hki : (k : Int) < (m : Int) := by omega
           have HLT := hH hlt
           clear hx c0 c1 hv0 hown hcell hfz hnx hlt hk hh
           go_wp2_with fail
           exact ⟨⟨k + 1, by have := HLT.out; omega, by go_num, hH (HN.out _)⟩, by have := HLT.out; simp [intOf]; omega⟩)
     · have hki : ¬ (k : Int) < (m : Int) := by omega
       have hkm : k = m := by omega
       have HO := hH (aN hh.out hkm)
       clear hh hk hlt hkm
       go_wp2_with fail
       go_ret2
       obtain ⟨⟨ho, hb9⟩, hkm⟩ := HO.out
       refine ⟨.slice (some ⟨W.heap.size, 0, none⟩) m m, by rw [HE.out.1]; rfl, ?_, HE.out.2.1.trans (hb9.mono HE.out.2.1.size)⟩
       rw [HE.out.1]
       show World.ownsRow _ _ _ _ _ (yE p).length ((yE p).map qF)
       rw [zN]
       rw [List.take_of_length_le (by rw [List.length_map, zN]; have := HE.out.2.2.1; omega), List.drop_eq_nil_of_le (by rw [Array.length_toList]; have := HE.out.2.2.2.2; omega), List.append_nil] at ho
       rw [HE.out.2.2.1]
       exact ho
def qX (w : World) (S : Nat → Prop) (a : Option Addr) (cap : Nat) (l : List Int) : Prop := l.length ≤ cap ∧ (l = [] ∨ ∃ b off, a = some ⟨b, off, none⟩ ∧ S b ∧ ∀ k x, l[k]? = some x → w.cell? ⟨b, off + k, none⟩ = some (.int .i64 x))
theorem qX.kept {w w' : World} {S S' : Nat → Prop} {a : Option Addr} {cap : Nat} {l : List Int} (h : qX w S a cap l) (hS : ∀ k, S k → S' k ∧ w'.heap[k]? = w.heap[k]?) : qX w' S' a cap l := by
 obtain ⟨h0, h1⟩ := h
 refine ⟨h0, h1.imp (fun h => h) ?_⟩
 rintro ⟨b, off, e, hb, hc⟩
 exact ⟨b, off, e, (hS b hb).1, fun k x hx => (World.cell?_of_block (hS b hb).2).trans (hc k x hx)⟩
theorem Q9 {w : World} {B : Nat} {a : Option Addr} {cap n : Nat} {l : List Int} (h : w.ownsRow B 3 1 (.slice a n cap) n (l.map qF)) : qX w (fun y => B ≤ y ∧ y < w.heap.size) a cap l ∧ n = l.length := by
 have hl : n = l.length := by have := h.1; rw [List.length_map] at this; omega
 rcases h.2 with ⟨hv, h0⟩ | ⟨g, c', cur, hv, hB, hh, h3, h4, h5, h6⟩
 · cases hv
   exact ⟨⟨by omega, Or.inl (List.length_eq_zero_iff.1 (by omega))⟩, hl⟩
 · cases hv
   refine ⟨⟨by omega, Or.inr ⟨g, 0, rfl, ⟨hB, lt_of_some hh⟩, fun k x hx => ?_⟩⟩, hl⟩
   rw [Nat.zero_add]
   exact zy h rfl k _ (by rw [List.getElem?_map, hx]; rfl)
theorem qX.drop {w : World} {S : Nat → Prop} {b off cap : Nat} {l : List Int} (h : qX w S (some ⟨b, off, none⟩) cap l) (m : Nat) : qX w S (some ⟨b, off + m, none⟩) (cap - m) (l.drop m) := by
 obtain ⟨h0, h1⟩ := h
 refine ⟨by rw [List.length_drop]; omega, ?_⟩
 rcases h1 with h1 | ⟨b', off', e, hb, hc⟩
 · exact Or.inl (by rw [h1]; simp)
 · cases e
   refine Or.inr ⟨b, off + m, rfl, hb, fun k x hx => ?_⟩
   rw [List.getElem?_drop] at hx
   have := hc (m + k) x hx
   rw [Nat.add_assoc]; exact this
def jd (w : World) (S : Nat → Prop) (u : Tr) (b off : Nat) : Prop := S b ∧ w.cell? ⟨b, off, none⟩ = some (.int .i64 u.id) ∧ w.cell? ⟨b, off + 1, none⟩ = some (.int .i64 u.kind) ∧ w.cell? ⟨b, off + 2, none⟩ = some (.string u.text) ∧ ∃ ka kc, w.cell? ⟨b, off + 3, none⟩ = some (.slice ka (zb u.kids) kc) ∧ zb u.kids ≤ kc ∧ zF w S u.kids ka
def ZF : Fo → Nat → Tr → Fo
 | .nil, _, _ => .nil
 | .node b o k l r, 0, u => .node b o (u.id, u.kind, u.text) u.kids r
 | .node b o k l r, i + 1, u => .node b o k l (ZF r i u)
def yj : Tr → List Nat → Tr → Tr
 | _, [], x => x
 | t, i :: p, x => match zH t.kids i with
   | none => t
   | some u => ⟨t.id, t.kind, t.text, ZF t.kids i (yj u p x)⟩
theorem QD : ∀ (f : Fo) (i : Nat) (u : Tr), zb (ZF f i u) = zb f
 | .nil, _, _ => rfl
 | .node _ _ _ _ _, 0, _ => rfl
 | .node _ _ _ _ r, i + 1, u => by simp [ZF, zb, QD r i u]
theorem Y2 : ∀ (p : List Nat) (t : Tr) (r : List Nat), atT t (p ++ r) = (atT t p).bind fun u => atT u r
 | [], t, r => rfl
 | i :: p, t, r => by
   simp only [List.cons_append, atT]
   cases zH t.kids i with
   | none => rfl
   | some u => exact Y2 p u r
theorem Yh : ∀ (p : List Nat) (t u v x : Tr) (i : Nat), atT t p = some u → zH u.kids i = some v → yj t (p ++ [i]) x = yj t p ⟨u.id, u.kind, u.text, ZF u.kids i x⟩
 | [], t, u, v, x, i, h, hv => by cases h; simp [yj, hv]
 | j :: p, t, u, v, x, i, h, hv => by
   simp only [atT] at h
   simp only [List.cons_append, yj]
   cases hk : zH t.kids j with
   | none => simp [hk] at h
   | some w => rw [hk] at h; simp only at h ⊢; rw [Yh p w u v x i h hv]
def zd3 (w : World) (S : Nat → Prop) : Nat → Fo → Nat → Nat → Prop
 | _, .nil, _, _ => True
 | 0, .node _ _ _ _ r, b, off => zF w S r (some ⟨b, off + 4, none⟩)
 | i + 1, .node _ _ k l r, b, off => jd w S ⟨k.1, k.2.1, k.2.2, l⟩ b off ∧ zd3 w S i r b (off + 4)
theorem zaS : ∀ (f : Fo) (i : Nat) {w : World} {S : Nat → Prop} {u : Tr} {b off : Nat}, zd3 w S i f b off → jd w S u b (off + i * 4) → i < zb f → zF w S (ZF f i u) (some ⟨b, off, none⟩)
 | .nil, _, _, _, _, _, _, _, _, h => by simp [zb] at h
 | .node _ _ k l r, 0, w, S, u, b, off, h, hn, _ => by
   obtain ⟨h0, h1, h2, h3, ka, kc, h4, h5, h6⟩ := hn
   simp only [Nat.zero_mul, Nat.add_zero] at h1 h2 h3 h4
   exact ⟨b, off, ka, kc, rfl, h0, h1, h2, h3, h4, h5, h6, h⟩
 | .node _ _ k l r, i + 1, w, S, u, b, off, h, hn, hi => by
   obtain ⟨⟨h0, h1, h2, h3, ka, kc, h4, h5, h6⟩, hr⟩ := h
   refine ⟨b, off, ka, kc, rfl, h0, h1, h2, h3, h4, h5, h6, zaS r i hr ?_ (by simp [zb] at hi; omega)⟩
   rw [show off + 4 + i * 4 = off + (i + 1) * 4 by omega]; exact hn
theorem zcp : ∀ (f : Fo) (i : Nat) (xs : List Value) {w w' : World} {S S' : Nat → Prop} {b off : Nat}, y9 w S f xs → i < zb f → S' b → (∀ y, S y → S' y ∧ w'.heap[y]? = w.heap[y]?) → (∀ j u, xs[j]? = some u → (j < i * 4 ∨ i * 4 + 4 ≤ j) → w'.cell? ⟨b, off + j, none⟩ = some u) → zd3 w' S' i f b off
 | .nil, _, _, _, _, _, _, _, _, _, h, _, _, _ => by simp [zb] at h
 | .node _ _ k l r, 0, xs, w, w', S, S', b, off, hf, _, hb, hS, hc => by
   obtain ⟨ka, cap, ys, e, hcp, hkl, hr⟩ := hf
   subst e
   refine y9.lies hb (off + 4) (hr.kept hS) fun j u hu => ?_
   have := hc (j + 4) u (by rw [List.getElem?_append_right (by simp)]; simpa using hu) (Or.inr (by omega))
   rw [show off + 4 + j = off + (j + 4) by omega]; exact this
 | .node _ _ k l r, i + 1, xs, w, w', S, S', b, off, hf, hi, hb, hS, hc => by
   obtain ⟨ka, cap, ys, e, hcp, hkl, hr⟩ := hf
   subst e
   refine ⟨⟨hb, hc 0 _ rfl (Or.inl (by omega)), hc 1 _ rfl (Or.inl (by omega)), hc 2 _ rfl (Or.inl (by omega)), ka, cap, hc 3 _ rfl (Or.inl (by omega)), hcp, hkl.kept hS⟩, zcp r i ys hr (by simp [zb] at hi; omega) hb hS fun j u hu hj => ?_⟩
   have := hc (j + 4) u (by rw [List.getElem?_append_right (by simp)]; simpa using hu) (by omega)
   rw [show off + 4 + j = off + (j + 4) by omega]; exact this
theorem zd4 : ∀ (f : Fo) {w : World} {S : Nat → Prop} {b off : Nat}, zF w S f (some ⟨b, off, none⟩) → ∃ xs, y9 w S f xs ∧ xs.length = zb f * 4 ∧ (∀ j u, xs[j]? = some u → w.cell? ⟨b, off + j, none⟩ = some u) ∧ ∀ u ∈ xs, u.oneCell' = true
 | .nil, _, _, _, _, _ => ⟨[], rfl, rfl, fun _ _ h => by simp at h, fun _ h => by cases h⟩
 | .node _ _ k l r, w, S, b, off, h => by
   obtain ⟨b', off', ka, kc, e, hb, c0, c1, c2, c3, hcp, hkl, hr⟩ := h
   cases e
   obtain ⟨ys, h1, h2, h3, h4⟩ := zd4 r hr
   refine ⟨[.int .i64 k.1, .int .i64 k.2.1, .string k.2.2, .slice ka (zb l) kc] ++ ys, ⟨ka, kc, ys, rfl, hcp, hkl, h1⟩, by rw [List.length_append, h2]; simp [zb]; omega, fun j u hu => ?_, fun u hu => ?_⟩
   · match j, hu with
     | 0, hu => simp at hu; subst hu; exact c0
     | 1, hu => simp at hu; subst hu; exact c1
     | 2, hu => simp at hu; subst hu; exact c2
     | 3, hu => simp at hu; subst hu; exact c3
     | j + 4, hu =>
       have := h3 j u (by simpa using hu)
       rw [show off + (j + 4) = off + 4 + j by omega]; exact this
   · rcases List.mem_append.1 hu with hu | hu
     · simp only [List.mem_cons, List.not_mem_nil, or_false] at hu
       rcases hu with rfl | rfl | rfl | rfl <;> rfl
     · exact h4 u hu
theorem zcl (f : Fo) {w : World} {S : Nat → Prop} {a : Option Addr} (h : zF w S f a) : ∃ xs, y9 w S f xs ∧ xs.length = zb f * 4 ∧ (∀ ad, a = some ad → ∀ j u, xs[j]? = some u → w.cell? (ad.add j) = some u) ∧ (∀ u ∈ xs, u.oneCell' = true) := by
 cases f with
 | nil => exact ⟨[], rfl, rfl, fun _ _ _ _ h => by simp at h, fun _ h => by cases h⟩
 | node b0 o0 k l r =>
   have h' := h
   obtain ⟨b', off', ka, kc, e, _⟩ := h'
   subst e
   obtain ⟨xs, h1, h2, h3, h4⟩ := zd4 _ h
   exact ⟨xs, h1, h2, fun ad hd j u hu => by cases hd; rw [Addr.add_mid]; exact h3 j u hu, h4⟩
theorem vF {f : Fo} {i : Nat} {u : Tr} (h : zH f i = some u) : ze u.kids + 1 ≤ ze f := by
 have h2 := jP h
 have h3 : ∀ (j : Nat) (f : Fo), ze (zt j f) ≤ ze f := by
  intro j
  induction j with
  | zero => intro f; rw [qA]; exact Nat.le_refl _
  | succ j ih => intro f; cases f with
    | nil => exact Nat.le_refl _
    | node b o a l r => have := ih r; simp only [zt, ze]; omega
 have := h3 i f
 omega
theorem QC : ∀ (f : Fo) (i : Nat) (u v : Tr), zH f i = some u → ze (ZF f i v) + ze u.kids = ze f + ze v.kids
 | .nil, i, _, _, h => by cases i <;> simp [zH, zt, vk] at h
 | .node _ _ k l r, 0, u, v, h => by
   simp only [zH, zt, vk] at h
   cases h
   simp only [ZF, ze]; omega
 | .node _ _ k l r, i + 1, u, v, h => by
   have := QC r i u v (by simpa [zH, zt] using h)
   simp only [ZF, ze]; omega
def vK : Fo → Nat → Tr → Fo
 | f, 0, u => .node 0 0 (u.id, u.kind, u.text) u.kids f
 | .nil, _ + 1, _ => .nil
 | .node b o k l r, i + 1, u => .node b o k l (vK r i u)
def yG : Fo → Nat → Fo
 | .nil, _ => .nil
 | .node _ _ _ _ r, 0 => r
 | .node b o k l r, i + 1 => .node b o k l (yG r i)
theorem kE (f : Fo) (u : Tr) : vK f 0 u = .node 0 0 (u.id, u.kind, u.text) u.kids f := by cases f <;> rfl
theorem Q7 (b o : Nat) (k : Int × Int × ByteArray) (l r : Fo) : yG (.node b o k l r) 0 = r := rfl
theorem zeQ : ∀ (f : Fo) (i : Nat) (u : Tr), i ≤ zb f → zb (vK f i u) = zb f + 1
 | f, 0, u, _ => by rw [kE]; rfl
 | .nil, i + 1, u, h => by simp [zb] at h
 | .node b o k l r, i + 1, u, h => by
   have := zeQ r i u (by simp [zb] at h; omega)
   simp only [vK, zb, this]
theorem za0 : ∀ (f : Fo) (i : Nat), i < zb f → zb (yG f i) + 1 = zb f
 | .nil, i, h => by simp [zb] at h
 | .node b o k l r, 0, _ => rfl
 | .node b o k l r, i + 1, h => by
   have := za0 r i (by simp [zb] at h; omega)
   simp only [yG, zb]; omega
theorem zfo : ∀ (f : Fo) (i : Nat) (u : Tr), zH f i = some u → vg (vK (yG f i) i u) f = true ∧ zb (vK (yG f i) i u) = zb f
 | .nil, i, u, h => by cases i <;> simp [zH, zt, vk] at h
 | .node b o k l r, 0, u, h => by
   simp only [zH, zt, vk] at h
   cases h
   rw [Q7, kE]
   exact ⟨by simp [vg, Zq, vL], rfl⟩
 | .node b o k l r, i + 1, u, h => by
   obtain ⟨h1, h2⟩ := zfo r i u (by simpa [zH, zt] using h)
   refine ⟨?_, by simp only [yG, vK, zb, h2]⟩
   simp only [yG, vK, vg, h1, vL, Bool.and_true]
   simp [Zq]
theorem QY : ∀ (f : Fo) (i : Nat) (u : Tr), i ≤ zb f → ze (vK f i u) = ze f + ze u.kids + 1
 | f, 0, u, _ => by rw [kE]; simp only [ze]; omega
 | .nil, i + 1, u, h => by simp [zb] at h
 | .node b o k l r, i + 1, u, h => by
   have := QY r i u (by simp [zb] at h; omega)
   simp only [vK, ze, this]; omega
theorem QV : ∀ (f : Fo) (i : Nat) (u : Tr), zH f i = some u → ze (yG f i) + ze u.kids + 1 = ze f
 | .nil, i, u, h => by cases i <;> simp [zH, zt, vk] at h
 | .node b o k l r, 0, u, h => by
   simp only [zH, zt, vk] at h
   cases h
   simp only [yG, ze]; omega
 | .node b o k l r, i + 1, u, h => by
   have := QV r i u (by simpa [zH, zt] using h)
   simp only [yG, ze]; omega
theorem zbc {w : World} {S : Nat → Prop} : ∀ (f : Fo) (i : Nat) (xs : List Value), y9 w S f xs → i < zb f → y9 w S (yG f i) (xs.take (i * 4) ++ xs.drop (i * 4 + 4))
 | .nil, i, xs, h, hi => by simp [zb] at hi
 | .node b o k l r, 0, xs, h, hi => by
   obtain ⟨na, nc, ys, e, h1, h2, h3⟩ := h
   subst e
   rw [Q7]; simpa using h3
 | .node b o k l r, i + 1, xs, h, hi => by
   obtain ⟨na, nc, ys, e, h1, h2, h3⟩ := h
   subst e
   have := zbc r i ys h3 (by simp [zb] at hi; omega)
   refine ⟨na, nc, _, ?_, h1, h2, this⟩
   rw [show (i + 1) * 4 = i * 4 + 1 + 1 + 1 + 1 by omega, show i * 4 + 1 + 1 + 1 + 1 + 4 = i * 4 + 4 + 1 + 1 + 1 + 1 by omega]
   simp
theorem y9.nth {w : World} {S : Nat → Prop} : ∀ (f : Fo) (i : Nat) (u : Tr) (xs : List Value), y9 w S f xs → zH f i = some u → ∃ ka kc, xs[i * 4]? = some (.int .i64 u.id) ∧ xs[i * 4 + 1]? = some (.int .i64 u.kind) ∧ xs[i * 4 + 2]? = some (.string u.text) ∧ xs[i * 4 + 3]? = some (.slice ka (zb u.kids) kc) ∧ zb u.kids ≤ kc ∧ zF w S u.kids ka
 | .nil, i, u, xs, h, hi => by cases i <;> simp [zH, zt, vk] at hi
 | .node b o k l r, 0, u, xs, h, hi => by
   obtain ⟨na, nc, ys, e, h1, h2, h3⟩ := h
   subst e
   simp only [zH, zt, vk] at hi
   cases hi
   exact ⟨na, nc, by simp, by simp, by simp, by simp, h1, h2⟩
 | .node b o k l r, i + 1, u, xs, h, hi => by
   obtain ⟨na, nc, ys, e, h1, h2, h3⟩ := h
   subst e
   obtain ⟨ka, kc, e0, e1, e2, e3, h4⟩ := y9.nth r i u ys h3 (by simpa [zH, zt] using hi)
   refine ⟨ka, kc, ?_, ?_, ?_, ?_, h4⟩
   · rw [show (i + 1) * 4 = i * 4 + 4 by omega, List.getElem?_append_right (by simp)]; simpa using e0
   · rw [show (i + 1) * 4 + 1 = i * 4 + 1 + 4 by omega, List.getElem?_append_right (by simp)]; simpa using e1
   · rw [show (i + 1) * 4 + 2 = i * 4 + 2 + 4 by omega, List.getElem?_append_right (by simp)]; simpa using e2
   · rw [show (i + 1) * 4 + 3 = i * 4 + 3 + 4 by omega, List.getElem?_append_right (by simp)]; simpa using e3
theorem qY : ∀ (id : Int) (t : Tr) (p : List Nat), zM id t = some p → ∃ u, atT t p = some u ∧ u.id = id := by
 have key : ∀ (f : Fo) (id : Int) (i : Nat) (p : List Nat), fpi id i f = some p → ∃ j q u, p = (i + j) :: q ∧ ∃ v, zH f j = some v ∧ atT v q = some u ∧ u.id = id := by
  intro f
  induction f with
  | nil => intro id i p h; simp [fpi] at h
  | node b o k l r ihl ihr =>
    intro id i p h
    simp only [fpi] at h
    split at h
    · rename_i hk
      cases h
      exact ⟨0, [], ⟨k.1, k.2.1, k.2.2, l⟩, rfl, _, rfl, rfl, hk⟩
    · split at h
      · rename_i q hq
        cases h
        obtain ⟨j, q', u, e, v, h1, h2, h3⟩ := ihl id 0 q hq
        subst e
        refine ⟨0, (0 + j) :: q', u, rfl, ⟨k.1, k.2.1, k.2.2, l⟩, rfl, ?_, h3⟩
        rw [atT]; simp only [Nat.zero_add, h1]; exact h2
      · obtain ⟨j, q', u, e, v, h1, h2, h3⟩ := ihr id (i + 1) p h
        refine ⟨j + 1, q', u, by rw [e]; congr 1; omega, v, ?_, h2, h3⟩
        simpa [zH, zt] using h1
 intro id t p h
 rw [zM] at h
 split at h
 · rename_i hid
   cases h
   exact ⟨t, rfl, hid⟩
 · obtain ⟨j, q, u, e, v, h1, h2, h3⟩ := key _ _ _ _ h
   subst e
   exact ⟨u, by rw [atT]; simp only [Nat.zero_add, h1]; exact h2, h3⟩
theorem Zr : ∀ (p : List Nat) (t u : Tr), atT t p = some u → ze u.kids + p.length ≤ ze t.kids
 | [], t, u, h => by cases h; simp
 | i :: p, t, u, h => by
   simp only [atT] at h
   cases hk : zH t.kids i with
   | none => rw [hk] at h; cases h
   | some v =>
     rw [hk] at h
     have h1 := Zr p v u h
     have h2 := vF hk
     simp only [List.length_cons]; omega
def zA : Tr := ⟨0, 0, ⟨#[]⟩, .nil⟩
def Yt (par at_ : Int) (t x : Tr) : Tr × Int := match zM par t with
 | none => (zA, 4)
 | some p => match atT t p with
   | none => (zA, 4)
   | some u => if 0 ≤ at_ ∧ at_ ≤ (zb u.kids : Int) then (yj t p ⟨u.id, u.kind, u.text, vK u.kids at_.toNat x⟩, 0) else (yj t p u, 2)
def kN (t : Tr) (q : List Nat) (i : Nat) : Tr × Tr := match atT t q with
 | none => (zA, zA)
 | some u => match zH u.kids i with
   | none => (zA, zA)
   | some v => (yj t q ⟨u.id, u.kind, u.text, yG u.kids i⟩, v)
theorem vH : ∀ (p : List Nat) (t u x : Tr), atT t p = some u → ze (yj t p x).kids + ze u.kids = ze t.kids + ze x.kids
 | [], t, u, x, h => by cases h; simp [yj]; omega
 | i :: p, t, u, x, h => by
   simp only [atT] at h
   simp only [yj]
   cases hk : zH t.kids i with
   | none => rw [hk] at h; cases h
   | some v =>
     rw [hk] at h
     have h1 := vH p v u x h
     have h2 := QC t.kids i v (yj v p x) hk
     simp only
     omega
theorem Ji (par at_ : Int) (t x : Tr) : ze (Yt par at_ t x).1.kids ≤ ze t.kids + ze x.kids + 1 := by
 unfold Yt
 split
 · simp [zA, ze]
 · split
   · simp [zA, ze]
   · rename_i p hp _ u hu
     split
     · rename_i hc
       have h1 := vH p t u ⟨u.id, u.kind, u.text, vK u.kids at_.toNat x⟩ hu
       have h2 := QY u.kids at_.toNat x (by omega)
       simp only at h1 ⊢; omega
     · have h1 := vH p t u u hu
       simp only; omega
theorem Qv (t : Tr) (q : List Nat) (i : Nat) : ze (kN t q i).1.kids + ze (kN t q i).2.kids ≤ ze t.kids := by
 unfold kN
 split
 · simp [zA, ze]
 · rename_i u hu
   split
   · simp [zA, ze]
   · rename_i v hv
     have h1 := vH q t u ⟨u.id, u.kind, u.text, yG u.kids i⟩ hu
     have h2 := QV u.kids i v hv
     simp only at h1 ⊢; omega
end Go.Proofs.YtonapijgfalpaaaGreat
