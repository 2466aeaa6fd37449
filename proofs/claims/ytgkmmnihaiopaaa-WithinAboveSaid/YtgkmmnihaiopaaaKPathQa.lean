/-
  .
-/
import Derived.Test.YtgkmmnihaiopaaaHPathQa
set_option maxRecDepth 100000
set_option maxHeartbeats 40000000
set_option linter.unusedVariables false
set_option linter.unusedSimpArgs false
namespace Go.Proofs.Ytgkmmnihaiopaaa
open Go.RowKit Go.Shelf
def yX (w : World) (S : Nat → Prop) (a : Option Addr) (cap : Nat) (l : List Int) : Prop := l.length ≤ cap ∧ (l = [] ∨ ∃ b off, a = some ⟨b, off, none⟩ ∧ S b ∧ ∀ k x, l[k]? = some x → w.cell? ⟨b, off + k, none⟩ = some (.int .i64 x))
theorem yX.kept {w w' : World} {S S' : Nat → Prop} {a : Option Addr} {cap : Nat} {l : List Int} (h : yX w S a cap l) (hS : ∀ k, S k → S' k ∧ w'.heap[k]? = w.heap[k]?) : yX w' S' a cap l := by
 obtain ⟨h0, h1⟩ := h
 refine ⟨h0, h1.imp (fun h => h) ?_⟩
 rintro ⟨b, off, e, hb, hc⟩
 exact ⟨b, off, e, (hS b hb).1, fun k x hx => (World.cell?_of_block (hS b hb).2).trans (hc k x hx)⟩
theorem yX.take {w : World} {S : Nat → Prop} {a : Option Addr} {cap : Nat} {l : List Int} (h : yX w S a cap l) (m : Nat) : yX w S a cap (l.take m) := by
 obtain ⟨h0, h1⟩ := h
 refine ⟨by rw [List.length_take]; omega, ?_⟩
 rcases h1 with h1 | ⟨b, off, e, hb, hc⟩
 · exact Or.inl (by rw [h1]; simp)
 · exact Or.inr ⟨b, off, e, hb, fun k x hx => hc k x (by
    rw [List.getElem?_take] at hx
    split at hx
    · exact hx
    · cases hx)⟩
theorem kQ {w : World} {B : Nat} {a : Option Addr} {cap n : Nat} {l : List Int} (h : w.ownsRow B 3 1 (.slice a n cap) n (l.map vE)) : yX w (fun y => B ≤ y ∧ y < w.heap.size) a cap l ∧ n = l.length := by
 have hl : n = l.length := by have := h.1; rw [List.length_map] at this; omega
 rcases h.2 with ⟨hv, h0⟩ | ⟨g, c', cur, hv, hB, hh, h3, h4, h5, h6⟩
 · cases hv
   exact ⟨⟨by omega, Or.inl (List.length_eq_zero_iff.1 (by omega))⟩, hl⟩
 · cases hv
   refine ⟨⟨by omega, Or.inr ⟨g, 0, rfl, ⟨hB, lt_of_some hh⟩, fun k x hx => ?_⟩⟩, hl⟩
   rw [Nat.zero_add]
   exact zD h rfl k _ (by rw [List.getElem?_map, hx]; rfl)
theorem yX.drop {w : World} {S : Nat → Prop} {b off cap : Nat} {l : List Int} (h : yX w S (some ⟨b, off, none⟩) cap l) (m : Nat) : yX w S (some ⟨b, off + m, none⟩) (cap - m) (l.drop m) := by
 obtain ⟨h0, h1⟩ := h
 refine ⟨by rw [List.length_drop]; omega, ?_⟩
 rcases h1 with h1 | ⟨b', off', e, hb, hc⟩
 · exact Or.inl (by rw [h1]; simp)
 · cases e
   refine Or.inr ⟨b, off + m, rfl, hb, fun k x hx => ?_⟩
   rw [List.getElem?_drop] at hx
   have := hc (m + k) x hx
   rw [Nat.add_assoc]; exact this
theorem yX.cap {w : World} {S : Nat → Prop} {a : Option Addr} {cap cap' : Nat} {l : List Int} (h : yX w S a cap l) (hc : l.length ≤ cap') : yX w S a cap' l := ⟨hc, h.2⟩
def qM (w : World) (S : Nat → Prop) (u : Tr) (b off : Nat) : Prop := S b ∧ w.cell? ⟨b, off, none⟩ = some (.int .i64 u.id) ∧ w.cell? ⟨b, off + 1, none⟩ = some (.int .i64 u.kind) ∧ w.cell? ⟨b, off + 2, none⟩ = some (.string u.text) ∧ ∃ ka kc, w.cell? ⟨b, off + 3, none⟩ = some (.slice ka (foLen u.kids) kc) ∧ foLen u.kids ≤ kc ∧ zC w S u.kids ka
theorem qM.kept {w w' : World} {S S' : Nat → Prop} {u : Tr} {b off : Nat} (h : qM w S u b off) (hS : ∀ y, S y → S' y ∧ w'.heap[y]? = w.heap[y]?) : qM w' S' u b off := by
 obtain ⟨h0, h1, h2, h3, ka, kc, h4, h5, h6⟩ := h
 have hb := hS b h0
 exact ⟨hb.1, (World.cell?_of_block hb.2).trans h1, (World.cell?_of_block hb.2).trans h2, (World.cell?_of_block hb.2).trans h3, ka, kc, (World.cell?_of_block hb.2).trans h4, h5, h6.kept hS⟩
def vZ : Fo → Nat → Tr → Fo
 | .nil, _, _ => .nil
 | .node b o k l r, 0, u => .node b o (u.id, u.kind, u.text) u.kids r
 | .node b o k l r, i + 1, u => .node b o k l (vZ r i u)
def zO : Tr → List Nat → Tr → Tr
 | _, [], x => x
 | t, i :: p, x => match zz t.kids i with
   | none => t
   | some u => ⟨t.id, t.kind, t.text, vZ t.kids i (zO u p x)⟩
theorem Q4 : ∀ (f : Fo) (i : Nat) (u : Tr), foLen (vZ f i u) = foLen f
 | .nil, _, _ => rfl
 | .node _ _ _ _ _, 0, _ => rfl
 | .node _ _ _ _ r, i + 1, u => by simp [vZ, foLen, Q4 r i u]
theorem QK : ∀ (f : Fo) (i : Nat) (u : Tr), i < foLen f → zz (vZ f i u) i = some u
 | .nil, _, _, h => by simp [foLen] at h
 | .node _ _ _ _ _, 0, _, _ => rfl
 | .node _ _ _ _ r, i + 1, u, h => by
   have := QK r i u (by simp [foLen] at h; omega)
   simpa [zz, vZ, zo] using this
theorem zbx : ∀ (f : Fo) (i : Nat) (u v : Tr), vZ (vZ f i u) i v = vZ f i v
 | .nil, _, _, _ => rfl
 | .node _ _ _ _ _, 0, _, _ => rfl
 | .node _ _ _ _ r, i + 1, u, v => by simp [vZ, zbx r i u v]
theorem yj : ∀ (p : List Nat) (t : Tr) (r : List Nat), atT t (p ++ r) = (atT t p).bind fun u => atT u r
 | [], t, r => rfl
 | i :: p, t, r => by
   simp only [List.cons_append, atT]
   cases zz t.kids i with
   | none => rfl
   | some u => exact yj p u r
theorem YL : ∀ (p : List Nat) (t u v x : Tr) (i : Nat), atT t p = some u → zz u.kids i = some v → zO t (p ++ [i]) x = zO t p ⟨u.id, u.kind, u.text, vZ u.kids i x⟩
 | [], t, u, v, x, i, h, hv => by cases h; simp [zO, hv]
 | j :: p, t, u, v, x, i, h, hv => by
   simp only [atT] at h
   simp only [List.cons_append, zO]
   cases hk : zz t.kids j with
   | none => simp [hk] at h
   | some w => rw [hk] at h; simp only at h ⊢; rw [YL p w u v x i h hv]
def zeg (w : World) (S : Nat → Prop) : Nat → Fo → Nat → Nat → Prop
 | _, .nil, _, _ => True
 | 0, .node _ _ _ _ r, b, off => zC w S r (some ⟨b, off + 4, none⟩)
 | i + 1, .node _ _ k l r, b, off => qM w S ⟨k.1, k.2.1, k.2.2, l⟩ b off ∧ zeg w S i r b (off + 4)
theorem zaE : ∀ (f : Fo) (i : Nat) {w : World} {S : Nat → Prop} {u : Tr} {b off : Nat}, zeg w S i f b off → qM w S u b (off + i * 4) → i < foLen f → zC w S (vZ f i u) (some ⟨b, off, none⟩)
 | .nil, _, _, _, _, _, _, _, _, h => by simp [foLen] at h
 | .node _ _ k l r, 0, w, S, u, b, off, h, hn, _ => by
   obtain ⟨h0, h1, h2, h3, ka, kc, h4, h5, h6⟩ := hn
   simp only [Nat.zero_mul, Nat.add_zero] at h1 h2 h3 h4
   exact ⟨b, off, ka, kc, rfl, h0, h1, h2, h3, h4, h5, h6, h⟩
 | .node _ _ k l r, i + 1, w, S, u, b, off, h, hn, hi => by
   obtain ⟨⟨h0, h1, h2, h3, ka, kc, h4, h5, h6⟩, hr⟩ := h
   refine ⟨b, off, ka, kc, rfl, h0, h1, h2, h3, h4, h5, h6, zaE r i hr ?_ (by simp [foLen] at hi; omega)⟩
   rw [show off + 4 + i * 4 = off + (i + 1) * 4 by omega]; exact hn
theorem zcJ : ∀ (f : Fo) (i : Nat) (xs : List Value) {w w' : World} {S S' : Nat → Prop} {b off : Nat}, yP w S f xs → i < foLen f → S' b → (∀ y, S y → S' y ∧ w'.heap[y]? = w.heap[y]?) → (∀ j u, xs[j]? = some u → (j < i * 4 ∨ i * 4 + 4 ≤ j) → w'.cell? ⟨b, off + j, none⟩ = some u) → zeg w' S' i f b off
 | .nil, _, _, _, _, _, _, _, _, _, h, _, _, _ => by simp [foLen] at h
 | .node _ _ k l r, 0, xs, w, w', S, S', b, off, hf, _, hb, hS, hc => by
   obtain ⟨ka, cap, ys, e, hcp, hkl, hr⟩ := hf
   subst e
   refine yP.lies hb (off + 4) (hr.kept hS) fun j u hu => ?_
   have := hc (j + 4) u (by rw [List.getElem?_append_right (by simp)]; simpa using hu) (Or.inr (by omega))
   rw [show off + 4 + j = off + (j + 4) by omega]; exact this
 | .node _ _ k l r, i + 1, xs, w, w', S, S', b, off, hf, hi, hb, hS, hc => by
   obtain ⟨ka, cap, ys, e, hcp, hkl, hr⟩ := hf
   subst e
   refine ⟨⟨hb, hc 0 _ rfl (Or.inl (by omega)), hc 1 _ rfl (Or.inl (by omega)), hc 2 _ rfl (Or.inl (by omega)), ka, cap, hc 3 _ rfl (Or.inl (by omega)), hcp, hkl.kept hS⟩, zcJ r i ys hr (by simp [foLen] at hi; omega) hb hS fun j u hu hj => ?_⟩
   have := hc (j + 4) u (by rw [List.getElem?_append_right (by simp)]; simpa using hu) (by omega)
   rw [show off + 4 + j = off + (j + 4) by omega]; exact this
theorem ze5 : ∀ (f : Fo) {w : World} {S : Nat → Prop} {b off : Nat}, zC w S f (some ⟨b, off, none⟩) → ∃ xs, yP w S f xs ∧ xs.length = foLen f * 4 ∧ (∀ j u, xs[j]? = some u → w.cell? ⟨b, off + j, none⟩ = some u) ∧ ∀ u ∈ xs, u.oneCell' = true
 | .nil, _, _, _, _, _ => ⟨[], rfl, rfl, fun _ _ h => by simp at h, fun _ h => by cases h⟩
 | .node _ _ k l r, w, S, b, off, h => by
   obtain ⟨b', off', ka, kc, e, hb, c0, c1, c2, c3, hcp, hkl, hr⟩ := h
   cases e
   obtain ⟨ys, h1, h2, h3, h4⟩ := ze5 r hr
   refine ⟨[.int .i64 k.1, .int .i64 k.2.1, .string k.2.2, .slice ka (foLen l) kc] ++ ys, ⟨ka, kc, ys, rfl, hcp, hkl, h1⟩, by rw [List.length_append, h2]; simp [foLen]; omega, fun j u hu => ?_, fun u hu => ?_⟩
   · match j, hu with
     | 0, hu => simp at hu; subst hu; exact c0
     | 1, hu => simp at hu; subst hu; exact c1
     | 2, hu => simp at hu; subst hu; exact c2
     | 3, hu => simp at hu; subst hu; exact c3
     | j + 4, hu =>
       have := h3 j u (by simpa using hu)
       rw [show off + (j + 4) = off + 4 + j by omega]; exact this
   · rcases List.mem_append.1 hu with hu | hu
     · simp only [List.mem_cons, List.not_mem_nil, or_false] at hu
       rcases hu with rfl | rfl | rfl | rfl <;> rfl
     · exact h4 u hu
theorem zcR (f : Fo) {w : World} {S : Nat → Prop} {a : Option Addr} (h : zC w S f a) : ∃ xs, yP w S f xs ∧ xs.length = foLen f * 4 ∧ (∀ ad, a = some ad → ∀ j u, xs[j]? = some u → w.cell? (ad.add j) = some u) ∧ (∀ u ∈ xs, u.oneCell' = true) := by
 cases f with
 | nil => exact ⟨[], rfl, rfl, fun _ _ _ _ h => by simp at h, fun _ h => by cases h⟩
 | node b0 o0 k l r =>
   have h' := h
   obtain ⟨b', off', ka, kc, e, _⟩ := h'
   subst e
   obtain ⟨xs, h1, h2, h3, h4⟩ := ze5 _ h
   exact ⟨xs, h1, h2, fun ad hd j u hu => by cases hd; rw [Addr.add_mid]; exact h3 j u hu, h4⟩
theorem jB {f : Fo} {i : Nat} {u : Tr} (h : zz f i = some u) : zg u.kids + 1 ≤ zg f := by
 have h2 := kE h
 have h3 : ∀ (j : Nat) (f : Fo), zg (zo j f) ≤ zg f := by
  intro j
  induction j with
  | zero => intro f; rw [qC]; exact Nat.le_refl _
  | succ j ih => intro f; cases f with
    | nil => exact Nat.le_refl _
    | node b o a l r => have := ih r; simp only [zo, zg]; omega
 have := h3 i f
 omega
theorem Q5 : ∀ (f : Fo) (i : Nat) (u v : Tr), zz f i = some u → zg (vZ f i v) + zg u.kids = zg f + zg v.kids
 | .nil, i, _, _, h => by cases i <;> simp [zz, zo, yJ] at h
 | .node _ _ k l r, 0, u, v, h => by
   simp only [zz, zo, yJ] at h
   cases h
   simp only [vZ, zg]; omega
 | .node _ _ k l r, i + 1, u, v, h => by
   have := Q5 r i u v (by simpa [zz, zo] using h)
   simp only [vZ, zg]; omega
def qz : Fo → Nat → Tr → Fo
 | f, 0, u => .node 0 0 (u.id, u.kind, u.text) u.kids f
 | .nil, _ + 1, _ => .nil
 | .node b o k l r, i + 1, u => .node b o k l (qz r i u)
def ym : Fo → Nat → Fo
 | .nil, _ => .nil
 | .node _ _ _ _ r, 0 => r
 | .node b o k l r, i + 1 => .node b o k l (ym r i)
theorem jy (f : Fo) (u : Tr) : qz f 0 u = .node 0 0 (u.id, u.kind, u.text) u.kids f := by cases f <;> rfl
theorem Jr (b o : Nat) (k : Int × Int × ByteArray) (l r : Fo) : ym (.node b o k l r) 0 = r := rfl
theorem za3 : ∀ (f : Fo) (i : Nat) (u : Tr), i ≤ foLen f → foLen (qz f i u) = foLen f + 1
 | f, 0, u, _ => by rw [jy]; rfl
 | .nil, i + 1, u, h => by simp [foLen] at h
 | .node b o k l r, i + 1, u, h => by
   have := za3 r i u (by simp [foLen] at h; omega)
   simp only [qz, foLen, this]
theorem zaK : ∀ (f : Fo) (i : Nat), i < foLen f → foLen (ym f i) + 1 = foLen f
 | .nil, i, h => by simp [foLen] at h
 | .node b o k l r, 0, _ => rfl
 | .node b o k l r, i + 1, h => by
   have := zaK r i (by simp [foLen] at h; omega)
   simp only [ym, foLen]; omega
theorem zfS : ∀ (f : Fo) (i : Nat) (u : Tr), zz f i = some u → YN (qz (ym f i) i u) f = true ∧ foLen (qz (ym f i) i u) = foLen f
 | .nil, i, u, h => by cases i <;> simp [zz, zo, yJ] at h
 | .node b o k l r, 0, u, h => by
   simp only [zz, zo, yJ] at h
   cases h
   rw [Jr, jy]
   exact ⟨by simp [YN, zbv, jV], rfl⟩
 | .node b o k l r, i + 1, u, h => by
   obtain ⟨h1, h2⟩ := zfS r i u (by simpa [zz, zo] using h)
   refine ⟨?_, by simp only [ym, qz, foLen, h2]⟩
   simp only [ym, qz, YN, h1, jV, Bool.and_true]
   simp [zbv]
theorem Yn : ∀ (f : Fo) (i : Nat) (u : Tr), i ≤ foLen f → zg (qz f i u) = zg f + zg u.kids + 1
 | f, 0, u, _ => by rw [jy]; simp only [zg]; omega
 | .nil, i + 1, u, h => by simp [foLen] at h
 | .node b o k l r, i + 1, u, h => by
   have := Yn r i u (by simp [foLen] at h; omega)
   simp only [qz, zg, this]; omega
theorem Jq : ∀ (f : Fo) (i : Nat) (u : Tr), zz f i = some u → zg (ym f i) + zg u.kids + 1 = zg f
 | .nil, i, u, h => by cases i <;> simp [zz, zo, yJ] at h
 | .node b o k l r, 0, u, h => by
   simp only [zz, zo, yJ] at h
   cases h
   simp only [ym, zg]; omega
 | .node b o k l r, i + 1, u, h => by
   have := Jq r i u (by simpa [zz, zo] using h)
   simp only [ym, zg]; omega
def Zi (u : Tr) (ka : Option Addr) (kc : Nat) : List Value := [.int .i64 u.id, .int .i64 u.kind, .string u.text, .slice ka (foLen u.kids) kc]
theorem za4 {w : World} {S : Nat → Prop} : ∀ (f : Fo) (i : Nat) (u : Tr) (ka : Option Addr) (kc : Nat) (xs : List Value), yP w S f xs → foLen u.kids ≤ kc → zC w S u.kids ka → i ≤ foLen f → yP w S (qz f i u) (xs.take (i * 4) ++ Zi u ka kc ++ xs.drop (i * 4))
 | f, 0, u, ka, kc, xs, h, hc, hk, _ => by
   rw [jy, Nat.zero_mul, List.take_zero, List.drop_zero, List.nil_append]
   exact ⟨ka, kc, xs, rfl, hc, hk, h⟩
 | .nil, i + 1, u, ka, kc, xs, h, hc, hk, hi => by simp [foLen] at hi
 | .node b o k l r, i + 1, u, ka, kc, xs, h, hc, hk, hi => by
   obtain ⟨na, nc, ys, e, h1, h2, h3⟩ := h
   subst e
   have := za4 r i u ka kc ys h3 hc hk (by simp [foLen] at hi; omega)
   refine ⟨na, nc, _, ?_, h1, h2, this⟩
   rw [show (i + 1) * 4 = i * 4 + 1 + 1 + 1 + 1 by omega]
   simp
theorem zaL {w : World} {S : Nat → Prop} : ∀ (f : Fo) (i : Nat) (xs : List Value), yP w S f xs → i < foLen f → yP w S (ym f i) (xs.take (i * 4) ++ xs.drop (i * 4 + 4))
 | .nil, i, xs, h, hi => by simp [foLen] at hi
 | .node b o k l r, 0, xs, h, hi => by
   obtain ⟨na, nc, ys, e, h1, h2, h3⟩ := h
   subst e
   rw [Jr]; simpa using h3
 | .node b o k l r, i + 1, xs, h, hi => by
   obtain ⟨na, nc, ys, e, h1, h2, h3⟩ := h
   subst e
   have := zaL r i ys h3 (by simp [foLen] at hi; omega)
   refine ⟨na, nc, _, ?_, h1, h2, this⟩
   rw [show (i + 1) * 4 = i * 4 + 1 + 1 + 1 + 1 by omega, show i * 4 + 1 + 1 + 1 + 1 + 4 = i * 4 + 4 + 1 + 1 + 1 + 1 by omega]
   simp
theorem yP.nth {w : World} {S : Nat → Prop} : ∀ (f : Fo) (i : Nat) (u : Tr) (xs : List Value), yP w S f xs → zz f i = some u → ∃ ka kc, xs[i * 4]? = some (.int .i64 u.id) ∧ xs[i * 4 + 1]? = some (.int .i64 u.kind) ∧ xs[i * 4 + 2]? = some (.string u.text) ∧ xs[i * 4 + 3]? = some (.slice ka (foLen u.kids) kc) ∧ foLen u.kids ≤ kc ∧ zC w S u.kids ka
 | .nil, i, u, xs, h, hi => by cases i <;> simp [zz, zo, yJ] at hi
 | .node b o k l r, 0, u, xs, h, hi => by
   obtain ⟨na, nc, ys, e, h1, h2, h3⟩ := h
   subst e
   simp only [zz, zo, yJ] at hi
   cases hi
   exact ⟨na, nc, by simp, by simp, by simp, by simp, h1, h2⟩
 | .node b o k l r, i + 1, u, xs, h, hi => by
   obtain ⟨na, nc, ys, e, h1, h2, h3⟩ := h
   subst e
   obtain ⟨ka, kc, e0, e1, e2, e3, h4⟩ := yP.nth r i u ys h3 (by simpa [zz, zo] using hi)
   refine ⟨ka, kc, ?_, ?_, ?_, ?_, h4⟩
   · rw [show (i + 1) * 4 = i * 4 + 4 by omega, List.getElem?_append_right (by simp)]; simpa using e0
   · rw [show (i + 1) * 4 + 1 = i * 4 + 1 + 4 by omega, List.getElem?_append_right (by simp)]; simpa using e1
   · rw [show (i + 1) * 4 + 2 = i * 4 + 2 + 4 by omega, List.getElem?_append_right (by simp)]; simpa using e2
   · rw [show (i + 1) * 4 + 3 = i * 4 + 3 + 4 by omega, List.getElem?_append_right (by simp)]; simpa using e3
theorem qJ : ∀ (id : Int) (t : Tr) (p : List Nat), zw id t = some p → ∃ u, atT t p = some u ∧ u.id = id := by
 have key : ∀ (f : Fo) (id : Int) (i : Nat) (p : List Nat), fpi id i f = some p → ∃ j q u, p = (i + j) :: q ∧ ∃ v, zz f j = some v ∧ atT v q = some u ∧ u.id = id := by
  intro f
  induction f with
  | nil => intro id i p h; simp [fpi] at h
  | node b o k l r ihl ihr =>
    intro id i p h
    simp only [fpi] at h
    split at h
    · rename_i hk
      cases h
      exact ⟨0, [], ⟨k.1, k.2.1, k.2.2, l⟩, rfl, _, rfl, rfl, hk⟩
    · split at h
      · rename_i q hq
        cases h
        obtain ⟨j, q', u, e, v, h1, h2, h3⟩ := ihl id 0 q hq
        subst e
        refine ⟨0, (0 + j) :: q', u, rfl, ⟨k.1, k.2.1, k.2.2, l⟩, rfl, ?_, h3⟩
        rw [atT]; simp only [Nat.zero_add, h1]; exact h2
      · obtain ⟨j, q', u, e, v, h1, h2, h3⟩ := ihr id (i + 1) p h
        refine ⟨j + 1, q', u, by rw [e]; congr 1; omega, v, ?_, h2, h3⟩
        simpa [zz, zo] using h1
 intro id t p h
 rw [zw] at h
 split at h
 · rename_i hid
   cases h
   exact ⟨t, rfl, hid⟩
 · obtain ⟨j, q, u, e, v, h1, h2, h3⟩ := key _ _ _ _ h
   subst e
   exact ⟨u, by rw [atT]; simp only [Nat.zero_add, h1]; exact h2, h3⟩
theorem ZO : ∀ (p : List Nat) (t u : Tr), atT t p = some u → zg u.kids + p.length ≤ zg t.kids
 | [], t, u, h => by cases h; simp
 | i :: p, t, u, h => by
   simp only [atT] at h
   cases hk : zz t.kids i with
   | none => rw [hk] at h; cases h
   | some v =>
     rw [hk] at h
     have h1 := ZO p v u h
     have h2 := jB hk
     simp only [List.length_cons]; omega
def zB : Tr := ⟨0, 0, ⟨#[]⟩, .nil⟩
def Zy (par at_ : Int) (t x : Tr) : Tr × Int := match zw par t with
 | none => (zB, 4)
 | some p => match atT t p with
   | none => (zB, 4)
   | some u => if 0 ≤ at_ ∧ at_ ≤ (foLen u.kids : Int) then (zO t p ⟨u.id, u.kind, u.text, qz u.kids at_.toNat x⟩, 0) else (zO t p u, 2)
def kg (t : Tr) (q : List Nat) (i : Nat) : Tr × Tr := match atT t q with
 | none => (zB, zB)
 | some u => match zz u.kids i with
   | none => (zB, zB)
   | some v => (zO t q ⟨u.id, u.kind, u.text, ym u.kids i⟩, v)
theorem vR : ∀ (p : List Nat) (t u x : Tr), atT t p = some u → zg (zO t p x).kids + zg u.kids = zg t.kids + zg x.kids
 | [], t, u, x, h => by cases h; simp [zO]; omega
 | i :: p, t, u, x, h => by
   simp only [atT] at h
   simp only [zO]
   cases hk : zz t.kids i with
   | none => rw [hk] at h; cases h
   | some v =>
     rw [hk] at h
     have h1 := vR p v u x h
     have h2 := Q5 t.kids i v (zO v p x) hk
     simp only
     omega
theorem JF (par at_ : Int) (t x : Tr) : zg (Zy par at_ t x).1.kids ≤ zg t.kids + zg x.kids + 1 := by
 unfold Zy
 split
 · simp [zB, zg]
 · split
   · simp [zB, zg]
   · rename_i p hp _ u hu
     split
     · rename_i hc
       have h1 := vR p t u ⟨u.id, u.kind, u.text, qz u.kids at_.toNat x⟩ hu
       have h2 := Yn u.kids at_.toNat x (by omega)
       simp only at h1 ⊢; omega
     · have h1 := vR p t u u hu
       simp only; omega
theorem ZE (t : Tr) (q : List Nat) (i : Nat) : zg (kg t q i).1.kids + zg (kg t q i).2.kids ≤ zg t.kids := by
 unfold kg
 split
 · simp [zB, zg]
 · rename_i u hu
   split
   · simp [zB, zg]
   · rename_i v hv
     have h1 := vR q t u ⟨u.id, u.kind, u.text, ym u.kids i⟩ hu
     have h2 := Jq u.kids i v hv
     simp only at h1 ⊢; omega
end Go.Proofs.Ytgkmmnihaiopaaa
