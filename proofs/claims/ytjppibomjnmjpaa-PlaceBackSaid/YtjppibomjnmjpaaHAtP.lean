/-
  At: the node to which a path goes, in new memory. No condition but that there are not too many nodes, and the path is not too long.
-/
import Derived.Test.YtjppibomjnmjpaaHFollow
import Derived.Test.YtjppibomjnmjpaaEOpen
import Derived.Test.YtjppibomjnmjpaaHLawP
namespace Go.Proofs.Ytjppibomjnmjpaa
open Go.RowKit Go.Shelf
set_option linter.unusedVariables false
set_option linter.unusedSimpArgs false

/-- A node lies at an address. -/
def NodeAt (w : World) (S : Nat → Prop) (u : Tr) (b off : Nat) : Prop := S b ∧ w.cell? ⟨b, off, none⟩ = some (.int .i64 u.id) ∧ w.cell? ⟨b, off + 1, none⟩ = some (.int .i64 u.kind) ∧ w.cell? ⟨b, off + 2, none⟩ = some (.string u.text) ∧ ∃ ka kc, w.cell? ⟨b, off + 3, none⟩ = some (.slice ka (foLen u.kids) kc) ∧ foLen u.kids ≤ kc ∧ FoAt w S u.kids ka
theorem NodeAt.kept {w w' : World} {S S' : Nat → Prop} {u : Tr} {b off : Nat} (h : NodeAt w S u b off) (hS : ∀ y, S y → S' y ∧ w'.heap[y]? = w.heap[y]?) : NodeAt w' S' u b off := by
  obtain ⟨h0, h1, h2, h3, ka, kc, h4, h5, h6⟩ := h
  have hb := hS b h0
  exact ⟨hb.1, (World.cell?_of_block hb.2).trans h1, (World.cell?_of_block hb.2).trans h2, (World.cell?_of_block hb.2).trans h3, ka, kc, (World.cell?_of_block hb.2).trans h4, h5, h6.kept hS⟩
/-- Its kids. -/
theorem NodeAt.kid {w : World} {S : Nat → Prop} {u v : Tr} {b off j : Nat} (h : NodeAt w S u b off) (hv : kidF u.kids j = some v) : ∃ g go gc, w.cell? ⟨b, off + 3, none⟩ = some (.slice (some ⟨g, go, none⟩) (foLen u.kids) gc) ∧ NodeAt w S v g (go + j * 4) := by
  obtain ⟨h0, h1, h2, h3, ka, kc, h4, h5, h6⟩ := h
  obtain ⟨b0, o0, key, l, r, hd, g, go, na, nc, rfl, hg, c0, c1, c2, c3, hc, hl⟩ := h6.at j (kidF_some hv)
  have : v = ⟨key.1, key.2.1, key.2.2, l⟩ := by rw [kidF, hd] at hv; cases hv; rfl
  subst this
  exact ⟨g, go, kc, h4, hg, c0, c1, c2, na, nc, c3, hc, hl⟩
theorem atI_append : ∀ (l : List Int) (t : Tr) (r : List Int), atI t (l ++ r) = (atI t l).bind fun u => atI u r
  | [], t, r => rfl
  | i :: l, t, r => by
    simp only [List.cons_append, atI]
    split
    · rfl
    · cases kidF t.kids i.toNat with
      | none => rfl
      | some u => exact atI_append l u r
set_option maxRecDepth 100000 in
set_option maxHeartbeats 2000000 in
theorem follow_any {lf : FuncId} {KF : Nat → Prop} {J : List Int → Option Addr → World → Prop} (hF : Fol Try.prog lf KF J) (w : World) (hKF : ∀ y, KF y → y < w.heap.size + 2) (h0 : KF w.heap.size) (h1 : KF (w.heap.size + 1)) (l : List Int) (a pa : Option Addr) (n pc : Nat) (hn : n = l.length) (hnb : n ≤ 1000000) (hp : IntsL w (fun y => KF y ∧ y < w.heap.size) pa pc l) (hJ : ∀ W, Below w.heap.size w W → W.heap.size = w.heap.size + 2 → J [] a W) :
    Calls Try.prog 35 #[.pointer a, .slice pa n pc, .func (.func lf) #[] #[]] w fun e w' => ∃ a', e = .returned (.pointer a') ∧ J l a' w' ∧ w.heap.size + 2 ≤ w'.heap.size ∧ ∀ y, KF y → y < w.heap.size → w'.heap[y]? = w.heap[y]? := by
  have hmf : ∀ (fn : Fn) (first cap : Array Value) (w : World), (Instr.makeFunc fn first cap).run Try.prog w = .ok (.func fn first cap) w := fun _ _ _ _ => rfl
  obtain ⟨DV, hDV⟩ : ∃ DV, DV = Value.func (.func 44) #[] #[.pointer (some ⟨w.heap.size + 1, 0, none⟩), .pointer (some ⟨w.heap.size, 0, none⟩)] := ⟨_, rfl⟩
  obtain ⟨W, hW⟩ : ∃ W, W = (w.alloc (.cells #[.func (.func lf) #[] #[]] 64)).alloc (.cells #[DV] 73) := ⟨_, rfl⟩
  have hb : Below w.heap.size w W := by rw [hW]; exact two_boxes _ _ _
  have hs : W.heap.size = w.heap.size + 2 := by rw [hW]; simp
  have hB : FolB W lf KF (w.heap.size + 1) w.heap.size := ⟨by rw [hW, ← hDV]; exact heap_alloc2_new w _ _, by rw [hW]; exact heap_alloc2_old w _ _, h1, h0, fun y hy => by rw [hs]; exact hKF y hy⟩
  have hc := down_follow hF (w.heap.size + 1) w.heap.size (n + 1) W [] l a pa n pc (Nat.lt_succ_self _) hn hnb hB (hp.kept fun y hy => ⟨hy.1, hb.block y hy.2⟩) (hJ W hb hs)
  rw [List.nil_append] at hc
  have HC := Lib.hid (And.intro hc (And.intro hb (And.intro hs hW)))
  have HDV := Lib.hid hDV
  clear hc hb hs hW hB hJ hp hn hDV
  go_enter Try.func35, Try.ntmps35
  go_wp2_with fail
  have hWW := HC.out.2.2.2
  rw [HDV.out] at hWW
  rw [← hWW]
  clear hWW
  refine HC.out.1.mono ?_
  rintro e w' ⟨a', rfl, hj, hk⟩
  have HE : Hid (J l a' w' ∧ w.heap.size + 2 ≤ w'.heap.size ∧ ∀ y, KF y → y < w.heap.size → w'.heap[y]? = w.heap[y]?) := Lib.hid ⟨hj, by have := hk.1; have := HC.out.2.2.1; omega, fun y hy hyl => (hk.2 y hy).trans (HC.out.2.1.block y hyl)⟩
  clear hj hk
  go_wp2_with fail
  go_ret
  exact ⟨a', rfl, HE.out⟩
theorem atI_size : ∀ (l : List Int) (t u : Tr), atI t l = some u → foSize u.kids ≤ foSize t.kids
  | [], t, u, h => by cases h; exact Nat.le_refl _
  | i :: l, t, u, h => by
    simp only [atI] at h
    split at h
    · cases h
    · cases hk : kidF t.kids i.toNat with
      | none => rw [hk] at h; cases h
      | some v =>
        rw [hk] at h
        have h1 := atI_size l v u h
        have h2 := foDrop_size hk
        have h3 : ∀ (j : Nat) (f : Fo), foSize (foDrop j f) ≤ foSize f := by
          intro j
          induction j with
          | zero => intro f; rw [foDrop_zero]; exact Nat.le_refl _
          | succ j ih => intro f; cases f with
            | nil => exact Nat.le_refl _
            | node b o a l r => have := ih r; simp only [foDrop, foSize]; omega
        have := h3 i.toNat t.kids
        omega
set_option maxRecDepth 100000 in
theorem noop_any (w : World) (a : Option Addr) : Calls Try.prog 36 #[.pointer a] w fun e w' => e = .returned (.tuple #[]) ∧ w' = w := by
  go_enter Try.func36, Try.ntmps36
  go_wp2_with fail
  go_end0
  exact ⟨rfl, rfl⟩
def AtJ (W : World) (S : Nat → Prop) (t : Tr) (q : List Int) (a : Option Addr) (X : World) : Prop := Below W.heap.size W X ∧ ((a = none ∧ atI t q = none) ∨ ∃ u b off, a = some ⟨b, off, none⟩ ∧ atI t q = some u ∧ NodeAt W S u b off)
theorem at_fol (W : World) (S : Nat → Prop) (t : Tr) (hS : ∀ y, S y → y < W.heap.size) (hsz : foSize t.kids ≤ 400000) : Fol Try.prog 36 (fun y => y < W.heap.size + 2) (AtJ W S t) where
  enter := fun _ _ => rfl
  turn := fun h hb => ⟨h.1.trans (hb.mono h.1.size), h.2⟩
  none := fun {q} r {w} h => by
    refine ⟨h.1, Or.inl ⟨rfl, ?_⟩⟩
    rcases h.2 with ⟨_, h2⟩ | ⟨_, _, _, h2, _⟩
    · rw [atI_append, h2]; rfl
    · cases h2
  read := fun {q ad w} h => by
    obtain ⟨hb, h2⟩ := h
    rcases h2 with ⟨h2, _⟩ | ⟨u, b, off, h2, h3, h4⟩
    · cases h2
    cases h2
    have hus := atI_size q t u h3
    have hul := foLen_le u.kids
    have h5 := h4
    obtain ⟨hSb, _, _, _, ka, kc, c3, hkc, hk⟩ := h4
    have c3w := (hb.cell (p := ⟨b, off + 3, none⟩) (hS b hSb)).trans c3
    refine ⟨b, off, ka, foLen u.kids, kc, rfl, by omega, c3w, fun i hi => ⟨hb, Or.inl ⟨rfl, ?_⟩⟩, fun j hj => ?_⟩
    · rw [atI_append, h3]
      simp only [Option.bind_some, atI]
      rw [if_pos hi]
    · refine (noop_any w _).mono ?_
      rintro e w' ⟨rfl, rfl⟩
      obtain ⟨_, _, _, _, _, _, hkid, _⟩ := kidF_lt hj
      obtain ⟨g, go, gc, d3, d4⟩ := h5.kid hkid
      refine ⟨rfl, FolK.refl _ _, g, go, gc, (hb.cell (p := ⟨b, off + 3, none⟩) (hS b hSb)).trans d3, hb, Or.inr ⟨_, g, go + j * 4, rfl, ?_, d4⟩⟩
      rw [atI_append, h3]
      simp only [Option.bind_some, atI]
      rw [if_neg (by omega)]
      simp only [Int.toNat_natCast]
      rw [hkid]
def AtC (w : World) (S : Nat → Prop) (r : Option Tr) (e : Ending) (w' : World) : Prop := ∃ v, e = .returned (.tuple #[v, .bool r.isSome]) ∧ TrAt w' (fun x => CellsB w' x ∧ (S x ∨ w.heap.size ≤ x)) v (r.getD zeroT) ∧ Below w.heap.size w w'
set_option maxRecDepth 100000 in
set_option maxHeartbeats 4000000 in
theorem at_any (w : World) (S : Nat → Prop) (nv : Value) (t : Tr) (pa : Option Addr) (n pc : Nat) (l : List Int) (hS : ∀ x, S x → CellsB w x) (ht : TrAt w S nv t) (hsz : foSize t.kids ≤ 400000) (Sp : Nat → Prop) (hSp : ∀ x, Sp x → x < w.heap.size) (hp : IntsL w Sp pa pc l) (hn : n = l.length) (hnb : n ≤ 1000000) :
    Calls Try.prog 20 #[nv, .slice pa n pc] w (AtC w S (atI t l)) := by
  obtain ⟨ka, tc, rfl, hcap, hk⟩ := ht
  obtain ⟨nk, hnk⟩ : ∃ nk, nk = foLen t.kids := ⟨_, rfl⟩
  rw [← hnk]
  obtain ⟨W, hW⟩ : ∃ W, W = (w.alloc (.cells #[.int .i64 t.id, .int .i64 t.kind, .string t.text, .slice ka nk tc] 24)).alloc (.cells #[.int .i64 0, .int .i64 0, .string ⟨#[]⟩, .slice none 0 0] 24) := ⟨_, rfl⟩
  have hb : Below w.heap.size w W := by rw [hW]; exact two_boxes _ _ _
  have hs : W.heap.size = w.heap.size + 2 := by rw [hW]; simp
  have hbx : W.heap[w.heap.size]? = some (.cells #[.int .i64 t.id, .int .i64 t.kind, .string t.text, .slice ka nk tc] 24 (0, 0)) := by rw [hW]; exact heap_alloc2_old w _ _
  have hrs : W.heap[w.heap.size + 1]? = some (.cells #[.int .i64 0, .int .i64 0, .string ⟨#[]⟩, .slice none 0 0] 24 (0, 0)) := by rw [hW]; exact heap_alloc2_new w _ _
  have hSl : ∀ x, S x → x < w.heap.size := fun x hx => (hS x hx).lt
  have hSW : ∀ y, (S y ∨ y = w.heap.size) → y < W.heap.size := fun y hy => by
    rcases hy with hy | hy
    · have := hSl y hy; omega
    · omega
  have hroot : NodeAt W (fun y => S y ∨ y = w.heap.size) t w.heap.size 0 := ⟨Or.inr rfl, by rw [cell_of_row _ _ 0 _ _ _ hbx]; rfl, by rw [cell_of_row _ _ 1 _ _ _ hbx]; rfl, by rw [cell_of_row _ _ 2 _ _ _ hbx]; rfl, ka, tc, by rw [cell_of_row _ _ 3 _ _ _ hbx, ← hnk]; rfl, hcap, hk.kept fun x hx => ⟨Or.inl hx, hb.block x (hSl x hx)⟩⟩
  have hfol := follow_any (at_fol W (fun y => S y ∨ y = w.heap.size) t hSW hsz) W (fun _ h => h) (by omega) (by omega) l (some ⟨w.heap.size, 0, none⟩) pa n pc hn hnb (hp.kept fun y hy => ⟨by have := hSp y hy; omega, hb.block y (hSp y hy)⟩) (fun X hX _ => ⟨hX, Or.inr ⟨t, _, _, rfl, rfl, hroot⟩⟩)
  have hcl : ∀ y, (S y ∨ y = w.heap.size) → CellsB W y := fun y hy => by
    rcases hy with hy | rfl
    · obtain ⟨cs, ty, fr, hc⟩ := hS y hy
      exact ⟨cs, ty, fr, (hb.block y (lt_of_heap hc)).trans hc⟩
    · exact ⟨_, _, _, hbx⟩
  have HF := Lib.hid hfol
  have HW := Lib.hid (And.intro hb (And.intro hs (And.intro hrs (And.intro hcl (And.intro hSl hsz)))))
  have HWE := Lib.hid hW
  clear hfol hb hs hbx hrs hcl hSl hSW hroot hS hk hcap hp hn hSp hnk hW hsz
  -- the end
  have hend : ∀ (x : Tr) (kb : Option Addr) (kc m : Nat) (b : Bool) (wr : World), Below w.heap.size w wr → wr.heap[w.heap.size + 1]? = some (.cells #[.int .i64 0, .int .i64 0, .string ⟨#[]⟩, .slice none 0 0] 24 (0, 0)) → m = foLen x.kids → foLen x.kids ≤ kc → FoAt wr (fun y => CellsB wr y ∧ ((S y ∨ y = w.heap.size) ∨ w.heap.size + 2 ≤ y)) x.kids kb → (atI t l).isSome = b → (atI t l).getD zeroT = x → ∀ tmps : Array Value, tmps.getD 4 undef = .pointer (some ⟨w.heap.size + 1, 0, none⟩) → tmps.getD 5 undef = .bool b →
      bodyPost Try.prog Try.f20 (AtC w S (atI t l)) .ret { tmps, defers := [] } ((((wr.setCell ⟨w.heap.size + 1, 0, none⟩ (.int .i64 x.id)).setCell ⟨w.heap.size + 1, 1, none⟩ (.int .i64 x.kind)).setCell ⟨w.heap.size + 1, 2, none⟩ (.string x.text)).setCell ⟨w.heap.size + 1, 3, none⟩ (.slice kb m kc)) := by
    intro x kb kc m b wr hB hwr hm hc hf hs hx tmps t4 t5
    subst hm
    obtain ⟨V5, e5, r1, r2, r3, r4, r5, r6⟩ := four_set (u0 := .int .i64 x.id) (u1 := .int .i64 x.kind) (u2 := .string x.text) (u3 := .slice kb (foLen x.kids) kc) hwr
    rw [← e5]
    refine bodyPost_ret (results_cellT rfl tmps V5 (w.heap.size + 1) 24 _ _ _ (.bool b) t4 r1 Try.underlying24 rfl (by kernel_rfl) t5) rfl ?_
    refine ⟨_, by rw [hs], ?_, r3.trans hB.os, r4.trans hB.tape, r5.trans hB.output, by rw [r6]; exact hB.size, fun k hk => (r2 k (by omega)).trans (hB.block k hk)⟩
    rw [hx]
    refine ⟨kb, kc, rfl, hc, hf.kept fun y hy => ?_⟩
    have hne : y ≠ w.heap.size + 1 := fun e => by
      rcases hy.2 with (h | h) | h
      · have := HW.out.2.2.2.2.1 y h; omega
      · omega
      · omega
    obtain ⟨cs, ty, fr, hcc⟩ := hy.1
    refine ⟨⟨⟨cs, ty, fr, (r2 y hne).trans hcc⟩, ?_⟩, r2 y hne⟩
    rcases hy.2 with (h | h) | h
    · exact Or.inl h
    · exact Or.inr (by omega)
    · exact Or.inr (by omega)
  have HEND := Lib.hid hend
  clear hend
  go_enter Try.func20, Try.ntmps20
  go_wp2_with fail
  rw [← HWE.out]
  refine HF.out.mono ?_
  rintro e w3 ⟨a', rfl, ⟨hb3, hJ⟩, hs3, hk3⟩
  have hb9 : Below w.heap.size w w3 := HW.out.1.trans (hb3.mono HW.out.1.size)
  have hrs3 := (hk3 (w.heap.size + 1) (by have := HW.out.2.1; omega) (by have := HW.out.2.1; omega)).trans HW.out.2.2.1
  rcases hJ with ⟨rfl, hnone⟩ | ⟨u, b, off, rfl, hu, hnode⟩
  · obtain ⟨z0, z1, z2, z3⟩ := box4 hrs3
    have zf : ∀ j, w3.frozen? ⟨w.heap.size + 1, j, none⟩ = false := fun j => frozen_of_row _ _ j _ _ hrs3
    have HE := Lib.hid (And.intro hnone (And.intro hb9 hrs3))
    clear hb3 hs3 hk3 hb9 hrs3 hnone HF HWE
    go_wp2_with fail
    exact HEND.out zeroT none 0 0 false w3 HE.out.2.1 HE.out.2.2 rfl (Nat.le_refl _) True.intro (by rw [HE.out.1]; rfl) (by rw [HE.out.1]; rfl) _ rfl rfl
  · have hn3 := hnode.kept (w' := w3) (S' := fun y => CellsB w3 y ∧ (S y ∨ y = w.heap.size)) (fun y hy => by
      obtain ⟨cs, ty, fr, hc⟩ := HW.out.2.2.2.1 y hy
      have := (hb3.block y (lt_of_heap hc))
      exact ⟨⟨⟨cs, ty, fr, this.trans hc⟩, hy⟩, this⟩)
    obtain ⟨hbS, d0, d1, d2, kb, kc, d3, hkc, hkk⟩ := hn3
    have hcp := copy_any w3 (fun y => CellsB w3 y ∧ (S y ∨ y = w.heap.size)) (.agg #[.int .i64 u.id, .int .i64 u.kind, .string u.text, .slice kb (foLen u.kids) kc]) u (fun y hy => hy.1) ⟨kb, kc, rfl, hkc, hkk⟩ (by have := atI_size l t u hu; have := HW.out.2.2.2.2.2; omega)
    obtain ⟨m, hm⟩ : ∃ m, m = foLen u.kids := ⟨_, rfl⟩
    rw [← hm] at d3 hcp
    have HCP := Lib.hid hcp
    have HE := Lib.hid (And.intro hu (And.intro hb9 (And.intro hrs3 (And.intro hm hs3))))
    clear hb3 hs3 hk3 hb9 hrs3 hu HF HWE hnode hbS hkc hkk hcp hm
    go_wp2_with fail
    refine HCP.out.mono ?_
    rintro e w4 ⟨v, rfl, ⟨kb2, kc2, rfl, hkc2, hkk2⟩, hb4⟩
    have hrs4 := (hb4.block _ (lt_of_heap HE.out.2.2.1)).trans HE.out.2.2.1
    obtain ⟨z0, z1, z2, z3⟩ := box4 hrs4
    have zf : ∀ j, w4.frozen? ⟨w.heap.size + 1, j, none⟩ = false := fun j => frozen_of_row _ _ j _ _ hrs4
    have hkk3 := hkk2.kept (w' := w4) (S' := fun y => CellsB w4 y ∧ ((S y ∨ y = w.heap.size) ∨ w.heap.size + 2 ≤ y)) (fun y hy => ⟨⟨hy.1, hy.2.imp (fun h => h.2) (fun h => by have := HE.out.2.2.2.2; have := HW.out.2.1; omega)⟩, rfl⟩)
    obtain ⟨m2, hm2⟩ : ∃ m2, m2 = foLen u.kids := ⟨_, rfl⟩
    rw [← hm2]
    have H4 := Lib.hid (And.intro (HE.out.2.1.trans (hb4.mono HE.out.2.1.size)) (And.intro hrs4 (And.intro hm2 (And.intro hkc2 hkk3))))
    clear hb4 hrs4 hkk2 hkk3 hkc2 HCP d0 d1 d2 d3 hm2
    go_wp2_with fail
    exact HEND.out u kb2 kc2 m2 true w4 H4.out.1 H4.out.2.1 H4.out.2.2.1 H4.out.2.2.2.1 H4.out.2.2.2.2 (by rw [HE.out.1]; rfl) (by rw [HE.out.1]; rfl) _ rfl rfl
end Go.Proofs.Ytjppibomjnmjpaa
