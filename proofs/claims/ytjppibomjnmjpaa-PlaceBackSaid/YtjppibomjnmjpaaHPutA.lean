/-
  Put itself. No condition but that there are not too many nodes.
-/
import Derived.Test.YtjppibomjnmjpaaHPut
namespace Go.Proofs.Ytjppibomjnmjpaa
open Go.RowKit Go.Shelf
set_option linter.unusedVariables false
set_option linter.unusedSimpArgs false

/-- Four cells of a row that are stored. -/
theorem store4 {w : World} {b off : Nat} {c0 c1 c2 c3 u0 u1 u2 u3 : Value} (h0 : w.cell? ⟨b, off, none⟩ = some c0) (h1 : w.cell? ⟨b, off + 1, none⟩ = some c1) (h2 : w.cell? ⟨b, off + 2, none⟩ = some c2) (h3 : w.cell? ⟨b, off + 3, none⟩ = some c3) :
    ∃ V, V = ((((w.setCell ⟨b, off, none⟩ u0).setCell ⟨b, off + 1, none⟩ u1).setCell ⟨b, off + 2, none⟩ u2).setCell ⟨b, off + 3, none⟩ u3) ∧ V.cell? ⟨b, off, none⟩ = some u0 ∧ V.cell? ⟨b, off + 1, none⟩ = some u1 ∧ V.cell? ⟨b, off + 2, none⟩ = some u2 ∧ V.cell? ⟨b, off + 3, none⟩ = some u3 ∧ (∀ j, (j < off ∨ off + 4 ≤ j) → V.cell? ⟨b, j, none⟩ = w.cell? ⟨b, j, none⟩) ∧ (∀ y, y ≠ b → V.heap[y]? = w.heap[y]?) ∧ V.heap.size = w.heap.size ∧ V.os = w.os ∧ V.tape = w.tape ∧ V.output = w.output := by
  have oth : ∀ (X : World) (i j : Nat) (u : Value), i ≠ j → (X.setCell ⟨b, i, none⟩ u).cell? ⟨b, j, none⟩ = X.cell? ⟨b, j, none⟩ := fun X i j u h => World.cell?_setCell_other X ⟨b, i, none⟩ ⟨b, j, none⟩ u (by intro e; cases e; exact h rfl)
  have sm : ∀ (X : World) (i : Nat) (u c : Value), X.cell? ⟨b, i, none⟩ = some c → (X.setCell ⟨b, i, none⟩ u).cell? ⟨b, i, none⟩ = some u := fun X i u c h => World.cell?_setCell_same' X _ _ (by rw [h]; rfl)
  refine ⟨_, rfl, ?_, ?_, ?_, ?_, fun j hj => ?_, fun y hy => ?_, by simp [World.setCell], rfl, rfl, rfl⟩
  · rw [oth _ _ _ _ (by omega), oth _ _ _ _ (by omega), oth _ _ _ _ (by omega)]; exact sm _ _ _ _ h0
  · rw [oth _ _ _ _ (by omega), oth _ _ _ _ (by omega)]; exact sm _ _ _ _ (by rw [oth _ _ _ _ (by omega)]; exact h1)
  · rw [oth _ _ _ _ (by omega)]; exact sm _ _ _ _ (by rw [oth _ _ _ _ (by omega), oth _ _ _ _ (by omega)]; exact h2)
  · exact sm _ _ _ _ (by rw [oth _ _ _ _ (by omega), oth _ _ _ _ (by omega), oth _ _ _ _ (by omega)]; exact h3)
  · rw [oth _ _ _ _ (by omega), oth _ _ _ _ (by omega), oth _ _ _ _ (by omega), oth _ _ _ _ (by omega)]
  · rw [Below.heap_setCell _ _ _ _ hy, Below.heap_setCell _ _ _ _ hy, Below.heap_setCell _ _ _ _ hy, Below.heap_setCell _ _ _ _ hy]
/-- What stands behind Put: the tree, or none. -/
def putR (id : Int) (t x : Tr) : Tr × Int := match pathT id t with
  | none => (zeroT, 4)
  | some p => (putP t p x, 0)
def PutC (w : World) (r : Tr × Int) (e : Ending) (w' : World) : Prop := ∃ v, e = .returned (.tuple #[v, .int .i64 r.2]) ∧ TrAt w' (fun y => y < w'.heap.size) v r.1 ∧ Below w.heap.size w w'
set_option maxRecDepth 100000 in
set_option maxHeartbeats 8000000 in
theorem put_any (w : World) (S Sx : Nat → Prop) (nv xv : Value) (t x : Tr) (id : Int) (hS : ∀ y, S y → CellsB w y) (hSx : ∀ y, Sx y → CellsB w y) (ht : TrAt w S nv t) (hx : TrAt w Sx xv x) (hsz : foSize t.kids + foSize x.kids ≤ 400000) :
    Calls Try.prog 25 #[nv, .int .i64 id, xv] w (PutC w (putR id t x)) := by
  obtain ⟨ka, tc, rfl, hcap, hk⟩ := ht
  obtain ⟨xa, xc, rfl, hxc, hxk⟩ := hx
  obtain ⟨nk, hnk⟩ : ∃ nk, nk = foLen t.kids := ⟨_, rfl⟩
  obtain ⟨xn, hxn⟩ : ∃ xn, xn = foLen x.kids := ⟨_, rfl⟩
  rw [← hnk, ← hxn]
  obtain ⟨B, hB⟩ : ∃ B, B = allocs w [.cells #[.int .i64 t.id, .int .i64 t.kind, .string t.text, .slice ka nk tc] 24, .cells #[.int .i64 x.id, .int .i64 x.kind, .string x.text, .slice xa xn xc] 24, .cells #[.int .i64 0, .int .i64 0, .string ⟨#[]⟩, .slice none 0 0] 24] := ⟨_, rfl⟩
  have hb : Below w.heap.size w B := by rw [hB]; exact allocs_below _ _
  have hs : B.heap.size = w.heap.size + 3 := by rw [hB]; exact allocs_size _ _
  have ht0 : B.heap[w.heap.size]? = some (.cells #[.int .i64 t.id, .int .i64 t.kind, .string t.text, .slice ka nk tc] 24 (0, 0)) := by rw [hB]; exact allocs_at _ _ 0 _ rfl
  have hx0 : B.heap[w.heap.size + 1]? = some (.cells #[.int .i64 x.id, .int .i64 x.kind, .string x.text, .slice xa xn xc] 24 (0, 0)) := by rw [hB]; exact allocs_at _ _ 1 _ rfl
  have hr0 : B.heap[w.heap.size + 2]? = some (.cells #[.int .i64 0, .int .i64 0, .string ⟨#[]⟩, .slice none 0 0] 24 (0, 0)) := by rw [hB]; exact allocs_at _ _ 2 _ rfl
  have hSl : ∀ y, S y → y < w.heap.size := fun y hy => (hS y hy).lt
  have hSxl : ∀ y, Sx y → y < w.heap.size := fun y hy => (hSx y hy).lt
  have hpath := path_any B S (.agg #[.int .i64 t.id, .int .i64 t.kind, .string t.text, .slice ka (foLen t.kids) tc]) t id (fun y hy => by have := hSl y hy; omega) ⟨ka, tc, rfl, hcap, hk.below hb hSl⟩ (by omega)
  rw [← hnk] at hpath
  obtain ⟨pr, hpr⟩ : ∃ pr, pr = putR id t x := ⟨_, rfl⟩
  have HP := Lib.hid (And.intro hpath (And.intro hb (And.intro hs (And.intro ht0 (And.intro hx0 hr0)))))
  have HT := Lib.hid (And.intro hSl (And.intro hSxl (And.intro (hk) (And.intro hcap (And.intro hxk hxc)))))
  have HZ := Lib.hid (And.intro hsz (And.intro hnk hxn))
  have HBE := Lib.hid hB
  have HPR := Lib.hid hpr
  rw [← hpr]
  clear hpath hb hs ht0 hx0 hr0 hSl hSxl hk hcap hxk hxc hsz hnk hxn hB hpr hS hSx
  -- the end: what lies in the result's cell
  have hend : ∀ (y : Tr) (kb : Option Addr) (kc m : Nat) (wr : World), Below w.heap.size w wr → wr.heap[w.heap.size + 2]? = some (.cells #[.int .i64 0, .int .i64 0, .string ⟨#[]⟩, .slice none 0 0] 24 (0, 0)) → m = foLen y.kids → foLen y.kids ≤ kc → FoAt wr (fun z => z < wr.heap.size ∧ z ≠ w.heap.size + 2) y.kids kb → pr.1 = y → ∀ tmps : Array Value, tmps.getD 6 undef = .pointer (some ⟨w.heap.size + 2, 0, none⟩) → tmps.getD 7 undef = .int .i64 pr.2 →
      bodyPost Try.prog Try.f25 (PutC w pr) .ret { tmps, defers := [] } ((((wr.setCell ⟨w.heap.size + 2, 0, none⟩ (.int .i64 y.id)).setCell ⟨w.heap.size + 2, 1, none⟩ (.int .i64 y.kind)).setCell ⟨w.heap.size + 2, 2, none⟩ (.string y.text)).setCell ⟨w.heap.size + 2, 3, none⟩ (.slice kb m kc)) := by
    intro y kb kc m wr hB hwr hm hc hf hy tmps t4 t5
    subst hm
    obtain ⟨V5, e5, r1, r2, r3, r4, r5, r6⟩ := four_set (u0 := .int .i64 y.id) (u1 := .int .i64 y.kind) (u2 := .string y.text) (u3 := .slice kb (foLen y.kids) kc) hwr
    rw [← e5]
    refine bodyPost_ret (results_cellT rfl tmps V5 (w.heap.size + 2) 24 _ _ _ (.int .i64 pr.2) t4 r1 Try.underlying24 rfl (by kernel_rfl) t5) rfl ?_
    refine ⟨_, rfl, ?_, r3.trans hB.os, r4.trans hB.tape, r5.trans hB.output, by rw [r6]; exact hB.size, fun k hk => (r2 k (by omega)).trans (hB.block k hk)⟩
    rw [hy]
    exact ⟨kb, kc, rfl, hc, hf.kept fun z hz => ⟨by rw [r6]; exact hz.1, r2 z hz.2⟩⟩
  have HEND := Lib.hid hend
  clear hend
  go_enter Try.func25, Try.ntmps25
  go_wp2_with fail
  change Calls _ _ _ (allocs w [.cells #[.int .i64 t.id, .int .i64 t.kind, .string t.text, .slice ka nk tc] 24, .cells #[.int .i64 x.id, .int .i64 x.kind, .string x.text, .slice xa xn xc] 24, .cells #[.int .i64 0, .int .i64 0, .string ⟨#[]⟩, .slice none 0 0] 24]) _
  rw [← HBE.out]
  refine HP.out.1.mono ?_
  rintro e W ⟨pv, rfl, hown, hbW⟩
  have hbz : Below w.heap.size w W := HP.out.2.1.trans (hbW.mono HP.out.2.1.size)
  have hr3 := (hbW.block _ (lt_of_heap HP.out.2.2.2.2.2)).trans HP.out.2.2.2.2.2
  cases hpt : pathT id t with
  | none =>
    have hE : pr = (zeroT, 4) := by rw [HPR.out, putR, hpt]
    obtain ⟨z0, z1, z2, z3⟩ := box4 hr3
    have zf : ∀ j, W.frozen? ⟨w.heap.size + 2, j, none⟩ = false := fun j => frozen_of_row _ _ j _ _ hr3
    have HE := Lib.hid (And.intro hE (And.intro hbz hr3))
    clear hown hbW hbz hr3 hpt hE
    simp only [Option.isSome_none]
    go_wp2_with fail
    exact HEND.out zeroT none 0 0 W HE.out.2.1 HE.out.2.2 rfl (Nat.le_refl _) True.intro (by rw [HE.out.1]) _ rfl (by rw [HE.out.1]; rfl)
  | some p =>
    rw [hpt] at hown
    simp only [Option.getD_some] at hown
    obtain ⟨pa, pc, rfl⟩ := owns_slice hown
    obtain ⟨uu, huu, _⟩ := pathT_at id t p hpt
    have hE : pr = (putP t p x, 0) := by rw [HPR.out, putR, hpt]
    have hpl := path_le id t p hpt
    have hsB := HP.out.2.2.1
    have hWs := hbW.size
    have htW := (hbW.block _ (lt_of_heap HP.out.2.2.2.1)).trans HP.out.2.2.2.1
    have hxW := (hbW.block _ (lt_of_heap HP.out.2.2.2.2.1)).trans HP.out.2.2.2.2.1
    obtain ⟨hSl, hSxl, hk, hcap, hxk, hxc⟩ := HT.out
    have hkW := hk.below hbz hSl
    have hfol := follow_any (put_fol W.drew w.heap.size S t (fun y hy => ⟨by have := hSl y hy; show y < W.heap.size; omega, by have := hSl y hy; omega⟩) (by show _ < W.heap.size; omega) (by have := HZ.out.1; omega)) W.drew (fun y hy => hy.1) ⟨by omega, by show W.heap.size ≠ _; omega⟩ ⟨by omega, by show W.heap.size + 1 ≠ _; omega⟩ (natI p) (some ⟨w.heap.size, 0, none⟩) pa (natI p).length pc rfl (by rw [natI_length]; have := HZ.out.1; omega)
      ((intsL_own (l := natI p) hown).1.kept fun y hy => ⟨⟨⟨by show y < W.heap.size + 2; omega, by have := hy.1; omega⟩, hy.2⟩, rfl⟩)
      (fun X hX hXs => ⟨⟨hX.os, hX.tape, hX.output, by rw [hXs]; exact Nat.le_refl _, fun y hy _ => hX.block y hy⟩, Or.inr ⟨[], t, w.heap.size, 0, rfl, by
        have hbX : X.heap[w.heap.size]? = W.heap[w.heap.size]? := hX.block _ (show w.heap.size < W.heap.size by omega)
        have hc := hbX.trans htW
        refine ⟨rfl, rfl, by rw [cell_of_row _ _ 0 _ _ _ hc]; rfl, by rw [cell_of_row _ _ 1 _ _ _ hc]; rfl, by rw [cell_of_row _ _ 2 _ _ _ hc]; rfl, ⟨ka, tc, by rw [cell_of_row _ _ 3 _ _ _ hc, ← HZ.out.2.1]; rfl, hcap, FoAt.kept (w := W) (w' := X) (S' := S) (fun y hy => ⟨hy, hX.block y (show y < W.heap.size by have := hSl y hy; omega)⟩) hkW, fun e => by
          have := HZ.out
          rw [e] at hk
          cases hkk : t.kids with
          | nil => rfl
          | node _ _ _ _ _ => rw [hkk] at hk; obtain ⟨_, _, _, _, e2, _⟩ := hk; cases e2⟩, fun j => frozen_of_row _ _ j _ _ hc, Or.inl rfl, by rw [hXs]; show w.heap.size < W.heap.size + 2; omega, fun X' S' u' _ _ _ hn => hn⟩⟩⟩)
    obtain ⟨m, hm⟩ : ∃ m, m = (natI p).length := ⟨_, rfl⟩
    rw [← hm] at hfol ⊢
    have HFOL := Lib.hid hfol
    have HXB : Hid (W.drew.heap[w.heap.size + 1]? = some (.cells #[.int .i64 x.id, .int .i64 x.kind, .string x.text, .slice xa xn xc] 24 (0, 0))) := Lib.hid hxW
    have HPA := Lib.hid (And.intro hpt (show atT t p = some uu from huu))
    have HE := Lib.hid (And.intro hE (And.intro hbz (And.intro hr3 hm)))
    have HSZS := Lib.hid (show w.heap.size + 3 ≤ W.heap.size by omega)
    clear hown hbW hbz hr3 hpt hE huu hpl hsB hWs htW hxW hSl hSxl hk hcap hxk hxc hkW hfol hm
    simp only [Option.isSome_some]
    go_wp2_with fail
    refine wp_region_held_drew (S := fun X => X.heap[w.heap.size + 1]? = some (.cells #[.int .i64 x.id, .int .i64 x.kind, .string x.text, .slice xa xn xc] 24 (0, 0))) (by kernel_rfl) HXB.out (fun hHeld => ?_)
    refine wpAnyH_take (i := 0) (oi := _) (v := .slice pa m pc) rfl (by kernel_rfl) (by kernel_rfl) (by kernel_rfl) (fun _ _ _ h => h) (Or.inl ⟨by rfl, ?_⟩) (by assumption) ?_
    · clear hHeld; intro X hSw; clear hSw; go_simp
    simp only [Act.put, List.getElem_toArray, List.getElem_cons_zero, List.getElem_cons_succ, List.setIfInBounds_toArray, List.set_cons_zero, List.set_cons_succ]
    refine wpAnyH_take (i := 1) (oi := _) (v := .func (.func 38) #[] #[]) rfl (by kernel_rfl) (by kernel_rfl) (by kernel_rfl) (fun _ _ _ h => h) (Or.inl ⟨by rfl, ?_⟩) (by assumption) ?_
    · clear hHeld; intro X hSw; clear hSw; go_simp
    simp only [Act.put, List.getElem_toArray, List.getElem_cons_zero, List.getElem_cons_succ, List.setIfInBounds_toArray, List.set_cons_zero, List.set_cons_succ]
    refine wpAnyH_take (i := 3) (oi := _) (v := .agg #[.int .i64 x.id, .int .i64 x.kind, .string x.text, .slice xa xn xc]) rfl (by kernel_rfl) (by kernel_rfl) (by kernel_rfl) (fun _ _ _ h => h) (Or.inl ⟨by rfl, ?_⟩) (by assumption) ?_
    · clear hHeld; intro X hSw; obtain ⟨s0, s1, s2, s3⟩ := box4 hSw; clear hSw; go_simp
    simp only [Act.put, List.getElem_toArray, List.getElem_cons_zero, List.getElem_cons_succ, List.setIfInBounds_toArray, List.set_cons_zero, List.set_cons_succ]
    refine wpAnyH_ready (rs := [2]) (by kernel_rfl) (by simp) ?_
    refine AllReadyH.cons (o := _) rfl (fun K hK => ?_) AllReadyH.nil
    rw [if_pos (by rfl)]
    simp only [List.getElem_toArray, List.getElem_cons_zero, List.getElem_cons_succ]
    have HK := Lib.hid hK
    clear hK hHeld
    go_wp2_with (go_at_call 35; refine HFOL.out.mono ?_; rintro e w3 ⟨a', rfl, hj, hs3, hk3⟩; have HJ := Lib.hid (And.intro hj (And.intro hs3 hk3)); clear hj hs3 hk3)
    have hx3 : w3.heap[w.heap.size + 1]? = some (.cells #[.int .i64 x.id, .int .i64 x.kind, .string x.text, .slice xa xn xc] 24 (0, 0)) := (HJ.out.2.2 _ ⟨by have := lt_of_heap HXB.out; omega, by omega⟩ (lt_of_heap HXB.out)).trans HXB.out
    refine HK.out _ _ hx3 (fun hHeld => ?_)
    clear HK
    obtain ⟨hH, hJ2⟩ := HJ.out.1
    rcases hJ2 with ⟨_, hn⟩ | ⟨p', u, b, off, rfl, hN⟩
    · exfalso
      rw [atI_nat, HPA.out.2] at hn
      cases hn
    refine wpAnyH_take (i := 4) (oi := _) (v := .pointer (some ⟨b, off, none⟩)) rfl (by kernel_rfl) (by kernel_rfl) (by kernel_rfl) (fun _ _ _ h => h) (Or.inl ⟨by rfl, ?_⟩) (by assumption) ?_
    · clear hHeld; intro X hSw; clear hSw; go_simp
    simp only [Act.put, List.getElem_toArray, List.getElem_cons_zero, List.getElem_cons_succ, List.setIfInBounds_toArray, List.set_cons_zero, List.set_cons_succ]
    obtain ⟨ka3, kc3, z3, _, _, _⟩ := hN.c3
    have z0 := hN.c0
    have z1 := hN.c1
    have z2 := hN.c2
    have zf := hN.fz
    have HN := Lib.hid (And.intro hH hN)
    have HX3 := Lib.hid hx3
    clear hx3 hH hN
    refine wpAnyH_ready (rs := [5]) (by kernel_rfl) (by simp) ?_
    refine AllReadyH.cons (o := _) rfl (fun K hK => ?_) AllReadyH.nil
    rw [if_pos (by rfl)]
    simp only [List.getElem_toArray, List.getElem_cons_zero, List.getElem_cons_succ]
    have HK := Lib.hid hK
    clear hK hHeld
    obtain ⟨V, hV, r0, r1, r2, r3, rc, rb, rs, ro, rt, ru⟩ := store4 (u0 := .int .i64 x.id) (u1 := .int .i64 x.kind) (u2 := .string x.text) (u3 := .slice xa xn xc) z0 z1 z2 z3
    have HV := Lib.hid hV
    have HR := Lib.hid (And.intro r0 (And.intro r1 (And.intro r2 (And.intro r3 (And.intro rc (And.intro rb (And.intro rs (And.intro ro (And.intro rt ru)))))))))
    clear hV r0 r1 r2 r3 rc rb rs ro rt ru
    go_wp2_with fail
    rw [← HV.out]
    have hbne : b ≠ w.heap.size + 1 := by
      have := HSZS.out
      rcases HN.out.2.bl with h8 | h8
      · omega
      · simp only [World.size_drew] at h8; omega
    refine HK.out _ _ ((HR.out.2.2.2.2.2.1 _ (Ne.symm hbne)).trans HX3.out) (fun hHeld => ?_)
    clear HK hHeld
    refine wpAnyH_done (by kernel_rfl) ?_ _
    have hsl := HSZS.out
    obtain ⟨hSl, hSxl, hk, hcap, hxk, hxc⟩ := HT.out
    have hH := HN.out.1
    have hN := HN.out.2
    have hHs := hH.size
    simp only [World.size_drew] at hHs
    obtain ⟨q0, q1, q2, q3, qc, qb, qs, qo, qt, qu⟩ := HR.out
    have hkeep : ∀ y, y < w.heap.size → V.heap[y]? = w.heap[y]? := fun y hy => by
      have h1 := hH.kept y (show y < W.heap.size by omega) (by omega)
      rw [qb y (by rcases hN.bl with h8 | h8; omega; simp only [World.size_drew] at h8; omega), h1]
      exact HE.out.2.1.block y hy
    have hbV : Below w.heap.size w V := ⟨qo.trans (hH.os.trans HE.out.2.1.os), qt.trans (hH.tape.trans HE.out.2.1.tape), qu.trans (hH.output.trans HE.out.2.1.output), by rw [qs]; omega, hkeep⟩
    have hnode : NodeAt V (fun y => (S y ∨ Sx y) ∨ (y = w.heap.size ∨ W.heap.size + 2 ≤ y)) x b off := by
      refine ⟨by rcases hN.bl with h8 | h8; exact Or.inr (Or.inl h8); exact Or.inr (Or.inr h8), q0, q1, q2, xa, xc, by rw [q3, ← HZ.out.2.2], hxc, hxk.kept fun y hy => ⟨Or.inl (Or.inr hy), hkeep y (hSxl y hy)⟩⟩
    have hp' : p' = p := by
      have h9 := hN.path
      have inj : ∀ (a b : List Nat), natI a = natI b → a = b := by
        intro a
        induction a with
        | nil => intro b h; cases b with
          | nil => rfl
          | cons _ _ => simp [natI] at h
        | cons i a ih =>
          intro b h
          cases b with
          | nil => simp [natI] at h
          | cons j b =>
            simp only [natI, List.map_cons, List.cons.injEq] at h
            have := ih b h.2
            have := h.1
            rw [ih b h.2]; congr 1; omega
      exact (inj _ _ h9).symm
    subst hp'
    have hall := hN.ctx V (fun y => (S y ∨ Sx y) ∨ (y = w.heap.size ∨ W.heap.size + 2 ≤ y)) x ⟨fun y _ hne => qb y hne, qc⟩ (fun y hy => Or.inl (Or.inl hy)) (fun y hy => Or.inr hy) hnode
    obtain ⟨_, d0, d1, d2, kb, kc, d3, hkc, hkk⟩ := hall
    simp only [Nat.zero_add] at d1 d2 d3
    obtain ⟨y, hy⟩ : ∃ y, y = putP t p' x := ⟨_, rfl⟩
    rw [← hy] at d0 d1 d2 d3 hkc hkk
    have hys : foSize y.kids ≤ 400000 := by rw [hy]; have := putP_size p' t x; have := HZ.out.1; omega
    have hcells := foAt_cells hkk
    have hcp := copy_any V (fun z => CellsB V z ∧ ((S z ∨ Sx z) ∨ (z = w.heap.size ∨ W.heap.size + 2 ≤ z))) (.agg #[.int .i64 y.id, .int .i64 y.kind, .string y.text, .slice kb (foLen y.kids) kc]) y (fun z hz => hz.1) ⟨kb, kc, rfl, hkc, hcells⟩ (by omega)
    obtain ⟨yn, hyn⟩ : ∃ yn, yn = foLen y.kids := ⟨_, rfl⟩
    rw [← hyn] at d3 hcp
    have hrV : V.heap[w.heap.size + 2]? = some (.cells #[.int .i64 0, .int .i64 0, .string ⟨#[]⟩, .slice none 0 0] 24 (0, 0)) := by
      rw [qb _ (by rcases hN.bl with h8 | h8; omega; simp only [World.size_drew] at h8; omega), hH.kept _ (show _ < W.heap.size by omega) (by omega)]
      exact HE.out.2.2.1
    have HCP := Lib.hid hcp
    have HY := Lib.hid (And.intro hy (And.intro hbV (And.intro hrV (And.intro hyn (And.intro hSl hSxl)))))
    have hVs : W.heap.size + 2 ≤ V.heap.size := by rw [qs]; omega
    clear hk hcap hxk hxc hH hN hHs q0 q1 q2 q3 qc qb qs qo qt qu hkeep hbV hnode hkc hkk hcells hcp hyn hrV hy hys hSl hSxl z0 z1 z2 z3 zf hbne
    go_wp2_with fail
    refine HCP.out.mono ?_
    rintro e w4 ⟨v, rfl, ⟨kb2, kc2, rfl, hkc2, hkk2⟩, hb4⟩
    have hrs4 := (hb4.block _ (lt_of_heap HY.out.2.2.1)).trans HY.out.2.2.1
    obtain ⟨z0, z1, z2, z3⟩ := box4 hrs4
    have zf : ∀ j, w4.frozen? ⟨w.heap.size + 2, j, none⟩ = false := fun j => frozen_of_row _ _ j _ _ hrs4
    have hkk3 := hkk2.kept (w' := w4) (S' := fun z => z < w4.heap.size ∧ z ≠ w.heap.size + 2) (fun z hz => ⟨⟨hz.1.lt, by
      rcases hz.2 with ⟨_, (h | h) | (h | h)⟩ | h
      · have := HY.out.2.2.2.2.1 z h; omega
      · have := HY.out.2.2.2.2.2 z h; omega
      · omega
      · omega
      · omega⟩, rfl⟩)
    obtain ⟨m2, hm2⟩ : ∃ m2, m2 = foLen y.kids := ⟨_, rfl⟩
    rw [← hm2]
    have H4 := Lib.hid (And.intro (HY.out.2.1.trans (hb4.mono HY.out.2.1.size)) (And.intro hrs4 (And.intro hm2 (And.intro hkc2 hkk3))))
    clear hb4 hrs4 hkk2 hkk3 hkc2 HCP d0 d1 d2 d3 hm2
    go_wp2_with fail
    exact HEND.out y kb2 kc2 m2 w4 H4.out.1 H4.out.2.1 H4.out.2.2.1 H4.out.2.2.2.1 H4.out.2.2.2.2 (by rw [HE.out.1, HY.out.1]) _ rfl (by rw [HE.out.1]; rfl)
end Go.Proofs.Ytjppibomjnmjpaa
