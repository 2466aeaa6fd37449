/-
  A node is taken out from below its parent: what the change of 'take' does. No condition but that there are not too many nodes.
-/
import Derived.Test.YtfdcopegkhofnaaKAlong3Qb
import Derived.Test.YtfdcopegkhofnaaKDelQb
import Derived.Deep.Cut
namespace Go.Proofs.Ytfdcopegkhofnaa
open Go.RowKit Go.Shelf
set_option linter.unusedVariables false
set_option linter.unusedSimpArgs false

/-- What was taken lies in its variable. -/
def TakenR (w : World) (S : Nat → Prop) (kb : Nat) (v : Tr) (X : World) : Prop := ∃ ka kc, X.heap[kb]? = some (.cells #[.int .i64 v.id, .int .i64 v.kind, .string v.text, .slice ka (foLen v.kids) kc] 24 (0, 0)) ∧ foLen v.kids ≤ kc ∧ FoAt w S v.kids ka
set_option maxRecDepth 100000 in
set_option maxHeartbeats 4000000 in
theorem chg_take (w : World) (S : Nat → Prop) (hS : ∀ y, S y → y < w.heap.size) (u v : Tr) (qb lb kb pb po pc n m i : Nat) (hsz : foLen u.kids ≤ 1000000) (hv : kidF u.kids i = some v) (hSk : ∀ y, S y → y ≠ kb)
    (hq : w.heap[qb]? = some (.cells #[.slice (some ⟨pb, po, none⟩) n pc] 64 (0, 0))) (hl : w.heap[lb]? = some (.cells #[.int .i64 (m : Int)] 3 (0, 0))) (hk : w.heap[kb]? = some (.cells #[.int .i64 0, .int .i64 0, .string ⟨#[]⟩, .slice none 0 0] 24 (0, 0)))
    (hqk : qb ≠ kb) (hlk : lb ≠ kb) (hpk : pb ≠ kb) (hm : m < n) (hp : w.cell? ⟨pb, po + m, none⟩ = some (.int .i64 (i : Int))) :
    ∀ W, Below w.heap.size w W → W.heap.size = w.heap.size + 4 → Chg3 Try.prog W w.heap.size (fun y => y = kb) S S u 161 (.pointer (some ⟨qb, 0, none⟩)) (.pointer (some ⟨lb, 0, none⟩)) (.pointer (some ⟨kb, 0, none⟩)) ⟨u.id, u.kind, u.text, delF u.kids i⟩ (TakenR w S kb v) := fun W hb hs => by
  refine ⟨fun _ _ => rfl, fun X X1 b off sv xs hH k hlt hbl => ?_⟩
  have hiu := kidF_some hv
  obtain ⟨g, gc, rfl, _⟩ := World.ownsRow.form k.own (by omega)
  have hkw : kb < w.heap.size := lt_of_heap hk
  have hgb := owns_bounds k.own (g := g) rfl
  have hSz := hH.size
  have hold' : ∀ y, y < w.heap.size → X1.heap[y]? = w.heap[y]? := fun y hy => (k.h.kept y (by omega) (by omega) (fun h => h)).trans (hb.block y hy)
  have hold : ∀ y, y < w.heap.size → y ≠ kb → X1.heap[y]? = w.heap[y]? := fun y hy _ => hold' y hy
  have q0 : X1.cell? ⟨qb, 0, none⟩ = some (.slice (some ⟨pb, po, none⟩) n pc) := by rw [cell_of_row _ _ 0 _ _ _ ((hold qb (lt_of_heap hq) hqk).trans hq)]; rfl
  have l0 : X1.cell? ⟨lb, 0, none⟩ = some (.int .i64 (m : Int)) := by rw [cell_of_row _ _ 0 _ _ _ ((hold lb (lt_of_heap hl) hlk).trans hl)]; rfl
  have p0 : X1.cell? ⟨pb, po + m, none⟩ = some (.int .i64 (i : Int)) := (World.cell?_of_block (a := ⟨pb, po + m, none⟩) (hold pb (World.block_lt_of_cell? _ _ hp) hpk)).trans hp
  obtain ⟨na, nc, e0, e1, e2, e3, hnc, hnk⟩ := FoRow.nth u.kids i v xs k.row hv
  have c0 := owns_cell k.own rfl _ _ e0
  have c1 := owns_cell k.own rfl _ _ e1
  have c2 := owns_cell k.own rfl _ _ e2
  have c3 := owns_cell k.own rfl _ _ e3
  have d3 := k.c3
  have hkX : X1.heap[kb]? = some (.cells #[.int .i64 0, .int .i64 0, .string ⟨#[]⟩, .slice none 0 0] 24 (0, 0)) := (hold' kb hkw).trans hk
  obtain ⟨nk, hnkk⟩ : ∃ nk, nk = foLen u.kids := ⟨_, rfl⟩
  obtain ⟨vn, hvn⟩ : ∃ vn, vn = foLen v.kids := ⟨_, rfl⟩
  obtain ⟨z0, z1, z2, z3⟩ := box4 hkX
  have zf : ∀ j, X1.frozen? ⟨kb, j, none⟩ = false := fun j => frozen_of_row _ _ j _ _ hkX
  obtain ⟨V, hV, r1, r2, r3, r4, r5, r6⟩ := four_set (u0 := .int .i64 v.id) (u1 := .int .i64 v.kind) (u2 := .string v.text) (u3 := .slice na vn nc) hkX
  have hgk : g ≠ kb := by omega
  have hbk : b ≠ kb := by rcases hbl with h | h <;> omega
  have hbg : b ≠ g := by omega
  have howV := owns_kept (w' := V) k.own (fun g' cur hc hg' => r2 g' (by simp only [Value.ownBlock, Option.some.injEq] at hg'; omega))
  obtain ⟨j', hj'⟩ : ∃ j', j' = i + 1 := ⟨_, rfl⟩
  have hdel := del_any V X.heap.size g (foLen u.kids) gc i j' xs hiu hj' hsz k.one howV
  have hji : (i : Int) + 1 = (j' : Int) := by omega
  have g3 : V.cell? ⟨b, off + 3, none⟩ = some (.slice (some ⟨g, 0, none⟩) (foLen u.kids) gc) := (World.cell?_of_block (a := ⟨b, off + 3, none⟩) (r2 b hbk)).trans d3
  have gf : ∀ j, V.frozen? ⟨b, j, none⟩ = false := fun j => (World.frozen?_of_block (r2 b hbk)).trans (k.fz j)
  rw [← hnkk] at d3 hdel g3
  rw [← hvn] at c3
  have HD := Lib.hid hdel
  have HV := Lib.hid hV
  have HG := Lib.hid (And.intro g3 gf)
  have HK := Lib.hid (And.intro k (And.intro hH (And.intro hlt hbl)))
  have HR := Lib.hid (And.intro r1 (And.intro r2 (And.intro r3 (And.intro r4 (And.intro r5 r6)))))
  have HN := Lib.hid (And.intro hold (And.intro hnc (And.intro hnk (And.intro hnkk (And.intro hvn (And.intro hgk (And.intro hbk hbg)))))))
  have HS := Lib.hid (And.intro hS (And.intro hSk (And.intro hv (And.intro hsz (And.intro hkw (And.intro hgb.1 (And.intro hSz (And.intro hs hiu))))))))
  have HVS := Lib.hid (show b < V.heap.size by rw [r6]; have := k.size; omega)
  have hmi : (m : Int) < (n : Int) := by omega
  have hm0 : (0 : Int) ≤ (m : Int) := by omega
  have hii : (i : Int) < (nk : Int) := by omega
  have hi0 : (0 : Int) ≤ (i : Int) := by omega
  have hi6 : (i : Int) ≤ 1000000 := by omega
  clear hdel hV g3 gf k hH hlt hbl r1 r2 r3 r4 r5 r6 hold hnc hnk hnkk hvn hgk hbk hbg hS hSk hv hsz hkw hgb hSz hs hiu hq hl hk hqk hlk hpk hm hp hb howV hj' hkX e0 e1 e2 e3 hold'
  go_enter Try.func161, Try.ntmps161
  go_upto_region 2 with fail
  rw [← HV.out]
  have g3x := HG.out.1
  have gfx := HG.out.2
  clear z0 z1 z2 z3 zf q0 l0 p0 c0 c1 c2 c3 d3
  go_wp2_with fail
  clear g3x gfx
  refine HD.out.mono ?_
  rintro e Y ⟨rfl, hown, hgr⟩
  have hbY : Y.heap[b]? = V.heap[b]? := hgr.block b HVS.out (fun e => HN.out.2.2.2.2.2.2.2 (Option.some.inj e))
  have y3 : Y.cell? ⟨b, off + 3, none⟩ = some (.slice (some ⟨g, 0, none⟩) nk gc) := (World.cell?_of_block (a := ⟨b, off + 3, none⟩) hbY).trans HG.out.1
  have yf : ∀ j, Y.frozen? ⟨b, j, none⟩ = false := fun j => (World.frozen?_of_block hbY).trans (HG.out.2 j)
  have HY := Lib.hid (And.intro hown (And.intro hgr hbY))
  clear hown hgr hbY
  go_wp2_with fail
  go_end0
  obtain ⟨Z, hZ⟩ : ∃ Z, Z = Y.setCell ⟨b, off + 3, none⟩ (.slice (some ⟨g, 0, none⟩) (nk - 1) gc) := ⟨_, rfl⟩
  rw [← hZ]
  obtain ⟨k, hH, hlt, hbl⟩ := HK.out
  obtain ⟨r1, r2, r3, r4, r5, r6⟩ := HR.out
  obtain ⟨hold, hnc, hnk, hnkk, hvn, hgk, hbk, hbg⟩ := HN.out
  obtain ⟨hS, hSk, hv, hsz, hkw, hgX, hSz, hs, hiu⟩ := HS.out
  obtain ⟨hown, hgr, hbY⟩ := HY.out
  have hblk : ∀ y, y ≠ b → Z.heap[y]? = Y.heap[y]? := fun y hy => by rw [hZ]; exact Below.heap_setCell _ _ _ _ hy
  have hoth : ∀ y, y < V.heap.size → y ≠ b → y ≠ g → y ≠ kb → Z.heap[y]? = X1.heap[y]? := fun y hy h1 h2 h3 => by
    rw [hblk y h1, hgr.block y hy (fun e => h2 (Option.some.inj e))]; exact r2 y h3
  have hco : ∀ j, j ≠ off + 3 → Z.cell? ⟨b, j, none⟩ = X1.cell? ⟨b, j, none⟩ := fun j hj => by
    rw [hZ, World.cell?_setCell_other Y ⟨b, off + 3, none⟩ ⟨b, j, none⟩ _ (by intro e; cases e; exact hj rfl), World.cell?_of_block (a := ⟨b, j, none⟩) hbY]
    exact World.cell?_of_block (a := ⟨b, j, none⟩) (r2 b hbk)
  have hks := k.size
  have hlen := delF_len u.kids i hiu
  have hownZ := owns_kept (w' := Z) hown (fun g' cur hc hg' => hblk g' (by simp only [Value.ownBlock, Option.some.injEq] at hg'; omega))
  have hSZ : ∀ y, S y → Z.heap[y]? = X1.heap[y]? := fun y hy => by
    have := hS y hy
    exact hoth y (by rw [r6]; omega) (by rcases hbl with h | h <;> omega) (by omega) (hSk y hy)
  have hrow := (delF_row u.kids i xs k.row hiu).kept (w' := Z) (S' := S) fun y hy => ⟨hy, hSZ y hy⟩
  obtain ⟨hli, hlc⟩ := own_lies (S' := fun y => S y ∨ (y = w.heap.size ∨ W.heap.size ≤ y)) hownZ hrow (by omega) (fun y hy => Or.inl hy) (fun y hy => Or.inr (Or.inr (by omega)))
  refine ⟨rfl, ?_, ?_, ?_, ?_, fun y hy h1 h2 => hoth y (by rw [r6]; omega) h1 (by omega) h2, fun j hj => hco j (by omega), ⟨Or.inr hbl, ?_, ?_, ?_, some ⟨g, 0, none⟩, gc, ?_, ?_, hli⟩, na, nc, ?_, by rw [← hvn] at hnc ⊢; exact hnc, hnk.kept fun y hy => ⟨hy, (hold y (hS y hy) (hSk y hy)).symm⟩⟩
  · rw [hZ]; exact hgr.os.trans r3
  · rw [hZ]; exact hgr.tape.trans r4
  · rw [hZ]; exact hgr.output.trans r5
  · rw [hZ]; simp only [World.setCell, Array.size_setIfInBounds, Array.size_modify]; have := hgr.size; omega
  · rw [hco _ (by omega)]; exact k.c0
  · rw [hco _ (by omega)]; exact k.c1
  · rw [hco _ (by omega)]; exact k.c2
  · rw [show foLen (delF u.kids i) = nk - 1 by omega, hZ]; exact World.cell?_setCell_same' Y _ _ (by rw [World.cell?_of_block (a := ⟨b, off + 3, none⟩) hbY, HG.out.1]; rfl)
  · show foLen (delF u.kids i) ≤ gc; omega
  · rw [hblk kb (Ne.symm hbk), hgr.block kb (by rw [r6]; omega) (fun e => hgk (Option.some.inj e).symm), ← hvn]; exact r1
end Go.Proofs.Ytfdcopegkhofnaa
