/-
  .
-/
import Derived.Test.YtonapijgfalpaaaGreatKOpsQw
import Derived.Test.YtonapijgfalpaaaGreatKDelQw
import Derived.Deep.Cut
import Derived.Test.YtonapijgfalpaaaGreatJPgQw
set_option maxRecDepth 100000
set_option maxHeartbeats 40000000
set_option linter.unusedVariables false
set_option linter.unusedSimpArgs false
namespace Go.Proofs.YtonapijgfalpaaaGreat
open Go.RowKit Go.Shelf
def zdP (w : World) (S : Nat → Prop) (kb : Nat) (v : Tr) (X : World) : Prop := ∃ ka kc, X.heap[kb]? = some (.cells #[.int .i64 v.id, .int .i64 v.kind, .string v.text, .slice ka (zb v.kids) kc] 37 (0, 0)) ∧ zb v.kids ≤ kc ∧ zF w S v.kids ka
theorem zeO (w : World) (S : Nat → Prop) (hS : ∀ y, S y → y < w.heap.size) (u v : Tr) (qb lb kb pb po pc n m i : Nat) (hsz : zb u.kids ≤ 1000000) (hv : zH u.kids i = some v) (hSk : ∀ y, S y → y ≠ kb)
 (hq : w.heap[qb]? = some (.cells #[.slice (some ⟨pb, po, none⟩) n pc] 30 (0, 0))) (hl : w.heap[lb]? = some (.cells #[.int .i64 (m : Int)] 3 (0, 0))) (hk : w.heap[kb]? = some (.cells #[.int .i64 0, .int .i64 0, .string ⟨#[]⟩, .slice none 0 0] 37 (0, 0)))
 (hqk : qb ≠ kb) (hlk : lb ≠ kb) (hpk : pb ≠ kb) (hm : m < n) (hp : w.cell? ⟨pb, po + m, none⟩ = some (.int .i64 (i : Int))) :
 ∀ W, Below w.heap.size w W → W.heap.size = w.heap.size + 4 → zgo Tryz.prog W w.heap.size (fun y => y = kb) S S u 139 (.pointer (some ⟨qb, 0, none⟩)) (.pointer (some ⟨lb, 0, none⟩)) (.pointer (some ⟨kb, 0, none⟩)) ⟨u.id, u.kind, u.text, yG u.kids i⟩ (zdP w S kb v) := fun W hb hs => by
 refine ⟨fun _ _ => rfl, fun X X1 b off sv xs hH k hlt hbl => ?_⟩
 have hiu := qC hv
 obtain ⟨g, gc, rfl, _⟩ := World.ownsRow.form k.own (by omega)
 have hkw : kb < w.heap.size := lt_of_heap hk
 have hgb := zq k.own (g := g) rfl
 have hSz := hH.size
 have hold' : ∀ y, y < w.heap.size → X1.heap[y]? = w.heap[y]? := fun y hy => (k.h.kept y (by omega) (by omega) (fun h => h)).trans (hb.block y hy)
 have hold : ∀ y, y < w.heap.size → y ≠ kb → X1.heap[y]? = w.heap[y]? := fun y hy _ => hold' y hy
 have q0 : X1.cell? ⟨qb, 0, none⟩ = some (.slice (some ⟨pb, po, none⟩) n pc) := by rw [cell_of_row _ _ 0 _ _ _ ((hold qb (lt_of_heap hq) hqk).trans hq)]; rfl
 have l0 : X1.cell? ⟨lb, 0, none⟩ = some (.int .i64 (m : Int)) := by rw [cell_of_row _ _ 0 _ _ _ ((hold lb (lt_of_heap hl) hlk).trans hl)]; rfl
 have p0 : X1.cell? ⟨pb, po + m, none⟩ = some (.int .i64 (i : Int)) := (World.cell?_of_block (a := ⟨pb, po + m, none⟩) (hold pb (World.block_lt_of_cell? _ _ hp) hpk)).trans hp
 obtain ⟨na, nc, e0, e1, e2, e3, hnc, hnk⟩ := y9.nth u.kids i v xs k.row hv
 have c0 := zy k.own rfl _ _ e0
 have c1 := zy k.own rfl _ _ e1
 have c2 := zy k.own rfl _ _ e2
 have c3 := zy k.own rfl _ _ e3
 have d3 := k.c3
 have hkX : X1.heap[kb]? = some (.cells #[.int .i64 0, .int .i64 0, .string ⟨#[]⟩, .slice none 0 0] 37 (0, 0)) := (hold' kb hkw).trans hk
 obtain ⟨nk, hnkk⟩ : ∃ nk, nk = zb u.kids := ⟨_, rfl⟩
 obtain ⟨vn, hvn⟩ : ∃ vn, vn = zb v.kids := ⟨_, rfl⟩
 obtain ⟨z0, z1, z2, z3⟩ := zJ hkX
 have zf : ∀ j, X1.frozen? ⟨kb, j, none⟩ = false := fun j => frozen_of_row _ _ j _ _ hkX
 obtain ⟨V, hV, r1, r2, r3, r4, r5, r6⟩ := zu (u0 := .int .i64 v.id) (u1 := .int .i64 v.kind) (u2 := .string v.text) (u3 := .slice na vn nc) hkX
 have hgk : g ≠ kb := by omega
 have hbk : b ≠ kb := by rcases hbl with h | h <;> omega
 have hbg : b ≠ g := by omega
 have howV := zB (w' := V) k.own (fun g' cur hc hg' => r2 g' (by simp only [Value.ownBlock, Option.some.injEq] at hg'; omega))
 obtain ⟨j', hj'⟩ : ∃ j', j' = i + 1 := ⟨_, rfl⟩
 have hdel := ze8 V X.heap.size g (zb u.kids) gc i j' xs hiu hj' hsz k.one howV
 have hji : (i : Int) + 1 = (j' : Int) := by omega
 have g3 : V.cell? ⟨b, off + 3, none⟩ = some (.slice (some ⟨g, 0, none⟩) (zb u.kids) gc) := (World.cell?_of_block (a := ⟨b, off + 3, none⟩) (r2 b hbk)).trans d3
 have gf : ∀ j, V.frozen? ⟨b, j, none⟩ = false := fun j => (World.frozen?_of_block (r2 b hbk)).trans (k.fz j)
 rw [← hnkk] at d3 hdel g3
 rw [← hvn] at c3
 have HD := Lib.hid hdel
 have HV := Lib.hid hV
 have HG := Lib.hid (aN g3 gf)
 have HK := Lib.hid (aN k (aN hH (aN hlt hbl)))
 have HR := Lib.hid (aN r1 (aN r2 (aN r3 (aN r4 (aN r5 r6)))))
 have HN := Lib.hid (aN hold (aN hnc (aN hnk (aN hnkk (aN hvn (aN hgk (aN hbk hbg)))))))
 have HS := Lib.hid (aN hS (aN hSk (aN hv (aN hsz (aN hkw (aN hgb.1 (aN hSz (aN hs hiu))))))))
 have HVS := Lib.hid (show b < V.heap.size by rw [r6]; have := k.size; omega)
 have hmi : (m : Int) < (n : Int) := by omega
 have hm0 : (0 : Int) ≤ (m : Int) := by omega
 have hii : (i : Int) < (nk : Int) := by omega
 have hi0 : (0 : Int) ≤ (i : Int) := by omega
 have hi6 : (i : Int) ≤ 1000000 := by omega
 clear hdel hV g3 gf k hH hlt hbl r1 r2 r3 r4 r5 r6 hold hnc hnk hnkk hvn hgk hbk hbg hS hSk hv hsz hkw hgb hSz hs hiu hq hl hk hqk hlk hpk hm hp hb howV hj' hkX e0 e1 e2 e3 hold'
 go_enter Tryz.func139, Tryz.ntmps139
 go_upto_region 2 with fail
 rw [← HV.out]
 have g3x := HG.out.1
 have gfx := HG.out.2
 clear z0 z1 z2 z3 zf q0 l0 p0 c0 c1 c2 c3 d3
 go_wp2_with fail
 clear g3x gfx
 refine HD.out.mono ?_
 rintro e Y ⟨rfl, hown, hgr⟩
 have hbY : Y.heap[b]? = V.heap[b]? := hgr.block b HVS.out (fun e => HN.out.2.2.2.2.2.2.2 (Option.some.inj e))
 have y3 : Y.cell? ⟨b, off + 3, none⟩ = some (.slice (some ⟨g, 0, none⟩) nk gc) := (World.cell?_of_block (a := ⟨b, off + 3, none⟩) hbY).trans HG.out.1
 have yf : ∀ j, Y.frozen? ⟨b, j, none⟩ = false := fun j => (World.frozen?_of_block hbY).trans (HG.out.2 j)
 have HY := Lib.hid (aN hown (aN hgr hbY))
 clear hown hgr hbY
 go_wp2_with fail
 go_end0
 obtain ⟨Z, hZ⟩ : ∃ Z, Z = Y.setCell ⟨b, off + 3, none⟩ (.slice (some ⟨g, 0, none⟩) (nk - 1) gc) := ⟨_, rfl⟩
 rw [← hZ]
 obtain ⟨k, hH, hlt, hbl⟩ := HK.out
 obtain ⟨r1, r2, r3, r4, r5, r6⟩ := HR.out
 obtain ⟨hold, hnc, hnk, hnkk, hvn, hgk, hbk, hbg⟩ := HN.out
 obtain ⟨hS, hSk, hv, hsz, hkw, hgX, hSz, hs, hiu⟩ := HS.out
 obtain ⟨hown, hgr, hbY⟩ := HY.out
 have hblk : ∀ y, y ≠ b → Z.heap[y]? = Y.heap[y]? := fun y hy => by rw [hZ]; exact Below.heap_setCell _ _ _ _ hy
 have hoth : ∀ y, y < V.heap.size → y ≠ b → y ≠ g → y ≠ kb → Z.heap[y]? = X1.heap[y]? := fun y hy h1 h2 h3 => by
  rw [hblk y h1, hgr.block y hy (fun e => h2 (Option.some.inj e))]; exact r2 y h3
 have hco : ∀ j, j ≠ off + 3 → Z.cell? ⟨b, j, none⟩ = X1.cell? ⟨b, j, none⟩ := fun j hj => by
  rw [hZ, World.cell?_setCell_other Y ⟨b, off + 3, none⟩ ⟨b, j, none⟩ _ (by intro e; cases e; exact hj rfl), World.cell?_of_block (a := ⟨b, j, none⟩) hbY]
  exact World.cell?_of_block (a := ⟨b, j, none⟩) (r2 b hbk)
 have hks := k.size
 have hlen := za0 u.kids i hiu
 have hownZ := zB (w' := Z) hown (fun g' cur hc hg' => hblk g' (by simp only [Value.ownBlock, Option.some.injEq] at hg'; omega))
 have hSZ : ∀ y, S y → Z.heap[y]? = X1.heap[y]? := fun y hy => by
  have := hS y hy
  exact hoth y (by rw [r6]; omega) (by rcases hbl with h | h <;> omega) (by omega) (hSk y hy)
 have hrow := (zbc u.kids i xs k.row hiu).kept (w' := Z) (S' := S) fun y hy => ⟨hy, hSZ y hy⟩
 obtain ⟨hli, hlc⟩ := za5 (S' := fun y => S y ∨ (y = w.heap.size ∨ W.heap.size ≤ y)) hownZ hrow (by omega) (fun y hy => Or.inl hy) (fun y hy => Or.inr (Or.inr (by omega)))
 refine ⟨rfl, ?_, ?_, ?_, ?_, fun y hy h1 h2 => hoth y (by rw [r6]; omega) h1 (by omega) h2, fun j hj => hco j (by omega), ⟨Or.inr hbl, ?_, ?_, ?_, some ⟨g, 0, none⟩, gc, ?_, ?_, hli⟩, na, nc, ?_, by rw [← hvn] at hnc ⊢; exact hnc, hnk.kept fun y hy => ⟨hy, (hold y (hS y hy) (hSk y hy)).symm⟩⟩
 · rw [hZ]; exact hgr.os.trans r3
 · rw [hZ]; exact hgr.tape.trans r4
 · rw [hZ]; exact hgr.output.trans r5
 · rw [hZ]; simp only [World.setCell, Array.size_setIfInBounds, Array.size_modify]; have := hgr.size; omega
 · rw [hco _ (by omega)]; exact k.c0
 · rw [hco _ (by omega)]; exact k.c1
 · rw [hco _ (by omega)]; exact k.c2
 · rw [show zb (yG u.kids i) = nk - 1 by omega, hZ]; exact World.cell?_setCell_same' Y _ _ (by rw [World.cell?_of_block (a := ⟨b, off + 3, none⟩) hbY, HG.out.1]; rfl)
 · show zb (yG u.kids i) ≤ gc; omega
 · rw [hblk kb (Ne.symm hbk), hgr.block kb (by rw [r6]; omega) (fun e => hgk (Option.some.inj e).symm), ← hvn]; exact r1
end Go.Proofs.YtonapijgfalpaaaGreat
namespace Go.Proofs.YtonapijgfalpaaaGreat
open Go.RowKit Go.Shelf
theorem zah {P : Program} {fn : Func} {p q : Tmp} {ty : TypeId} (h : fn.results = #[.cell p ty, .cell q ty]) (tmps : Array Value) (w : World) (g g' : Nat) (t t' : TypeId) (cs cs' : Array Value) (fr fr' : Nat × Nat) (d : TypeDesc)
 (hp : tmps.getD p undef = .pointer (some ⟨g, 0, none⟩)) (hg : w.heap[g]? = some (.cells cs t fr)) (hp2 : tmps.getD q undef = .pointer (some ⟨g', 0, none⟩)) (hg2 : w.heap[g']? = some (.cells cs' t' fr')) (hu : P.underlying ty = some d) (hd : (match d with | .struct _ | .array _ _ => true | _ => false) = true) (hi : (P.info? ty).map (·.size) = some cs.size) (hi2 : cs'.size = cs.size) :
 (results fn tmps).run P w = .ok (.tuple #[.agg cs, .agg cs']) w := by
 have hp' : tmps[p]?.getD undef = .pointer (some ⟨g, 0, none⟩) := by simpa using hp
 have hq' : tmps[q]?.getD undef = .pointer (some ⟨g', 0, none⟩) := by simpa using hp2
 have r1 := run_loadVar_row w g t ty cs fr d hg hu hd hi
 have r2 := run_loadVar_row w g' t' ty cs' fr' d hg2 hu hd (by rw [hi2]; exact hi)
 simp [results, h, Array.mapM_eq_mapM_toList, hp', hq', asAddr, r1, r2]
def zg0 (w : World) (T : Nat → Prop) (r : Tr × Tr) (e : Ending) (w' : World) : Prop := ∃ v1 v2, e = .returned (.tuple #[v1, v2]) ∧ zL w' (fun y => T y ∨ w.heap.size ≤ y ∧ y < w'.heap.size) v1 r.1 ∧ zL w' (fun y => T y ∨ w.heap.size ≤ y ∧ y < w'.heap.size) v2 r.2 ∧ Below w.heap.size w w'
theorem zdQ (w : World) (S : Nat → Prop) (nv : Value) (t u v : Tr) (q : List Nat) (i : Nat) (pa : Option Addr) (n pc : Nat) (hS : ∀ y, S y → y < w.heap.size) (ht : zL w S nv t) (hsz : ze t.kids ≤ 300000) (hu : atT t q = some u) (hv : zH u.kids i = some v) (hn : n = q.length + 1) (hp : qX w (fun y => y < w.heap.size) pa pc (yE (q ++ [i]))) :
 Calls Tryz.prog 125 #[nv, .slice pa n pc] w (zg0 w S (yj t q ⟨u.id, u.kind, u.text, yG u.kids i⟩, v)) := by
 obtain ⟨ka, tc, rfl, hcap, hk⟩ := ht
 obtain ⟨nk, hnk⟩ : ∃ nk, nk = zb t.kids := ⟨_, rfl⟩
 rw [← hnk]
 obtain ⟨pb, po, rfl, hpb, hpc⟩ := hp.2.resolve_left (fun e => by simp [yE] at e)
 obtain ⟨m, hm⟩ : ∃ m, m = q.length := ⟨_, rfl⟩
 rw [← hm] at hn
 subst hn
 have hus := Zr q t u hu
 have hul := zX u.kids
 obtain ⟨B, hB⟩ : ∃ B, B = zo w [.cells #[.int .i64 t.id, .int .i64 t.kind, .string t.text, .slice ka nk tc] 37, .cells #[.slice (some ⟨pb, po, none⟩) (m + 1) pc] 30, .cells #[.int .i64 0, .int .i64 0, .string ⟨#[]⟩, .slice none 0 0] 37, .cells #[.int .i64 0, .int .i64 0, .string ⟨#[]⟩, .slice none 0 0] 37, .cells #[.int .i64 (m : Int)] 3] := ⟨_, rfl⟩
 have hb : Below w.heap.size w B := by rw [hB]; exact zk _ _
 have hs : B.heap.size = w.heap.size + 5 := by rw [hB]; exact zx _ _
 have ht0 : B.heap[w.heap.size]? = some (.cells #[.int .i64 t.id, .int .i64 t.kind, .string t.text, .slice ka nk tc] 37 (0, 0)) := by rw [hB]; exact zg _ _ 0 _ rfl
 have hp0 : B.heap[w.heap.size + 1]? = some (.cells #[.slice (some ⟨pb, po, none⟩) (m + 1) pc] 30 (0, 0)) := by rw [hB]; exact zg _ _ 1 _ rfl
 have hr0 : B.heap[w.heap.size + 1 + 1]? = some (.cells #[.int .i64 0, .int .i64 0, .string ⟨#[]⟩, .slice none 0 0] 37 (0, 0)) := by rw [hB]; exact zg _ _ 2 _ rfl
 have hk0 : B.heap[w.heap.size + 1 + 1 + 1]? = some (.cells #[.int .i64 0, .int .i64 0, .string ⟨#[]⟩, .slice none 0 0] 37 (0, 0)) := by rw [hB]; exact zg _ _ 3 _ rfl
 have hl0 : B.heap[w.heap.size + 1 + 1 + 1 + 1]? = some (.cells #[.int .i64 (m : Int)] 3 (0, 0)) := by rw [hB]; exact zg _ _ 4 _ rfl
 have hlp := hp.1
 rw [zN, List.length_append, ← hm, List.length_cons, List.length_nil] at hlp
 have htk : ∀ k x, (yE q)[k]? = some x → (yE (q ++ [i]))[k]? = some x := fun k x h => by
  rw [yE, List.map_append, List.getElem?_append_left (by have := (List.getElem?_eq_some_iff.1 h).1; simpa [yE] using this)]; exact h
 have hpI : qX B.drew (fun y => y < B.drew.heap.size ∧ ¬ y = w.heap.size + 1 + 1 + 1) (some ⟨pb, po, none⟩) pc (yE q) := ⟨by rw [zN, ← hm]; omega, Or.inr ⟨pb, po, rfl, ⟨by show pb < B.heap.size; omega, by omega⟩, fun k x h => (World.cell?_of_block (a := ⟨pb, po + k, none⟩) (show B.drew.heap[pb]? = w.heap[pb]? from hb.block pb hpb)).trans (hpc k x (htk k x h))⟩⟩
 have hpm : B.drew.cell? ⟨pb, po + m, none⟩ = some (.int .i64 (i : Int)) := (World.cell?_of_block (a := ⟨pb, po + m, none⟩) (show B.drew.heap[pb]? = w.heap[pb]? from hb.block pb hpb)).trans (hpc m (i : Int) (by rw [yE, List.map_append, List.getElem?_append_right (by rw [List.length_map]; omega), List.length_map, hm]; simp))
 have hal := zf5 B.drew (E := fun y => y = w.heap.size + 1 + 1 + 1) (S := S) (SS := S) (RR := zdP B.drew S (w.heap.size + 1 + 1 + 1) v) (.agg #[.int .i64 t.id, .int .i64 t.kind, .string t.text, .slice ka (zb t.kids) tc]) t u ⟨u.id, u.kind, u.text, yG u.kids i⟩ q (some ⟨pb, po, none⟩) m pc (fun y hy => ⟨by have := hS y hy; show y < B.heap.size; omega, by have := hS y hy; omega⟩) (fun y hy => ⟨by have := hS y hy; show y < B.heap.size; omega, by have := hS y hy; omega⟩) (fun y hy => hy) (fun y hy => by show y < B.heap.size; omega) hm (by omega)
  ⟨ka, tc, rfl, hcap, hk.kept (w' := B.drew) (S' := S) fun y hy => ⟨hy, hb.block y (hS y hy)⟩⟩ (by omega) hpI hu
  (zeO B.drew S (fun y hy => by have := hS y hy; show y < B.heap.size; omega) u v (w.heap.size + 1) (w.heap.size + 1 + 1 + 1 + 1) (w.heap.size + 1 + 1 + 1) pb po pc (m + 1) m i (by omega) hv (fun y hy => by have := hS y hy; omega) hp0 hl0 hk0 (by omega) (by omega) (by omega) (by omega) hpm) (fun X X' h hx => by
    obtain ⟨va, vc, h1, h2, h3⟩ := hx
    exact ⟨va, vc, (h _ rfl).trans h1, h2, h3⟩)
 rw [← hnk] at hal
 obtain ⟨y, hy⟩ : ∃ y, y = yj t q ⟨u.id, u.kind, u.text, yG u.kids i⟩ := ⟨_, rfl⟩
 rw [← hy] at hal ⊢
 obtain ⟨SW, hSW⟩ : ∃ SW : World → Prop, SW = fun Y => Y.heap[w.heap.size]? = some (.cells #[.int .i64 t.id, .int .i64 t.kind, .string t.text, .slice ka nk tc] 37 (0, 0)) ∧ Y.heap[w.heap.size + 1]? = some (.cells #[.slice (some ⟨pb, po, none⟩) (m + 1) pc] 30 (0, 0)) ∧ Y.heap[w.heap.size + 1 + 1 + 1 + 1]? = some (.cells #[.int .i64 (m : Int)] 3 (0, 0)) := ⟨_, rfl⟩
 have HSW := hH (fun (Y : World) (h : SW Y) => (show (Y.cell? ⟨w.heap.size, 0, none⟩ = some (.int .i64 t.id) ∧ Y.cell? ⟨w.heap.size, 1, none⟩ = some (.int .i64 t.kind) ∧ Y.cell? ⟨w.heap.size, 2, none⟩ = some (.string t.text) ∧ Y.cell? ⟨w.heap.size, 3, none⟩ = some (.slice ka nk tc)) ∧ Y.cell? ⟨w.heap.size + 1, 0, none⟩ = some (.slice (some ⟨pb, po, none⟩) (m + 1) pc) ∧ Y.cell? ⟨w.heap.size + 1 + 1 + 1 + 1, 0, none⟩ = some (.int .i64 (m : Int)) by
  rw [hSW] at h; exact ⟨zJ h.1, by rw [cell_of_row _ _ 0 _ _ _ h.2.1]; rfl, by rw [cell_of_row _ _ 0 _ _ _ h.2.2]; rfl⟩))
 have HMK := hH (fun (Y : World) (h : Y.heap[w.heap.size]? = B.heap[w.heap.size]? ∧ Y.heap[w.heap.size + 1]? = B.heap[w.heap.size + 1]? ∧ Y.heap[w.heap.size + 1 + 1 + 1 + 1]? = B.heap[w.heap.size + 1 + 1 + 1 + 1]?) => (show SW Y by rw [hSW]; exact ⟨h.1.trans ht0, h.2.1.trans hp0, h.2.2.trans hl0⟩))
 have HAL := hH hal
 have HB := hH (aN hb (aN hs (aN hr0 (aN hk0 hS))))
 have HBE := hH hB
 have hmi : (m : Int) ≤ (m : Int) + 1 := by omega
 have hm6 : (m : Int) ≤ 1000000 := by omega
 have hpc1 : m ≤ pc := by omega
 have hmf : ∀ (fn : Fn) (first cap : Array Value) (w : World), (Instr.makeFunc fn first cap).run Tryz.prog w = .ok (.func fn first cap) w := fun _ _ _ _ => rfl
 have hS0 : SW B.drew := HMK.out _ ⟨rfl, rfl, rfl⟩
 clear hal hb hs ht0 hp0 hr0 hk0 hl0 hlp htk hpI hpm hSW hS hk hcap hsz hu hv hp hpb hpc hus hul hB hnk hy hm
 go_enter Tryz.func125, Tryz.ntmps125
 go_upto_region 2 with fail
 change Code.wp _ _ _ _ (zo w [.cells #[.int .i64 t.id, .int .i64 t.kind, .string t.text, .slice ka nk tc] 37, .cells #[.slice (some ⟨pb, po, none⟩) (m + 1) pc] 30, .cells #[.int .i64 0, .int .i64 0, .string ⟨#[]⟩, .slice none 0 0] 37, .cells #[.int .i64 0, .int .i64 0, .string ⟨#[]⟩, .slice none 0 0] 37, .cells #[.int .i64 (m : Int)] 3])
 rw [← HBE.out]
 refine wp_region_held_drew (S := SW) (by kernel_rfl) hS0 (fun hHeld => ?_)
 clear hS0
 refine tkH (i := 0) (.agg #[.int .i64 t.id, .int .i64 t.kind, .string t.text, .slice ka nk tc]) rfl (Or.inl ⟨by rfl, ?_⟩) (by assumption) ?_
 · clear hHeld; intro X hSw; obtain ⟨⟨s0, s1, s2, s3⟩, s4, s5⟩ := HSW.out X hSw; clear hSw; go_simp
 simp only [Act.put, pg]
 refine tkH (i := 1) (.slice (some ⟨pb, po, none⟩) (m + 1) pc) rfl (Or.inl ⟨by rfl, ?_⟩) (by assumption) ?_
 · clear hHeld; intro X hSw; obtain ⟨⟨s0, s1, s2, s3⟩, s4, s5⟩ := HSW.out X hSw; clear hSw; go_simp
 simp only [Act.put, pg]
 refine tkH (i := 2) (.int .i64 (m : Int)) rfl (Or.inl ⟨by rfl, ?_⟩) (by assumption) ?_
 · clear hHeld; intro X hSw; obtain ⟨⟨s0, s1, s2, s3⟩, s4, s5⟩ := HSW.out X hSw; clear hSw; go_simp
 simp only [Act.put, pg]
 refine tkH (i := 3) (.slice (some ⟨pb, po, none⟩) m pc) rfl (Or.inl ⟨by rfl, fun X _ => by clear hHeld; go_simp⟩) (by assumption) ?_
 simp only [Act.put, pg]
 refine tkH (i := 4) (.func (.func 139) #[] #[.pointer (some ⟨w.heap.size + 1, 0, none⟩), .pointer (some ⟨w.heap.size + 1 + 1 + 1 + 1, 0, none⟩), .pointer (some ⟨w.heap.size + 1 + 1 + 1, 0, none⟩)]) rfl (Or.inl ⟨by rfl, fun X _ => by clear hHeld; go_simp⟩) (by assumption) ?_
 simp only [Act.put, pg]
 refine wpAnyH_ready (rs := [5]) (by kernel_rfl) (by simp) ?_
 refine AllReadyH.cons (o := _) rfl (fun K hK => ?_) (AllReadyH.nil)
 rw [if_pos (by rfl)]
 simp only [pg3]
 have HK := hH hK
 clear hK hHeld
 go_wp2_with (go_at_call 127; refine HAL.out.mono ?_; rintro e X ⟨yv, rfl, ⟨kb, kc, rfl, hkc, hkk⟩, k1, k2, k3, k4, k5, k6⟩; have HX := hH (aN hkc (aN hkk (aN k1 (aN k2 (aN k3 (aN k4 (aN k5 k6))))))); clear hkc hkk k1 k2 k3 k4 k5 k6)
 obtain ⟨hkc, hkk, k1, k2, k3, k4, k5, va, vc, k6, hvc, hvk⟩ := HX.out
 have k4' : B.heap.size ≤ X.heap.size := k4
 have k5' : ∀ z, z < B.heap.size → z ≠ w.heap.size + 1 + 1 + 1 → X.heap[z]? = B.heap[z]? := k5
 obtain ⟨hb, hs, hr0, hk0, hS⟩ := HB.out
 obtain ⟨yn, hyn⟩ : ∃ yn, yn = zb y.kids := ⟨_, rfl⟩
 obtain ⟨vn, hvn⟩ : ∃ vn, vn = zb v.kids := ⟨_, rfl⟩
 rw [← hyn]
 rw [← hvn] at k6 hvc
 have hrX := (k5' (w.heap.size + 1 + 1) (by omega) (by omega)).trans hr0
 have hbX : Below w.heap.size w X := ⟨k1.trans hb.os, k2.trans hb.tape, k3.trans hb.output, Nat.le_trans hb.size k4', fun z hz => (k5' z (by omega) (by omega)).trans (hb.block z hz)⟩
 obtain ⟨V, hV, r1, r2, r3, r4, r5, r6⟩ := zu (V := X) (R1 := w.heap.size + 1 + 1) (u0 := .int .i64 y.id) (u1 := .int .i64 y.kind) (u2 := .string y.text) (u3 := .slice kb yn kc) hrX
 have hSX : SW X := HMK.out _ ⟨k5' _ (by omega) (by omega), k5' _ (by omega) (by omega), k5' _ (by omega) (by omega)⟩
 have hSV : SW V := HMK.out _ ⟨(r2 _ (by omega)).trans (k5' _ (by omega) (by omega)), (r2 _ (by omega)).trans (k5' _ (by omega) (by omega)), (r2 _ (by omega)).trans (k5' _ (by omega) (by omega))⟩
 have hkV := (r2 (w.heap.size + 1 + 1 + 1) (by omega)).trans k6
 have hVX : ∀ z, z < X.heap.size → z ≠ w.heap.size + 1 + 1 → V.heap[z]? = X.heap[z]? := fun z _ hz => r2 z hz
 have hbV : Below w.heap.size w V := ⟨r3.trans hbX.os, r4.trans hbX.tape, r5.trans hbX.output, by rw [r6]; exact hbX.size, fun k hk => (r2 k (by omega)).trans (hbX.block k hk)⟩
 have hyV : zF V (fun z => S z ∨ w.heap.size ≤ z ∧ z < V.heap.size) y.kids kb := hkk.kept fun z hz => by
  have hz2 : z < X.heap.size ∧ z ≠ w.heap.size + 1 + 1 := by
   rcases hz with hz | hz
   · have := hS z hz; omega
   · have h1 : B.heap.size ≤ z := hz.1
     omega
  exact ⟨hz.elim Or.inl (fun hz => Or.inr ⟨by have h1 : B.heap.size ≤ z := hz.1; omega, by omega⟩), r2 z hz2.2⟩
 have hvV : zF V (fun z => S z ∨ w.heap.size ≤ z ∧ z < V.heap.size) v.kids va := hvk.kept fun z hz => by
  have h1 := hS z hz
  exact ⟨Or.inl hz, (r2 z (by omega)).trans (k5' z (by omega) (by omega))⟩
 obtain ⟨z0, z1, z2, z3⟩ := zJ hrX
 have zf : ∀ j, X.frozen? ⟨w.heap.size + 1 + 1, j, none⟩ = false := fun j => frozen_of_row _ _ j _ _ hrX
 have HV := hH (aN hV hSV)
 have HF := hH (aN hbV (aN r1 (aN hkV (aN hyV (aN hvV (aN hkc (aN hvc (aN hyn hvn))))))))
 clear hkc hkk k1 k2 k3 k4 k5 k6 hvc hvk k4' k5' hb hs hr0 hk0 hS hyn hvn hbX hV r1 r2 r3 r4 r5 r6 hSV hkV hVX hbV hyV hvV hrX HX
 refine HK.out _ _ hSX (fun hHeld => ?_)
 clear HK hSX
 refine wpAnyH_ready (rs := [6]) (by kernel_rfl) (by simp) ?_
 refine AllReadyH.cons (o := _) rfl (fun K hK => ?_) (AllReadyH.nil)
 rw [if_pos (by rfl)]
 simp only [pg3]
 have HK := hH hK
 clear hK hHeld
 go_wp2_with fail
 rw [← HV.out.1]
 refine HK.out _ _ HV.out.2 (fun hHeld => ?_)
 clear HK hHeld z0 z1 z2 z3 zf
 refine wpAnyH_done (by kernel_rfl) ?_ _
 go_upto_region 3 with fail
 obtain ⟨hbV, r1, hkV, hyV, hvV, hkc, hvc, hyn, hvn⟩ := HF.out
 obtain ⟨S2, hS2⟩ : ∃ S2 : World → Prop, S2 = fun Y => Y.heap[w.heap.size + 1 + 1]? = some (.cells #[.int .i64 y.id, .int .i64 y.kind, .string y.text, .slice kb yn kc] 37 (0, 0)) ∧ Y.heap[w.heap.size + 1 + 1 + 1]? = some (.cells #[.int .i64 v.id, .int .i64 v.kind, .string v.text, .slice va vn vc] 37 (0, 0)) := ⟨_, rfl⟩
 have HS2 := hH (fun (Y : World) (h : S2 Y) => (show (Y.cell? ⟨w.heap.size + 1 + 1, 0, none⟩ = some (.int .i64 y.id) ∧ Y.cell? ⟨w.heap.size + 1 + 1, 1, none⟩ = some (.int .i64 y.kind) ∧ Y.cell? ⟨w.heap.size + 1 + 1, 2, none⟩ = some (.string y.text) ∧ Y.cell? ⟨w.heap.size + 1 + 1, 3, none⟩ = some (.slice kb yn kc)) ∧ (Y.cell? ⟨w.heap.size + 1 + 1 + 1, 0, none⟩ = some (.int .i64 v.id) ∧ Y.cell? ⟨w.heap.size + 1 + 1 + 1, 1, none⟩ = some (.int .i64 v.kind) ∧ Y.cell? ⟨w.heap.size + 1 + 1 + 1, 2, none⟩ = some (.string v.text) ∧ Y.cell? ⟨w.heap.size + 1 + 1 + 1, 3, none⟩ = some (.slice va vn vc)) by
  rw [hS2] at h; exact ⟨zJ h.1, zJ h.2⟩))
 have HT := hH (fun (Y : World) (h1 : Y.heap[w.heap.size + 1 + 1]? = some (.cells #[.int .i64 y.id, .int .i64 y.kind, .string y.text, .slice kb yn kc] 37 (0, 0))) (h2 : Y.heap[w.heap.size + 1 + 1 + 1]? = some (.cells #[.int .i64 v.id, .int .i64 v.kind, .string v.text, .slice va vn vc] 37 (0, 0))) => (show S2 Y.drew by rw [hS2]; exact ⟨h1, h2⟩))
 have hT0 : S2 V.drew := HT.out V r1 hkV
 clear hbV r1 hkV hyV hvV hkc hvc hyn hvn hS2
 refine wp_region_held_drew (S := S2) (by kernel_rfl) hT0 (fun hHeld => ?_)
 refine tkH (i := 0) (.agg #[.int .i64 y.id, .int .i64 y.kind, .string y.text, .slice kb yn kc]) rfl (Or.inl ⟨by rfl, ?_⟩) (by assumption) ?_
 · clear hHeld; intro X hSw; obtain ⟨⟨s0, s1, s2, s3⟩, ⟨u0, u1, u2, u3⟩⟩ := HS2.out X hSw; clear hSw; go_simp
 simp only [Act.put, pg]
 refine tkH (i := 1) (.agg #[.int .i64 v.id, .int .i64 v.kind, .string v.text, .slice va vn vc]) rfl (Or.inl ⟨by rfl, ?_⟩) (by assumption) ?_
 · clear hHeld; intro X hSw; obtain ⟨⟨s0, s1, s2, s3⟩, ⟨u0, u1, u2, u3⟩⟩ := HS2.out X hSw; clear hSw; go_simp
 simp only [Act.put, pg]
 refine wpAnyH_ready (rs := [2]) (by kernel_rfl) (by simp) ?_
 refine AllReadyH.cons (o := _) rfl (fun K hK => ?_) (AllReadyH.nil)
 rw [if_pos (by rfl)]
 simp only [pg3]
 have HK := hH hK
 clear hK hHeld
 obtain ⟨q0, q1, q2, q3, hq⟩ : ∃ q0 q1 q2 q3, V.heap[w.heap.size + 1 + 1]? = some (.cells #[q0, q1, q2, q3] 37 (0, 0)) := ⟨_, _, _, _, HF.out.2.1⟩
 obtain ⟨V2, hV2, a1, a2, a3, a4, a5, a6⟩ := zu (V := V) (R1 := w.heap.size + 1 + 1) (u0 := .int .i64 y.id) (u1 := .int .i64 y.kind) (u2 := .string y.text) (u3 := .slice kb yn kc) hq
 obtain ⟨s0, s1, s2, s3⟩ := zJ hq
 have sf : ∀ j, V.frozen? ⟨w.heap.size + 1 + 1, j, none⟩ = false := fun j => frozen_of_row _ _ j _ _ hq
 have hk2 := (a2 (w.heap.size + 1 + 1 + 1) (by omega)).trans HF.out.2.2.1
 have hT2 : S2 V2.drew := HT.out _ a1 hk2
 have HV2 := hH hV2
 have HA := hH (aN a1 (aN a2 (aN a3 (aN a4 (aN a5 (aN a6 hk2))))))
 clear hV2 a1 a2 a3 a4 a5 a6 hk2 hq
 go_wp2_with fail
 rw [← HV2.out]
 refine HK.out _ _ hT2 (fun hHeld => ?_)
 clear HK hT0 hT2 s0 s1 s2 s3 sf
 refine wpAnyH_ready (rs := [3]) (by kernel_rfl) (by simp) ?_
 refine AllReadyH.cons (o := _) rfl (fun K hK => ?_) (AllReadyH.nil)
 rw [if_pos (by rfl)]
 simp only [pg3]
 have HK := hH hK
 clear hK hHeld
 obtain ⟨q0, q1, q2, q3, hq⟩ : ∃ q0 q1 q2 q3, V2.heap[w.heap.size + 1 + 1 + 1]? = some (.cells #[q0, q1, q2, q3] 37 (0, 0)) := ⟨_, _, _, _, HA.out.2.2.2.2.2.2⟩
 obtain ⟨V3, hV3, b1, b2, b3, b4, b5, b6⟩ := zu (V := V2) (R1 := w.heap.size + 1 + 1 + 1) (u0 := .int .i64 v.id) (u1 := .int .i64 v.kind) (u2 := .string v.text) (u3 := .slice va vn vc) hq
 obtain ⟨s0, s1, s2, s3⟩ := zJ hq
 have sf : ∀ j, V2.frozen? ⟨w.heap.size + 1 + 1 + 1, j, none⟩ = false := fun j => frozen_of_row _ _ j _ _ hq
 have hk3 := (b2 (w.heap.size + 1 + 1) (by omega)).trans HA.out.1
 have hT3 : S2 V3.drew := HT.out _ hk3 b1
 have HV3 := hH hV3
 have HB3 := hH (aN b1 (aN b2 (aN b3 (aN b4 (aN b5 (aN b6 hk3))))))
 clear hV3 b1 b2 b3 b4 b5 b6 hk3 hq
 go_wp2_with fail
 rw [← HV3.out]
 refine HK.out _ _ hT3 (fun hHeld => ?_)
 clear HK hHeld s0 s1 s2 s3 sf hT3
 refine wpAnyH_done (by kernel_rfl) ?_ _
 obtain ⟨hbV, r1, hkV, hyV, hvV, hkc, hvc, hyn, hvn⟩ := HF.out
 obtain ⟨a1, a2, a3, a4, a5, a6, hk2⟩ := HA.out
 obtain ⟨b1, b2, b3, b4, b5, b6, hk3⟩ := HB3.out
 have hall : ∀ z, V3.heap[z]? = V.heap[z]? := fun z => by
  by_cases h3 : z = w.heap.size + 1 + 1 + 1
  · subst h3; rw [b1, hkV]
  · rw [b2 z h3]
    by_cases h2 : z = w.heap.size + 1 + 1
    · subst h2; rw [a1, r1]
    · exact a2 z h2
 have hsz3 : V3.heap.size = V.heap.size := b6.trans a6
 go_wp2_with fail
 refine bodyPost_ret (zah rfl _ V3.drew (w.heap.size + 1 + 1) (w.heap.size + 1 + 1 + 1) 37 37 _ _ _ _ _ rfl hk3 rfl b1 Tryz.underlying37 rfl (by kernel_rfl) rfl) rfl ?_
 exact ⟨_, _, rfl, ⟨kb, kc, by rw [hyn], hkc, hyV.kept (w' := V3.drew) (S' := fun z => S z ∨ w.heap.size ≤ z ∧ z < V3.drew.heap.size) fun z hz => ⟨hz.imp id (fun h => ⟨h.1, by show z < V3.heap.size; omega⟩), hall z⟩⟩, ⟨va, vc, by rw [hvn], by rw [← hvn]; exact hvc, hvV.kept (w' := V3.drew) (S' := fun z => S z ∨ w.heap.size ≤ z ∧ z < V3.drew.heap.size) fun z hz => ⟨hz.imp id (fun h => ⟨h.1, by show z < V3.heap.size; omega⟩), hall z⟩⟩, ⟨b3.trans (a3.trans hbV.os), b4.trans (a4.trans hbV.tape), b5.trans (a5.trans hbV.output), by show _ ≤ V3.heap.size; rw [hsz3]; exact hbV.size, fun z hz => (hall z).trans (hbV.block z hz)⟩⟩
end Go.Proofs.YtonapijgfalpaaaGreat
