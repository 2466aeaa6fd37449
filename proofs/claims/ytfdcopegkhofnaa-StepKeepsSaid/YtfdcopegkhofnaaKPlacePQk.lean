/-
  Above: the ids above a node, as a function over which one ranges. No condition but that there are not too many nodes.
  Trees whose ids are all different, plainly: what stands at the path of an id, and what is above what. No condition.
  A node that was moved, and is moved back, leaves the tree as it was, plainly: how often an id stands in a tree. No condition.
  The law's own ids: a map from ids to nodes. No condition but that there are not too many nodes, and the bounds of ids that a host keeps.
  Where a node stands that place tells, plainly: in a tree whose ids are all different it is where the path goes. No condition.
-/
import Derived.Deep.RegionHeld
import Derived.Test.YtfdcopegkhofnaaKBaseQk
import Derived.Test.YtfdcopegkhofnaaGGreatQk
import Derived.Test.YtfdcopegkhofnaaVWalkQk
import Derived.Test.YtfdcopegkhofnaaEHeldQk
import Derived.Test.YtfdcopegkhofnaaKMoveQk
import Derived.Carry
import Derived.Test.YtfdcopegkhofnaaKMapPQk
import Derived.Deep.Cut
namespace Go.Proofs.Ytfdcopegkhofnaa
open Go.RowKit Go.Shelf
set_option linter.unusedVariables false
set_option linter.unusedSimpArgs false

structure AbI (w0 W : World) (zs : Array Value) (ids : List Int) (n k : Nat) (wr : World) : Prop where
  row : wr.ownsRow w0.heap.size 3 1 (.slice (some ⟨W.heap.size, 0, none⟩) n n) n ((ids.map intV).take k ++ zs.toList.drop k)
  below : Below W.heap.size W wr
  cell : wr.heap[W.heap.size + 1]? = some (.cells #[.slice (some ⟨W.heap.size, 0, none⟩) n n] 64 (0, 0))
theorem AbI.step {w0 W wr w6 : World} {zs : Array Value} {ids : List Int} {n k : Nat} {x : Int} {o : Obj} (h : AbI w0 W zs ids n k wr) (hz : zs.size = n) (hn : n = ids.length) (hx : ids[k]? = some x) (hb : Below (wr.alloc o).heap.size (wr.alloc o) w6) : AbI w0 W zs ids n (k + 1) (w6.setCell ⟨W.heap.size, k, none⟩ (.int .i64 x)) := by
  have hk := (List.getElem?_eq_some_iff.1 hx).1
  have hsz : wr.heap.size ≤ w6.heap.size := by have := hb.size; rw [World.size_alloc] at this; omega
  have hblk : ∀ y, y < wr.heap.size → w6.heap[y]? = wr.heap[y]? := fun y hy => (hb.block y (by rw [World.size_alloc]; omega)).trans (Below.heap_alloc wr o y hy)
  have h1 := owns_kept h.row (w' := w6) (fun g cur hc _ => hblk g (lt_of_some hc))
  have h2 := (World.ownsRow.stored h1 k (.int .i64 x)).1
  have e : ((ids.map intV).take k ++ zs.toList.drop k).set k (.int .i64 x) = (ids.map intV).take (k + 1) ++ zs.toList.drop (k + 1) := by
    have hl : ((ids.map intV).take k).length = k := by rw [List.length_take, List.length_map]; omega
    rw [List.set_append_right _ _ (by omega), hl, Nat.sub_self]
    have hz2 : k < zs.toList.length := by rw [Array.length_toList]; omega
    rw [← List.getElem_cons_drop hz2, List.set_cons_zero, List.take_add_one]
    have h3 : (ids.map intV)[k]? = some (.int .i64 x) := by rw [List.getElem?_map, hx]; rfl
    rw [h3]; simp
  rw [e] at h2
  have hb6 : Below W.heap.size W w6 := h.below.trans ⟨hb.os, hb.tape, hb.output, hsz, fun y hy => hblk y (by have := h.below.size; omega)⟩
  refine ⟨h2, hb6.setCell (p := ⟨W.heap.size, k, none⟩) (Nat.le_refl _) _, ?_⟩
  rw [Below.heap_setCell _ _ _ _ (by simp), hblk _ (lt_of_heap h.cell)]
  exact h.cell
end Go.Proofs.Ytfdcopegkhofnaa
namespace Go.Proofs.Ytfdcopegkhofnaa
open Go.RowKit Go.Shelf
set_option linter.unusedVariables false
set_option linter.unusedSimpArgs false

def idsF (f : Fo) : List Int := (spF 1 f).map fun x => x.2.1.1
theorem idsF_d : ∀ (d : Nat) (f : Fo), (spF d f).map (fun x => x.2.1.1) = idsF f
  | _, .nil => rfl
  | d, .node _ _ k l r => by
    simp only [idsF, spF, List.map_cons, List.map_append]
    rw [idsF_d (d + 1) l, idsF_d d r, idsF_d (1 + 1) l]
    rfl
theorem idsF_node (b o : Nat) (k : Int × Int × ByteArray) (l r : Fo) : idsF (.node b o k l r) = k.1 :: (idsF l ++ idsF r) := by
  simp only [idsF, spF, List.map_cons, List.map_append]
  rw [idsF_d (1 + 1) l]
  rfl
def DistT (t : Tr) : Prop := (idsF (rootF t)).Nodup
end Go.Proofs.Ytfdcopegkhofnaa
namespace Go.Proofs.Ytfdcopegkhofnaa
open Go.RowKit Go.Shelf
set_option linter.unusedVariables false
set_option linter.unusedSimpArgs false

/-- How often an id stands there. -/
def cntF (a : Int) : Fo → Nat
  | .nil => 0
  | .node _ _ k l r => (if k.1 = a then 1 else 0) + cntF a l + cntF a r
def cntT (a : Int) (t : Tr) : Nat := (if t.id = a then 1 else 0) + cntF a t.kids
theorem cnt_mem (a : Int) : ∀ f : Fo, a ∈ idsF f ↔ 0 < cntF a f
  | .nil => by simp [idsF, spF, cntF]
  | .node b o k l r => by
    rw [idsF_node, List.mem_cons, List.mem_append, cnt_mem a l, cnt_mem a r, cntF]
    by_cases h : k.1 = a
    · rw [if_pos h]; constructor
      · intro _; omega
      · intro _; exact Or.inl h.symm
    · rw [if_neg h]; constructor
      · rintro (h1 | h1 | h1)
        · exact absurd h1.symm h
        · omega
        · omega
      · intro h1; right; omega
theorem cnt_nodup : ∀ f : Fo, (idsF f).Nodup ↔ ∀ a, cntF a f ≤ 1
  | .nil => by simp [idsF, spF, cntF]
  | .node b o k l r => by
    rw [idsF_node, List.nodup_cons, List.nodup_append, List.mem_append, cnt_mem, cnt_mem, cnt_nodup l, cnt_nodup r]
    constructor
    · rintro ⟨h1, h2, h3, h4⟩ a
      rw [cntF]
      have h2a := h2 a
      have h3a := h3 a
      by_cases h : k.1 = a
      · subst h; rw [if_pos rfl]; omega
      · rw [if_neg h]
        by_cases hl : 0 < cntF a l
        · by_cases hr : 0 < cntF a r
          · exact absurd rfl (h4 a ((cnt_mem a l).2 hl) a ((cnt_mem a r).2 hr))
          · omega
        · omega
    · intro h
      refine ⟨?_, fun a => ?_, fun a => ?_, ?_⟩
      · have := h k.1
        rw [cntF, if_pos rfl] at this
        omega
      · have := h a; rw [cntF] at this; omega
      · have := h a; rw [cntF] at this; omega
      · rintro a ha b hb rfl
        have := h a
        rw [cntF] at this
        have h1 := (cnt_mem a l).1 ha
        have h2 := (cnt_mem a r).1 hb
        omega
theorem cnt_root (a : Int) (t : Tr) : cntF a (rootF t) = cntT a t := by simp [rootF, cntF, cntT]
theorem dist_cnt (t : Tr) : DistT t ↔ ∀ a, cntT a t ≤ 1 := by
  rw [DistT, cnt_nodup]
  exact ⟨fun h a => by rw [← cnt_root]; exact h a, fun h a => by rw [cnt_root]; exact h a⟩
/-- A move that goes, taken apart. -/
theorem moveK_ok {id par at_ : Int} {t x : Tr} (h : moveK id par at_ t = (x, 0)) :
    ∃ p i u v q z, pathT id t = some (p ++ [i]) ∧ atT t p = some u ∧ kidF u.kids i = some v ∧ v.id = id ∧ pathT par (putP t p ⟨u.id, u.kind, u.text, delF u.kids i⟩) = some q ∧ atT (putP t p ⟨u.id, u.kind, u.text, delF u.kids i⟩) q = some z ∧ 0 ≤ at_ ∧ at_ ≤ (foLen z.kids : Int) ∧ x = putP (putP t p ⟨u.id, u.kind, u.text, delF u.kids i⟩) q ⟨z.id, z.kind, z.text, insF z.kids at_.toNat v⟩ := by
  cases hi : pathT id t with
  | none => rw [moveK_id hi] at h; cases h
  | some p0 =>
    cases hp : pathT par t with
    | none => rw [moveK_par hp] at h; cases h
    | some q0 =>
      by_cases h0 : p0 = []
      · subst h0; rw [moveK_root hi hp] at h; cases h
      · cases hw : withinT id par t with
        | true => rw [moveK_loop hi hp h0 hw] at h; cases h
        | false =>
          obtain ⟨p, i, rfl⟩ : ∃ p i, p0 = p ++ [i] := ⟨p0.dropLast, p0.getLast h0, (List.dropLast_concat_getLast h0).symm⟩
          obtain ⟨v, hv0, hvid⟩ := pathT_at id t _ hi
          obtain ⟨u, hu, hv⟩ := atT_last p i t v hv0
          rw [moveK_go hi hp hw hu hv] at h
          cases hq : pathT par (putP t p ⟨u.id, u.kind, u.text, delF u.kids i⟩) with
          | none => rw [putK_none hq] at h; cases h
          | some q =>
            obtain ⟨z, hz, _⟩ := pathT_at _ _ _ hq
            rw [putK_some hq hz] at h
            by_cases hc : 0 ≤ at_ ∧ at_ ≤ (foLen z.kids : Int)
            · rw [if_pos hc] at h
              exact ⟨p, i, u, v, q, z, rfl, hu, hv, hvid, hq, hz, hc.1, hc.2, (Prod.mk.inj h).1.symm⟩
            · rw [if_neg hc] at h
              exact absurd (Prod.mk.inj h).2 (by decide)
end Go.Proofs.Ytfdcopegkhofnaa
namespace Go.Proofs.Ytfdcopegkhofnaa
open Go.RowKit Go.Shelf
open Go.Maps
set_option linter.unusedVariables false
set_option linter.unusedSimpArgs false

/-- What ids answers. -/
def IdsN (w : World) (S : Nat → Prop) (T : List Sp) (e : Ending) (w' : World) : Prop := ∃ b L, e = .returned (.map (some b)) ∧ w.heap.size ≤ b ∧ OwnsN w' b T.length L ∧ ValsOf w' S T L ∧ Below w.heap.size w w'
def IdsI (w w2 : World) (S : Nat → Prop) (T : List Sp) (mb k : Nat) (X : World) : Prop := ∃ L, OwnsN X mb k L ∧ ValsOf X S (T.take k) L ∧ Below w.heap.size w X ∧ (∀ y, y < w2.heap.size → y ≠ mb → X.heap[y]? = w2.heap[y]?) ∧ w2.heap.size ≤ X.heap.size
set_option maxRecDepth 100000 in
set_option maxHeartbeats 4000000 in
theorem idsN_any (w : World) (S : Nat → Prop) (nv : Value) (t : Tr) (hlen : foLen t.kids ≤ 9223372036854775807) (hfit : foFit t.kids) (hS : ∀ y, S y → y < w.heap.size) (ht : TrAt w S nv t) (hok : ∀ x ∈ spF 1 (rootF t), (Lit.int .i64 x.2.1.1).wf = true) :
    Calls Try.prog 71 #[nv] w (IdsN w S ((spF 1 (rootF t)).take 1000)) := by
  obtain ⟨ka, cap, rfl, hcp, hk⟩ := ht
  obtain ⟨len, hl⟩ : ∃ len, len = foLen t.kids := ⟨_, rfl⟩
  obtain ⟨B, hB⟩ : ∃ B, B = (w.alloc (.cells #[.int .i64 t.id, .int .i64 t.kind, .string t.text, .slice ka len cap] 24)).alloc (.map #[] 0) := ⟨_, rfl⟩
  have hb : Below w.heap.size w B := by rw [hB, hl]; exact ((Below.refl _ _).alloc (Nat.le_refl _) _).alloc (by simp) _
  have hc := walkM_any 1000 (by omega) B S (.agg #[.int .i64 t.id, .int .i64 t.kind, .string t.text, .slice ka len cap]) t hlen hfit (fun k hk => Nat.lt_of_lt_of_le (hS k hk) hb.size) ⟨ka, cap, by rw [hl], hcp, hk.below hb hS⟩
  have hmb : OwnsN B (w.heap.size + 1) 0 [] := by
    have := World.ownsMap_made (w.alloc (.cells #[.int .i64 t.id, .int .i64 t.kind, .string t.text, .slice ka len cap] 24)) Try.prog 3 heldE
    rw [← hB] at this
    rw [show (w.alloc (.cells #[.int .i64 t.id, .int .i64 t.kind, .string t.text, .slice ka len cap] 24)).heap.size = w.heap.size + 1 by simp] at this
    exact this
  have hbs : B.heap.size = w.heap.size + 2 := by rw [hB]; simp
  have HC := Lib.hid (And.intro hc (And.intro hb (And.intro hmb hbs)))
  have HBE := Lib.hid hB
  have HS := Lib.hid hS
  have HOK := Lib.hid hok
  rw [← hl]
  clear hc hb hk hfit hS hcp hmb hbs hB hok hlen hl
  have hmm := @run_makeMap Try.prog
  go_enter Try.func71, Try.ntmps71
  go_wp2_with fail
  change Calls _ _ _ ((w.alloc (.cells #[.int .i64 t.id, .int .i64 t.kind, .string t.text, .slice ka len cap] 24)).alloc (.map #[] 0)) _
  rw [← HBE.out]
  clear hmm
  refine HC.out.1.mono ?_
  rintro e w2 ⟨a, cap', rfl, hsp, hb2⟩
  obtain ⟨T, hT⟩ : ∃ T, T = (spF 1 (rootF t)).take 1000 := ⟨_, rfl⟩
  rw [← hT] at hsp ⊢
  obtain ⟨n, hn⟩ : ∃ n, n = T.length := ⟨_, rfl⟩
  rw [← hn] at hsp ⊢
  have hn2 : n ≤ 1000 := by rw [hn, hT, List.length_take]; omega
  have hokT : ∀ x ∈ T, (Lit.int .i64 x.2.1.1).wf = true := fun x hx => HOK.out x (List.mem_of_mem_take (by rw [← hT]; exact hx))
  have hm2 : OwnsN w2 (w.heap.size + 1) 0 [] := HC.out.2.2.1.at (hb2.block _ (by have := HC.out.2.2.2; omega))
  have hbW : Below w.heap.size w w2 := HC.out.2.1.trans (hb2.mono HC.out.2.1.size)
  obtain ⟨mb, hmb⟩ : ∃ mb, mb = w.heap.size + 1 := ⟨_, rfl⟩
  have hmw : mb < w2.heap.size := by have := HC.out.2.2.2; have := hb2.size; omega
  rw [← hmb] at hm2 ⊢
  have HI := Lib.hid (show IdsI w w2 S T mb 0 w2 from ⟨[], hm2, ⟨by simp, fun k x p h => by simp at h⟩, hbW, fun _ _ _ => rfl, Nat.le_refl _⟩)
  have HO := Lib.hid (And.intro hsp (And.intro hn (And.intro hmw (And.intro hokT hmb))))
  have HTE := Lib.hid hT
  clear hb2 hn hsp hm2 hbW HC hT hmw hokT HBE HOK hmb
  go_wp2_with fail
  go_loopw [10] (fun i wr => ∃ k : Nat, k ≤ n ∧ i = .int .i64 (k : Int) ∧ Hid (IdsI w w2 S T mb k wr)) (fun i _ => n - (intOf i).toNat)
  case atStart => exact ⟨0, Nat.zero_le _, rfl, HI⟩
  case round =>
    obtain ⟨k, hk, rfl, hh⟩ := hrel
    by_cases hlt : k < n
    · have hki : (k : Int) < (n : Int) := by omega
      obtain ⟨x, hx⟩ : ∃ x, T[k]? = some x := ⟨_, List.getElem?_eq_getElem (by rw [← HO.out.2.1]; exact hlt)⟩
      obtain ⟨g, rfl, hg, c0, c1, c2, ⟨xa, xc, c3, hxc, hxk⟩, c4⟩ := spots_ge HO.out.1 hx
      have hcap : n ≤ cap' := by
        obtain ⟨_, xs, ho, _⟩ := HO.out.1
        rcases ho.2 with ⟨hv, h0⟩ | ⟨_, _, _, hv, _, _, h3, _⟩
        · cases hv
        · cases hv; exact h3
      obtain ⟨L, hown, hvals, hbw, hrest, hsz⟩ := hh.out
      have hgm : g ≠ mb := fun e => by
        obtain ⟨_, xs, ho, _⟩ := HO.out.1
        have := (owns_bounds ho (g := g) rfl).1
        have h1 := HO.out.2.2.2.2
        have h2 := HO.out.2.2.1
        rcases ho.2 with ⟨hv, h0⟩ | ⟨_, _, _, hv, _, hf, _, _⟩
        · cases hv
        · cases hv
          obtain ⟨es, clock, hb9, _⟩ := HI.out.choose_spec.1
          rw [← e, hf] at hb9; cases hb9
      obtain ⟨xn, hxn⟩ : ∃ xn, xn = foLen x.2.2 := ⟨_, rfl⟩
      rw [← hxn] at c3 hxc
      have hkp : ∀ j v, w2.cell? ⟨g, j, none⟩ = some v → wr.cell? ⟨g, j, none⟩ = some v := fun j v h => (World.cell?_of_block (a := ⟨g, j, none⟩) (hrest g hg hgm)).trans h
      have c0 := hkp _ _ c0
      have c1 := hkp _ _ c1
      have c2 := hkp _ _ c2
      have c3 := hkp _ _ c3
      have c4 := hkp _ _ c4
      have hkey := keyOf_int_mk (P := Try.prog) Try.underlying3 (HO.out.2.2.2.1 x (List.mem_of_getElem? hx))
      have hmp : mb < wr.heap.size := by have := HO.out.2.2.1; omega
      have hownA : (wr.alloc (.cells #[.int .i64 x.2.1.1, .int .i64 x.2.1.2.1, .string x.2.1.2.2, .slice xa xn xc, .int .i64 (x.1 : Int)] 51)).ownsMap Try.prog 3 heldE mb k (mapN L) := OwnsN.at hown (Below.heap_alloc _ _ _ hmp)
      have HR := Lib.hid (And.intro hvals (And.intro hbw (And.intro hrest (And.intro hsz (And.intro hx (And.intro hlt (And.intro hxn (And.intro hxc (And.intro hxk (And.intro hmp hkp))))))))))
      clear hvals hbw hrest hsz hx hlt hk hxn hxc hxk hmp hown hkp hgm hg hh
      go_wp2_with (at_mapUpdate; refine wpList_mapUpdate_own _ rfl _ _ _ 87 rfl 3 24 law7 Try.underlying87 heldE mb k (mapN L) rfl hownA (by unfold maxLen; omega) _ _ _ rfl rfl hkey _ [] rfl ?_; intro w5 hown5 hgrow5)
      obtain ⟨hvals, hbw, hrest, hsz, hx, hlt, hxn, hxc, hxk, hmp, hkp⟩ := HR.out
      have h5 : ∀ y, y < wr.heap.size → y ≠ mb → w5.heap[y]? = wr.heap[y]? := fun y hy hne => (hgrow5.block y (by simp; omega) (fun e => hne (Option.some.inj e))).trans (Below.heap_alloc _ _ _ hy)
      have h5s : wr.heap.size ≤ w5.heap.size := by have := hgrow5.size; simp at this; omega
      have hmbw := HO.out.2.2.2.2
      have hSk : ∀ y, S y → w5.heap[y]? = wr.heap[y]? := fun y hy => h5 y (by have := HS.out y hy; have := hbw.size; omega) (by have := HS.out y hy; omega)
      have hSw : ∀ y, S y → wr.heap[y]? = w2.heap[y]? := fun y hy => hrest y (by have := HS.out y hy; have := HI.out.choose_spec.2.2.1.size; omega) (by have := HS.out y hy; omega)
      refine ⟨⟨k + 1, by omega, by go_num, Lib.hid ⟨L ++ [(x.2.1.1, .agg #[.int .i64 x.2.1.1, .int .i64 x.2.1.2.1, .string x.2.1.2.2, .slice xa xn xc])], ?_, ?_, ⟨(hgrow5.os).trans hbw.os, (hgrow5.tape).trans hbw.tape, (hgrow5.output).trans hbw.output, Nat.le_trans hbw.size h5s, fun y hy => (h5 y (by have := hbw.size; omega) (by omega)).trans (hbw.block y hy)⟩, fun y hy hne => (h5 y (by omega) hne).trans (hrest y hy hne), Nat.le_trans hsz h5s⟩⟩, by simp [intOf]; omega⟩
      · unfold OwnsN; rw [mapN_snoc]; exact hown5
      · rw [List.take_add_one, hx]
        exact (hvals.kept fun y hy => ⟨hy, hSk y hy⟩).snoc rfl ⟨xa, xc, by rw [hxn]; rfl, by rw [show foLen (trOf x).kids = xn from hxn.symm]; exact hxc, hxk.kept fun y hy => ⟨hy, (hSk y hy).trans (hSw y hy)⟩⟩
    · have hki : ¬ (k : Int) < (n : Int) := by omega
      have hkn : k = n := by omega
      have HK := Lib.hid hkn
      clear hkn hlt hk
      go_wp2_with fail
      go_ret
      obtain ⟨L, hown, hvals, hbw, hrest, hsz⟩ := hh.out
      rw [HK.out, List.take_of_length_le (by rw [HO.out.2.1]; exact Nat.le_refl _)] at hvals
      rw [HK.out] at hown
      refine ⟨mb, L, rfl, by have := HO.out.2.2.2.2; omega, by rw [← HTE.out, ← HO.out.2.1]; exact hown, by rw [← HTE.out]; exact hvals, hbw⟩
end Go.Proofs.Ytfdcopegkhofnaa
namespace Go.Proofs.Ytfdcopegkhofnaa
open Go.RowKit Go.Shelf
set_option linter.unusedVariables false
set_option linter.unusedSimpArgs false

theorem at_walk : ∀ (f : Fo) (d k : Nat) (r : List Nat) (u v : Tr), kidF f k = some u → atT u r = some v → ∃ x ∈ spF d f, trOf x = v
  | .nil, _, k, _, _, _, h, _ => by cases k <;> simp [kidF, foDrop, headT] at h
  | .node b o key l q, d, 0, r, u, v, h, hv => by
    have hu : u = ⟨key.1, key.2.1, key.2.2, l⟩ := by simp only [kidF, foDrop, headT] at h; cases h; rfl
    subst hu
    cases r with
    | nil => cases hv; exact ⟨(d, key, l), by simp [spF], rfl⟩
    | cons i r =>
      simp only [atT] at hv
      cases hk : kidF l i with
      | none => rw [hk] at hv; cases hv
      | some w =>
        rw [hk] at hv
        obtain ⟨x, h1, h2⟩ := at_walk l (d + 1) i r w v hk hv
        exact ⟨x, by simp [spF, h1], h2⟩
  | .node b o key l q, d, k + 1, r, u, v, h, hv => by
    obtain ⟨x, h1, h2⟩ := at_walk q d k r u v (by simpa [kidF, foDrop] using h) hv
    exact ⟨x, by simp [spF, h1], h2⟩
theorem path_walk {t u : Tr} {p : List Nat} (h : atT t p = some u) : ∃ x ∈ spF 1 (rootF t), trOf x = u :=
  at_walk (rootF t) 1 0 p t u rfl h
end Go.Proofs.Ytfdcopegkhofnaa
