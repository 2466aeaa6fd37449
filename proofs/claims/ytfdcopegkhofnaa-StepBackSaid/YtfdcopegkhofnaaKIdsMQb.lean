/-
  The law's own ids: a map from ids to nodes. No condition but that there are not too many nodes, and the bounds of ids that a host keeps.
-/
import Derived.Carry
import Derived.Test.YtfdcopegkhofnaaKMapPQb
namespace Go.Proofs.Ytfdcopegkhofnaa
open Go.RowKit Go.Shelf
open Go.Maps
set_option linter.unusedVariables false
set_option linter.unusedSimpArgs false

/-- What ids answers. -/
def IdsN (w : World) (S : Nat → Prop) (T : List Sp) (e : Ending) (w' : World) : Prop := ∃ b L, e = .returned (.map (some b)) ∧ w.heap.size ≤ b ∧ OwnsN w' b T.length L ∧ ValsOf w' S T L ∧ Below w.heap.size w w'
def IdsI (w w2 : World) (S : Nat → Prop) (T : List Sp) (mb k : Nat) (X : World) : Prop := ∃ L, OwnsN X mb k L ∧ ValsOf X S (T.take k) L ∧ Below w.heap.size w X ∧ (∀ y, y < w2.heap.size → y ≠ mb → X.heap[y]? = w2.heap[y]?) ∧ w2.heap.size ≤ X.heap.size
set_option maxRecDepth 100000 in
set_option maxHeartbeats 4000000 in
theorem idsN_any (w : World) (S : Nat → Prop) (nv : Value) (t : Tr) (hlen : foLen t.kids ≤ 9223372036854775807) (hfit : foFit t.kids) (hS : ∀ y, S y → y < w.heap.size) (ht : TrAt w S nv t) (hok : ∀ x ∈ spF 1 (rootF t), (Lit.int .i64 x.2.1.1).wf = true) :
    Calls Try.prog 71 #[nv] w (IdsN w S ((spF 1 (rootF t)).take 1000)) := by
  obtain ⟨ka, cap, rfl, hcp, hk⟩ := ht
  obtain ⟨len, hl⟩ : ∃ len, len = foLen t.kids := ⟨_, rfl⟩
  obtain ⟨B, hB⟩ : ∃ B, B = (w.alloc (.cells #[.int .i64 t.id, .int .i64 t.kind, .string t.text, .slice ka len cap] 24)).alloc (.map #[] 0) := ⟨_, rfl⟩
  have hb : Below w.heap.size w B := by rw [hB, hl]; exact ((Below.refl _ _).alloc (Nat.le_refl _) _).alloc (by simp) _
  have hc := walkM_any 1000 (by omega) B S (.agg #[.int .i64 t.id, .int .i64 t.kind, .string t.text, .slice ka len cap]) t hlen hfit (fun k hk => Nat.lt_of_lt_of_le (hS k hk) hb.size) ⟨ka, cap, by rw [hl], hcp, hk.below hb hS⟩
  have hmb : OwnsN B (w.heap.size + 1) 0 [] := by
    have := World.ownsMap_made (w.alloc (.cells #[.int .i64 t.id, .int .i64 t.kind, .string t.text, .slice ka len cap] 24)) Try.prog 3 heldE
    rw [← hB] at this
    rw [show (w.alloc (.cells #[.int .i64 t.id, .int .i64 t.kind, .string t.text, .slice ka len cap] 24)).heap.size = w.heap.size + 1 by simp] at this
    exact this
  have hbs : B.heap.size = w.heap.size + 2 := by rw [hB]; simp
  have HC := Lib.hid (And.intro hc (And.intro hb (And.intro hmb hbs)))
  have HBE := Lib.hid hB
  have HS := Lib.hid hS
  have HOK := Lib.hid hok
  rw [← hl]
  clear hc hb hk hfit hS hcp hmb hbs hB hok hlen hl
  have hmm := @run_makeMap Try.prog
  go_enter Try.func71, Try.ntmps71
  go_wp2_with fail
  change Calls _ _ _ ((w.alloc (.cells #[.int .i64 t.id, .int .i64 t.kind, .string t.text, .slice ka len cap] 24)).alloc (.map #[] 0)) _
  rw [← HBE.out]
  clear hmm
  refine HC.out.1.mono ?_
  rintro e w2 ⟨a, cap', rfl, hsp, hb2⟩
  obtain ⟨T, hT⟩ : ∃ T, T = (spF 1 (rootF t)).take 1000 := ⟨_, rfl⟩
  rw [← hT] at hsp ⊢
  obtain ⟨n, hn⟩ : ∃ n, n = T.length := ⟨_, rfl⟩
  rw [← hn] at hsp ⊢
  have hn2 : n ≤ 1000 := by rw [hn, hT, List.length_take]; omega
  have hokT : ∀ x ∈ T, (Lit.int .i64 x.2.1.1).wf = true := fun x hx => HOK.out x (List.mem_of_mem_take (by rw [← hT]; exact hx))
  have hm2 : OwnsN w2 (w.heap.size + 1) 0 [] := HC.out.2.2.1.at (hb2.block _ (by have := HC.out.2.2.2; omega))
  have hbW : Below w.heap.size w w2 := HC.out.2.1.trans (hb2.mono HC.out.2.1.size)
  obtain ⟨mb, hmb⟩ : ∃ mb, mb = w.heap.size + 1 := ⟨_, rfl⟩
  have hmw : mb < w2.heap.size := by have := HC.out.2.2.2; have := hb2.size; omega
  rw [← hmb] at hm2 ⊢
  have HI := Lib.hid (show IdsI w w2 S T mb 0 w2 from ⟨[], hm2, ⟨by simp, fun k x p h => by simp at h⟩, hbW, fun _ _ _ => rfl, Nat.le_refl _⟩)
  have HO := Lib.hid (And.intro hsp (And.intro hn (And.intro hmw (And.intro hokT hmb))))
  have HTE := Lib.hid hT
  clear hb2 hn hsp hm2 hbW HC hT hmw hokT HBE HOK hmb
  go_wp2_with fail
  go_loopw [10] (fun i wr => ∃ k : Nat, k ≤ n ∧ i = .int .i64 (k : Int) ∧ Hid (IdsI w w2 S T mb k wr)) (fun i _ => n - (intOf i).toNat)
  case atStart => exact ⟨0, Nat.zero_le _, rfl, HI⟩
  case round =>
    obtain ⟨k, hk, rfl, hh⟩ := hrel
    by_cases hlt : k < n
    · have hki : (k : Int) < (n : Int) := by omega
      obtain ⟨x, hx⟩ : ∃ x, T[k]? = some x := ⟨_, List.getElem?_eq_getElem (by rw [← HO.out.2.1]; exact hlt)⟩
      obtain ⟨g, rfl, hg, c0, c1, c2, ⟨xa, xc, c3, hxc, hxk⟩, c4⟩ := spots_ge HO.out.1 hx
      have hcap : n ≤ cap' := by
        obtain ⟨_, xs, ho, _⟩ := HO.out.1
        rcases ho.2 with ⟨hv, h0⟩ | ⟨_, _, _, hv, _, _, h3, _⟩
        · cases hv
        · cases hv; exact h3
      obtain ⟨L, hown, hvals, hbw, hrest, hsz⟩ := hh.out
      have hgm : g ≠ mb := fun e => by
        obtain ⟨_, xs, ho, _⟩ := HO.out.1
        have := (owns_bounds ho (g := g) rfl).1
        have h1 := HO.out.2.2.2.2
        have h2 := HO.out.2.2.1
        rcases ho.2 with ⟨hv, h0⟩ | ⟨_, _, _, hv, _, hf, _, _⟩
        · cases hv
        · cases hv
          obtain ⟨es, clock, hb9, _⟩ := HI.out.choose_spec.1
          rw [← e, hf] at hb9; cases hb9
      obtain ⟨xn, hxn⟩ : ∃ xn, xn = foLen x.2.2 := ⟨_, rfl⟩
      rw [← hxn] at c3 hxc
      have hkp : ∀ j v, w2.cell? ⟨g, j, none⟩ = some v → wr.cell? ⟨g, j, none⟩ = some v := fun j v h => (World.cell?_of_block (a := ⟨g, j, none⟩) (hrest g hg hgm)).trans h
      have c0 := hkp _ _ c0
      have c1 := hkp _ _ c1
      have c2 := hkp _ _ c2
      have c3 := hkp _ _ c3
      have c4 := hkp _ _ c4
      have hkey := keyOf_int_mk (P := Try.prog) Try.underlying3 (HO.out.2.2.2.1 x (List.mem_of_getElem? hx))
      have hmp : mb < wr.heap.size := by have := HO.out.2.2.1; omega
      have hownA : (wr.alloc (.cells #[.int .i64 x.2.1.1, .int .i64 x.2.1.2.1, .string x.2.1.2.2, .slice xa xn xc, .int .i64 (x.1 : Int)] 51)).ownsMap Try.prog 3 heldE mb k (mapN L) := OwnsN.at hown (Below.heap_alloc _ _ _ hmp)
      have HR := Lib.hid (And.intro hvals (And.intro hbw (And.intro hrest (And.intro hsz (And.intro hx (And.intro hlt (And.intro hxn (And.intro hxc (And.intro hxk (And.intro hmp hkp))))))))))
      clear hvals hbw hrest hsz hx hlt hk hxn hxc hxk hmp hown hkp hgm hg hh
      go_wp2_with (at_mapUpdate; refine wpList_mapUpdate_own _ rfl _ _ _ 87 rfl 3 24 law7 Try.underlying87 heldE mb k (mapN L) rfl hownA (by unfold maxLen; omega) _ _ _ rfl rfl hkey _ [] rfl ?_; intro w5 hown5 hgrow5)
      obtain ⟨hvals, hbw, hrest, hsz, hx, hlt, hxn, hxc, hxk, hmp, hkp⟩ := HR.out
      have h5 : ∀ y, y < wr.heap.size → y ≠ mb → w5.heap[y]? = wr.heap[y]? := fun y hy hne => (hgrow5.block y (by simp; omega) (fun e => hne (Option.some.inj e))).trans (Below.heap_alloc _ _ _ hy)
      have h5s : wr.heap.size ≤ w5.heap.size := by have := hgrow5.size; simp at this; omega
      have hmbw := HO.out.2.2.2.2
      have hSk : ∀ y, S y → w5.heap[y]? = wr.heap[y]? := fun y hy => h5 y (by have := HS.out y hy; have := hbw.size; omega) (by have := HS.out y hy; omega)
      have hSw : ∀ y, S y → wr.heap[y]? = w2.heap[y]? := fun y hy => hrest y (by have := HS.out y hy; have := HI.out.choose_spec.2.2.1.size; omega) (by have := HS.out y hy; omega)
      refine ⟨⟨k + 1, by omega, by go_num, Lib.hid ⟨L ++ [(x.2.1.1, .agg #[.int .i64 x.2.1.1, .int .i64 x.2.1.2.1, .string x.2.1.2.2, .slice xa xn xc])], ?_, ?_, ⟨(hgrow5.os).trans hbw.os, (hgrow5.tape).trans hbw.tape, (hgrow5.output).trans hbw.output, Nat.le_trans hbw.size h5s, fun y hy => (h5 y (by have := hbw.size; omega) (by omega)).trans (hbw.block y hy)⟩, fun y hy hne => (h5 y (by omega) hne).trans (hrest y hy hne), Nat.le_trans hsz h5s⟩⟩, by simp [intOf]; omega⟩
      · unfold OwnsN; rw [mapN_snoc]; exact hown5
      · rw [List.take_add_one, hx]
        exact (hvals.kept fun y hy => ⟨hy, hSk y hy⟩).snoc rfl ⟨xa, xc, by rw [hxn]; rfl, by rw [show foLen (trOf x).kids = xn from hxn.symm]; exact hxc, hxk.kept fun y hy => ⟨hy, (hSk y hy).trans (hSw y hy)⟩⟩
    · have hki : ¬ (k : Int) < (n : Int) := by omega
      have hkn : k = n := by omega
      have HK := Lib.hid hkn
      clear hkn hlt hk
      go_wp2_with fail
      go_ret
      obtain ⟨L, hown, hvals, hbw, hrest, hsz⟩ := hh.out
      rw [HK.out, List.take_of_length_le (by rw [HO.out.2.1]; exact Nat.le_refl _)] at hvals
      rw [HK.out] at hown
      refine ⟨mb, L, rfl, by have := HO.out.2.2.2.2; omega, by rw [← HTE.out, ← HO.out.2.1]; exact hown, by rw [← HTE.out]; exact hvals, hbw⟩
end Go.Proofs.Ytfdcopegkhofnaa
