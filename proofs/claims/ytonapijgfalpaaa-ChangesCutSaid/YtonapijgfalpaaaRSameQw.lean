/-
  .
-/
import Derived.Test.YtonapijgfalpaaaECopyQw
import Derived.Deep.AppendLies
import Derived.Deep.RegionHeld3
import Derived.StillTailTactics
set_option linter.unusedVariables false
namespace Go.Proofs.Ytonapijgfalpaaa
open Go.RowKit Go.Shelf
attribute [local go_sem] Oper.semAt_some
def CopyC (w : World) (S : Nat → Prop) (t : Tr) (e : Ending) (w' : World) : Prop := ∃ v, e = .returned v ∧ TrAt w' (fun x => CellsB w' x ∧ (S x ∨ w.heap.size ≤ x)) v t ∧ Below w.heap.size w w'
def exc (w : World) (S : Nat → Prop) : Nat → Prop := fun x => x = w.heap.size + 1 ∨ (x < w.heap.size ∧ ¬ S x)
theorem wc_facts (w : World) (cs zs : Array Value) (v : Value) :
 ((((w.alloc (.cells cs 24)).alloc (.cells zs 24)).alloc (.cells cs 24)).alloc (.cells #[v] 22)).heap.size = w.heap.size + 4 ∧
 Below w.heap.size w ((((w.alloc (.cells cs 24)).alloc (.cells zs 24)).alloc (.cells cs 24)).alloc (.cells #[v] 22)) ∧
 ((((w.alloc (.cells cs 24)).alloc (.cells zs 24)).alloc (.cells cs 24)).alloc (.cells #[v] 22)).heap[w.heap.size + 1]? = some (.cells zs 24 (0, 0)) ∧
 ((((w.alloc (.cells cs 24)).alloc (.cells zs 24)).alloc (.cells cs 24)).alloc (.cells #[v] 22)).heap[w.heap.size + 1 + 1]? = some (.cells cs 24 (0, 0)) ∧
 ((((w.alloc (.cells cs 24)).alloc (.cells zs 24)).alloc (.cells cs 24)).alloc (.cells #[v] 22)).heap[w.heap.size + 1 + 1 + 1]? = some (.cells #[v] 22 (0, 0)) := by
 refine ⟨by simp, ?_, ?_, ?_, ?_⟩
 · exact ((((Below.refl _ w).alloc (Nat.le_refl _) _).alloc (by simp only [World.size_alloc]; omega) _).alloc (by simp only [World.size_alloc]; omega) _).alloc (by simp only [World.size_alloc]; omega) _
 · rw [Below.heap_alloc _ _ _ (by simp only [World.size_alloc]; omega), Below.heap_alloc _ _ _ (by simp only [World.size_alloc]; omega)]
   have := heap_alloc_new (w.alloc (.cells cs 24)) (.cells zs 24)
   rw [World.size_alloc] at this; exact this
 · rw [Below.heap_alloc _ _ _ (by simp only [World.size_alloc]; omega)]
   have := heap_alloc_new ((w.alloc (.cells cs 24)).alloc (.cells zs 24)) (.cells cs 24)
   rw [World.size_alloc, World.size_alloc] at this; exact this
 · have := heap_alloc_new (((w.alloc (.cells cs 24)).alloc (.cells zs 24)).alloc (.cells cs 24)) (.cells #[v] 22)
   rw [World.size_alloc, World.size_alloc, World.size_alloc] at this; exact this
def CopyJ (w W : World) (S : Nat → Prop) (t : Tr) (T : Nat → Prop) (A : List Seg) (V : World) : Prop := CopyI w W.heap.size (w.heap.size + 1 + 1) (exc w S) t T A V ∧ agSize A ≤ 500000 ∧ ∃ zs : Array Value, zs = #[.int .i64 0, .int .i64 0, .string ⟨#[]⟩, .slice none 0 0] ∧ V.heap[w.heap.size + 1]? = some (.cells zs 24 (0, 0))
theorem results_cellW {P : Program} {fn : Func} {p : Tmp} {ty : TypeId} (h : fn.results = #[.cell p ty]) (tmps : Array Value) (w : World) (g : Nat) (t : TypeId) (cs : Array Value) (fr : Nat × Nat) (d : TypeDesc)
 (hp : tmps.getD p undef = .pointer (some ⟨g, 0, none⟩)) (hg : w.heap[g]? = some (.cells cs t fr)) (hu : P.underlying ty = some d) (hd : (match d with | .struct _ | .array _ _ => true | _ => false) = true) (hi : (P.info? ty).map (·.size) = some cs.size) :
 (results fn tmps).run P w = .ok (.agg cs) w := by
 have hp' : tmps[p]?.getD undef = .pointer (some ⟨g, 0, none⟩) := by simpa using hp
 simp [results, h, hp', asAddr, run_loadVar_row w g t ty cs fr d hg hu hd hi]
theorem copy_end {w V : World} {S : Nat → Prop} {t : Tr} {B RB D : Nat} {T : Nat → Prop} {ra : Option Addr} {rc : Nat} (h : CopyI w B RB (exc w S) t T [] V) (hk : FoAt V (XT (ex T (exc w S)) V) t.kids ra) (hc : foLen t.kids ≤ rc)
 (hz : V.heap[w.heap.size + 1]? = some (.cells #[.int .i64 0, .int .i64 0, .string ⟨#[]⟩, .slice none 0 0] 24 (0, 0))) (hK : V.heap[D]? = some (.deferred (some []))) (hD : w.heap.size + 1 < D) :
 ((((V.setCell ⟨w.heap.size + 1, 0, none⟩ (.int .i64 t.id)).setCell ⟨w.heap.size + 1, 1, none⟩ (.int .i64 t.kind)).setCell ⟨w.heap.size + 1, 2, none⟩ (.string t.text)).setCell ⟨w.heap.size + 1, 3, none⟩ (.slice ra (foLen t.kids) rc)).heap[D]? = some (.deferred (some [])) ∧
 (((((V.setCell ⟨w.heap.size + 1, 0, none⟩ (.int .i64 t.id)).setCell ⟨w.heap.size + 1, 1, none⟩ (.int .i64 t.kind)).setCell ⟨w.heap.size + 1, 2, none⟩ (.string t.text)).setCell ⟨w.heap.size + 1, 3, none⟩ (.slice ra (foLen t.kids) rc)).putObj D (.deferred none)).heap[w.heap.size + 1]? = some (.cells #[.int .i64 t.id, .int .i64 t.kind, .string t.text, .slice ra (foLen t.kids) rc] 24 (0, 0)) ∧
 CopyC w S t (.returned (.agg #[.int .i64 t.id, .int .i64 t.kind, .string t.text, .slice ra (foLen t.kids) rc])) ((((((V.setCell ⟨w.heap.size + 1, 0, none⟩ (.int .i64 t.id)).setCell ⟨w.heap.size + 1, 1, none⟩ (.int .i64 t.kind)).setCell ⟨w.heap.size + 1, 2, none⟩ (.string t.text)).setCell ⟨w.heap.size + 1, 3, none⟩ (.slice ra (foLen t.kids) rc)).putObj D (.deferred none))) := by
 have h1 := heap_setCell_same V (w.heap.size + 1) 0 _ _ (.int .i64 t.id) hz
 have h2 := heap_setCell_same _ (w.heap.size + 1) 1 _ _ (.int .i64 t.kind) h1
 have h3 := heap_setCell_same _ (w.heap.size + 1) 2 _ _ (.string t.text) h2
 have h4 := heap_setCell_same _ (w.heap.size + 1) 3 _ _ (.slice ra (foLen t.kids) rc) h3
 have hb : ∀ x, x ≠ w.heap.size + 1 → ((((V.setCell ⟨w.heap.size + 1, 0, none⟩ (.int .i64 t.id)).setCell ⟨w.heap.size + 1, 1, none⟩ (.int .i64 t.kind)).setCell ⟨w.heap.size + 1, 2, none⟩ (.string t.text)).setCell ⟨w.heap.size + 1, 3, none⟩ (.slice ra (foLen t.kids) rc)).heap[x]? = V.heap[x]? := fun x hx => by
  rw [Below.heap_setCell _ _ _ _ hx, Below.heap_setCell _ _ _ _ hx, Below.heap_setCell _ _ _ _ hx, Below.heap_setCell _ _ _ _ hx]
 have hk1 := (hb D (by omega)).trans hK
 have hall : ∀ x, x ≠ w.heap.size + 1 → x ≠ D → (((((V.setCell ⟨w.heap.size + 1, 0, none⟩ (.int .i64 t.id)).setCell ⟨w.heap.size + 1, 1, none⟩ (.int .i64 t.kind)).setCell ⟨w.heap.size + 1, 2, none⟩ (.string t.text)).setCell ⟨w.heap.size + 1, 3, none⟩ (.slice ra (foLen t.kids) rc)).putObj D (.deferred none)).heap[x]? = V.heap[x]? := fun x hx hd => (World.putObj_heap_other hd).trans (hb x hx)
 refine ⟨hk1, ?_, _, rfl, ⟨ra, rc, rfl, hc, hk.kept fun x hx => ?_⟩, ?_⟩
 · rw [World.putObj_heap_other (by omega), h4]; simp
 · obtain ⟨⟨cs, ty, fr, hcx⟩, hn⟩ := hx
   have hxe : x ≠ w.heap.size + 1 := fun e => hn (Or.inr (Or.inl e))
   have hxD : x ≠ D := fun e => by rw [e, hK] at hcx; cases hcx
   refine ⟨⟨⟨cs, ty, fr, (hall x hxe hxD).trans hcx⟩, ?_⟩, hall x hxe hxD⟩
   by_cases hxw : x < w.heap.size
   · by_cases hs : S x
     · exact Or.inl hs
     · exact absurd (Or.inr (Or.inr ⟨hxw, hs⟩)) hn
   · exact Or.inr (by omega)
 · have hh := (((h.below.setCell (p := ⟨w.heap.size + 1, 0, none⟩) (by simp) (.int .i64 t.id)).setCell (p := ⟨w.heap.size + 1, 1, none⟩) (by simp) (.int .i64 t.kind)).setCell (p := ⟨w.heap.size + 1, 2, none⟩) (by simp) (.string t.text)).setCell (p := ⟨w.heap.size + 1, 3, none⟩) (by simp) (.slice ra (foLen t.kids) rc)
   revert hh hk1
   generalize ((((V.setCell ⟨w.heap.size + 1, 0, none⟩ (.int .i64 t.id)).setCell ⟨w.heap.size + 1, 1, none⟩ (.int .i64 t.kind)).setCell ⟨w.heap.size + 1, 2, none⟩ (.string t.text)).setCell ⟨w.heap.size + 1, 3, none⟩ (.slice ra (foLen t.kids) rc)) = V4
   intro hk1 hh
   exact ⟨hh.os, hh.tape, hh.output, by have := hh.size; simp [World.putObj]; exact this, fun x hx => (World.putObj_heap_other (by omega)).trans (hh.block x hx)⟩
set_option maxRecDepth 100000 in
set_option maxHeartbeats 2000000 in
theorem copy_any (w : World) (S : Nat → Prop) (nv : Value) (t : Tr) (hS : ∀ x, S x → CellsB w x) (ht : TrAt w S nv t) (hsz : foSize t.kids + 1 ≤ 500000) : Calls Try.prog 120 #[nv] w (CopyC w S t) := by
 obtain ⟨ka, cap, rfl, hcap, hk⟩ := ht
 obtain ⟨n, hn⟩ : ∃ n, n = foLen t.kids := ⟨_, rfl⟩
 rw [← hn]
 obtain ⟨k1, k2, k3, k4, k5⟩ := wc_facts w #[.int .i64 t.id, .int .i64 t.kind, .string t.text, .slice ka n cap] #[.int .i64 0, .int .i64 0, .string ⟨#[]⟩, .slice none 0 0] (.slice (some ⟨w.heap.size + 1 + 1, 0, none⟩) 1 1)
 have HW := Lib.hid (And.intro k1 (And.intro k2 (And.intro k3 (And.intro k4 k5))))
 have H := Lib.hid (And.intro hS (And.intro hcap (And.intro hk (And.intro hsz hn))))
 clear hS hcap hk hsz hn k1 k2 k3 k4 k5
 refine (callsIn_wide (n := 6)).1 ?_
 refine callsIn_of_wp_marks Try.func120 rfl trivial ?_ rfl
 simp only [Try.ntmps120, List.size_toArray, List.length_cons, List.length_nil, Nat.reduceAdd, Nat.reduceSub, Array.replicate_succ, Array.replicate_zero, List.push_toArray, List.append_toArray, List.nil_append, List.cons_append]
 gi_wp2_with (refine ⟨trivial, ?_⟩; gi_at_call 156; refine (callsIn_wide.2 (each_fn _ _ _ _)).mono ?_; rintro e w' ⟨rfl, rfl⟩)
 generalize hW : World.alloc _ _ = W at HW ⊢
 clear hW
 obtain ⟨k1, k2, k3, k4, k5⟩ := HW.out
 have hSW : ∀ x, S x → W.heap[x]? = w.heap[x]? := fun x hx => k2.block x (H.out.1 x hx).lt
 have hroot := root_lies hSW H.out.2.1 H.out.2.2.1 (by rw [← H.out.2.2.2.2]; exact k4)
 have hroot2 : FoAt W (XT (ex (fun _ => False) (exc w S)) W) (rootF t) (some ⟨w.heap.size + 1 + 1, 0, none⟩) := hroot.kept fun x hx => ⟨⟨by
  rcases hx with hx | hx
  · obtain ⟨cs, ty, fr, hc⟩ := H.out.1 x hx
    exact ⟨cs, ty, fr, (hSW x hx).trans hc⟩
  · rw [hx]; exact ⟨_, _, _, k4⟩, fun h => by
    rcases h with h | h | h
    · exact h
    · rcases hx with hx | hx
      · have := (H.out.1 x hx).lt; omega
      · omega
    · rcases hx with hx | hx
      · exact h.2 hx
      · omega⟩, rfl⟩
 have hn4 : w.heap.size + 4 = W.heap.size := k1.symm
 refine range_each (by omega) rfl ⟨1, some ⟨w.heap.size + 1 + 1, 0, none⟩, 1, rootF t⟩ rfl (by simp [rootF]) (by simp [rootF, foLen]) (by rw [rootF_size]; exact H.out.2.2.2.1) (by rw [cell_of_row _ _ 0 _ _ _ k5]; rfl) rfl
  (CopyJ w W S t) (fun _ _ _ => False) ?turn (fun h _ _ => h.elim) ?empty ?start ?round ?done ?stop
 case turn =>
  rintro T T' A V V' ⟨h1, h9, zs, hz, h2⟩ ht hw
  refine ⟨h1.turn (by omega) ht hw, h9, zs, hz, (ht.block _ (lt_of_heap h2) (fun h => ?_)).trans h2⟩
  rcases h with h | h
  · have := h1.hT _ h; omega
  · omega
 case empty =>
  rintro T A B d c a V ⟨h1, h9, h2⟩
  exact ⟨⟨h1.below, h1.hT, h1.big, h1.exl, h1.root, fun s hs => h1.rows s (by rcases List.mem_append.1 hs with hs | hs; exact List.mem_append_left _ hs; exact List.mem_append_right _ (List.mem_cons_of_mem _ hs))⟩, by rw [agSize_append, agSize_cons] at h9; rw [agSize_append]; omega, h2⟩
 case start =>
  refine ⟨⟨k2, fun _ h => h.elim, Nat.le_refl _, fun x hx => by rcases hx with hx | hx <;> omega, hroot2, fun s hs => ?_⟩, by rw [agSize_cons, agSize_nil, rootF_size]; have := H.out.2.2.2.1; omega, _, rfl, k3⟩
  rw [List.mem_singleton] at hs
  subst hs
  exact ⟨hroot2, fun _ => ⟨_, _, rfl, by omega, _, _, k4⟩⟩
 case stop => exact fun _ _ _ _ _ h _ => h.elim
 case done =>
  rintro D T V hD ⟨hI, _, zs, rfl, hz⟩ hK
  obtain ⟨b, off, ra, rc, e1, hb, c0, c1, c2, c3, c4, hkk, _⟩ := hI.root
  cases e1
  obtain ⟨m, hm⟩ : ∃ m, m = foLen t.kids := ⟨_, rfl⟩
  rw [← hm] at c3 c4
  simp only [Nat.zero_add] at c0 c1 c2 c3
  have z0 : V.cell? ⟨w.heap.size + 1, 0, none⟩ = some (.int .i64 0) := by rw [cell_of_row _ _ 0 _ _ _ hz]; rfl
  have z1 : V.cell? ⟨w.heap.size + 1, 1, none⟩ = some (.int .i64 0) := by rw [cell_of_row _ _ 1 _ _ _ hz]; rfl
  have z2 : V.cell? ⟨w.heap.size + 1, 2, none⟩ = some (.string ⟨#[]⟩) := by rw [cell_of_row _ _ 2 _ _ _ hz]; rfl
  have z3 : V.cell? ⟨w.heap.size + 1, 3, none⟩ = some (.slice none 0 0) := by rw [cell_of_row _ _ 3 _ _ _ hz]; rfl
  have zf : ∀ j, V.frozen? ⟨w.heap.size + 1, j, none⟩ = false := fun j => frozen_of_row _ _ j _ _ hz
  have HE := Lib.hid (And.intro hI (And.intro hkk (And.intro hm (And.intro hz (And.intro hK (And.intro hD c4))))))
  clear hI hkk hm hz hK HW H k1 k2 k3 k4 k5 hSW hroot hroot2 hb c4 hD hn4
  gi_wp2
  obtain ⟨q1, q2, q3, q4, q5, q6, q7⟩ := HE.out
  have hcp := copy_end q1 q2 (by rw [← q3]; exact q7) q4 q5 (by have := q1.exl _ (Or.inl rfl); omega)
  rw [← q3] at hcp
  refine ⟨by simp, .inl ⟨_, _, rfl, run_takeDeferred hcp.1, ?_⟩⟩
  exact ⟨_, results_cellW rfl _ _ (w.heap.size + 1) 24 _ _ _ rfl hcp.2.1 Try.underlying24 rfl (by kernel_rfl), hcp.2.2⟩
 case round =>
  rintro l hl T d c bo oo ad key k r A V hT hV ⟨hI, hag, zs, rfl, hz⟩
  obtain ⟨hf, hfree⟩ := hI.rows _ (List.mem_cons_self ..)
  simp only at hf hfree
  obtain ⟨b, off, kka, kcap, e1, hbX, c0, c1, c2, c3, c4, hkk, hrr⟩ := hf
  obtain ⟨m, hm⟩ : ∃ m, m = foLen k := ⟨_, rfl⟩
  rw [← hm] at c3 c4
  obtain ⟨xs, x1, x2, x3, x4⟩ := fo_read hkk
  rw [← hm] at x1 x4
  rw [agSize_cons] at hag
  simp only [foSize] at hag
  have hm6 : m ≤ 1000000 := by have := foLen_le k; omega
  refine ⟨b, off, e1, fun K hK => ?_⟩
  have HK := Lib.hid hK
  have HI := Lib.hid (And.intro hI (And.intro hz (And.intro hT (And.intro hm (And.intro e1 (And.intro x1 (And.intro x2 (And.intro x3 (And.intro x4 (And.intro hl (And.intro hbX (And.intro hV hag))))))))))))
  clear hI hz hT hm e1 x1 x2 x3 x4 hl hbX hV hK hkk hrr c0 c1 c2 c4 hfree H hag k1 k2 k3 k4 k5 hSW hroot hroot2 hn4
  gi_wp2
  refine HK.out _ fun V1 hV1 => ?_
  clear HK
  obtain ⟨o', ev, o, ho, hoc⟩ := hV1
  have hbl : b ≠ l := fun e => by
   obtain ⟨⟨cs, ty, fr, hc⟩, _⟩ := HI.out.2.2.2.2.2.2.2.2.2.2.1
   rw [e, ho] at hc; cases hc; cases hoc
  have hV1s : ∀ x, x ≠ l → V1.heap[x]? = V.heap[x]? := fun x hx => by rw [ev]; exact World.putObj_heap_other hx
  have hsz1 : V1.heap.size = V.heap.size := by rw [ev]; simp [World.putObj]
  have hI1 : CopyI w W.heap.size (w.heap.size + 1 + 1) (exc w S) t T (⟨d, ad, c, .node bo oo key k r⟩ :: A) V1 := by
   refine HI.out.1.turn (by have := HW.out.1; omega) (V' := V1) (by rw [ev]; exact (touched_put o' ho).mono (fun x hx => Or.inr ⟨by have := HI.out.2.2.2.2.2.2.2.2.2.1; omega, by rw [hx]; exact ⟨o, ho, hoc⟩⟩)) (fun x hx => Or.inl hx)
  have c3' : V1.cell? ⟨b, off + 3, none⟩ = some (.slice kka m kcap) := (World.cell?_of_block (hV1s b hbl)).trans c3
  have hxc : ∀ ad, kka = some ad → ∀ j u, xs[j]? = some u → V1.cell? (ad.add j) = some u := fun ad he j u hj => by
   have h1 := HI.out.2.2.2.2.2.2.2.1 ad he j u hj
   refine (World.cell?_of_block (hV1s _ fun e => ?_)).trans h1
   have h2 : V.heap[(ad.add j).block]? = some o := by rw [e]; exact ho
   have h3 : V.cell? (ad.add j) = none := by
    unfold World.cell?
    rw [h2]
    cases o <;> simp_all [Obj.isCells]
   rw [h3] at h1; cases h1
  have hclone := clone_Nodes V1 kka m kcap xs HI.out.2.2.2.2.2.1 HI.out.2.2.2.2.2.2.1 (by omega) hxc HI.out.2.2.2.2.2.2.2.2.1
  have hnext := fun (w1 : World) (rv : Value) hb1 hown => CopyI.next (w1 := w1) (rv := rv) (by have := HW.out.1; omega) (fun x hx => by rw [hsz1]; exact (HI.out.2.2.1 x hx).1) hI1 HI.out.2.2.2.1 c3' HI.out.2.2.2.2.1 HI.out.2.2.2.2.2.1 hxc hb1 hown
  have HX := Lib.hid (And.intro hclone (And.intro hnext (And.intro hsz1 (And.intro hV1s (And.intro ho hoc)))))
  clear hclone hnext hxc hI1 ev hV1s ho hoc hsz1 c3
  gi_wp2_with (refine ⟨trivial, ?_⟩; gi_at_call 157; refine (CallsIn.inRound l (callsIn_wide.2 HX.out.1)).mono ?_; rintro e w1 ⟨rv, rfl, hb1, hown⟩; obtain ⟨ra, rc, rfl, q1, q2, q3, q4, q5, q6, q7⟩ := HX.out.2.1 w1 rv hb1 hown; have HQ := Lib.hid (And.intro q1 (And.intro q5 (And.intro q6 (And.intro q7 (And.intro q4 (And.intro hb1 hown)))))); clear q1 q4 q5 q6 q7 hown hb1 c3')
  obtain ⟨q1, q5, q6, q7, q4, hb1, hown⟩ := HQ.out
  have hm := HI.out.2.2.2.1
  refine ⟨q7, q6, .inl ⟨rfl, ra, rc, by rw [← hm]; exact q4, by rw [← hm]; exact q1, q5, ?_, _, rfl, ?_⟩⟩
  · have := HI.out.2.2.2.2.2.2.2.2.2.2.2.2
    rw [agSize_cons, agSize_cons]; simp only; omega
  · have hbX := HI.out.2.2.2.2.2.2.2.2.2.2.1
    have hz := HI.out.2.1
    have hzl := lt_of_heap hz
    have hne : w.heap.size + 1 ≠ l := fun e => by
     have h9 := HX.out.2.2.2.2.1
     rw [← e, hz] at h9; cases h9; have h8 := HX.out.2.2.2.2.2; cases h8
    rw [Below.heap_setCell _ _ _ _ (show w.heap.size + 1 ≠ b from fun e => hbX.2 (Or.inr (Or.inl e.symm))), hb1.block _ (by rw [HX.out.2.2.1]; exact hzl), HX.out.2.2.2.1 _ hne]
    exact hz
end Go.Proofs.Ytonapijgfalpaaa
namespace Go.Proofs.Ytonapijgfalpaaa
open Go.RowKit
def allocs (w : World) (os : List Obj) : World := os.foldl (fun w o => w.alloc o) w
theorem allocs_size : ∀ (os : List Obj) (w : World), (allocs w os).heap.size = w.heap.size + os.length
 | [], _ => rfl
 | o :: os, w => by
   show (allocs (w.alloc o) os).heap.size = _
   rw [allocs_size os, World.size_alloc, List.length_cons]; omega
theorem allocs_below : ∀ (os : List Obj) (w : World), Below w.heap.size w (allocs w os)
 | [], w => Below.refl _ _
 | o :: os, w => ((Below.refl _ w).alloc (Nat.le_refl _) o).trans ((allocs_below os (w.alloc o)).mono (by simp))
theorem allocs_at : ∀ (os : List Obj) (w : World) (i : Nat) (o : Obj), os[i]? = some o → (allocs w os).heap[w.heap.size + i]? = some o
 | [], _, _, _, h => by simp at h
 | o :: os, w, 0, o', h => by
   simp at h; subst h
   show (allocs (w.alloc o) os).heap[w.heap.size]? = _
   rw [(allocs_below os (w.alloc o)).block _ (by simp)]; exact World.alloc_heap_new w o
 | o :: os, w, i + 1, o', h => by
   have := allocs_at os (w.alloc o) i o' (by simpa using h)
   rw [World.size_alloc] at this
   show (allocs (w.alloc o) os).heap[w.heap.size + (i + 1)]? = _
   rw [show w.heap.size + (i + 1) = w.heap.size + 1 + i by omega]; exact this
theorem Try.infoSp : (Try.prog.info? 51).map (fun i => (i.size, i.bytes, i.zero.map (fun z => z.cells.size))) = some (5, 64, some 5) := by kernel_rfl
def Grew (w w' : World) (rv rv' : Value) : Prop := w.grownBy w' rv.ownBlock ∧ (rv'.ownBlock = rv.ownBlock ∨ ∀ g, rv'.ownBlock = some g → w.heap.size < g)
theorem Grew.refl (w : World) (rv : Value) : Grew w w rv rv := ⟨⟨rfl, rfl, rfl, Nat.le_refl _, fun _ _ _ => rfl⟩, Or.inl rfl⟩
theorem Grew.trans {w wr w2 : World} {rv l l2 : Value} (h : Grew w wr rv l) (h2 : Grew wr w2 l l2) : Grew w w2 rv l2 := by
 have hs := h.1.size
 refine ⟨⟨h2.1.os.trans h.1.os, h2.1.tape.trans h.1.tape, h2.1.output.trans h.1.output, Nat.le_trans hs h2.1.size, fun k hk hn => ?_⟩, ?_⟩
 · rw [h2.1.block k (by omega) (fun e => ?_), h.1.block k hk hn]
   rcases h.2 with h' | h'
   · exact hn (e.trans h')
   · have := h' k e.symm; omega
 · rcases h2.2 with h' | h'
   · rw [h']; exact h.2
   · exact Or.inr fun g hg => by have := h' g hg; omega
theorem Grew.box {w : World} {o : Obj} (rv : Value) : Grew w (w.alloc o) rv rv := ⟨⟨rfl, rfl, rfl, by simp, fun k hk _ => Below.heap_alloc w o k hk⟩, Or.inl rfl⟩
theorem Grew.first {w w1 : World} {o1 o2 : Obj} {rv : Value} {gg len cap : Nat} (h : ((w.alloc o1).alloc o2).grownBy w1 rv.ownBlock) (hat : rv.ownBlock = some gg ∨ gg = w.heap.size + 1 + 1) : Grew w w1 rv (.slice (some ⟨gg, 0, none⟩) len cap) :=
 ⟨⟨h.os, h.tape, h.output, by have := h.size; simp at this; omega, fun k hk hn => by rw [h.block k (by simp; omega) hn, Below.heap_alloc _ _ _ (by simp; omega), Below.heap_alloc _ _ _ hk]⟩,
  hat.elim (fun e => Or.inl (by rw [e]; rfl)) (fun e => Or.inr fun g hg => by simp only [Value.ownBlock, Option.some.injEq] at hg; omega)⟩
def SameC (t u : Tr) (w : World) (e : Ending) (w' : World) : Prop := e = .returned (.bool (sameT t u)) ∧ Below w.heap.size w w'
theorem SameC.mk {t u : Tr} {w w' : World} {b : Bool} (h : sameT t u = b) (hb : Below w.heap.size w w') : SameC t u w (.returned (.bool b)) w' := ⟨by rw [h], hb⟩
theorem two_boxes (w : World) (o o' : Obj) : Below w.heap.size w ((w.alloc o).alloc o') := ((Below.refl _ _).alloc (Nat.le_refl _) _).alloc (by simp) _
set_option maxRecDepth 100000 in
set_option maxHeartbeats 1000000 in
theorem same_not (w : World) (id1 kd1 id2 kd2 : Int) (tx1 tx2 : ByteArray) (a1 a2 : Option Addr) (len1 cap1 len2 cap2 : Nat) (t u : Tr) (hs : sameT t u = false) (hd : ¬ (id1 = id2 ∧ kd1 = kd2 ∧ tx1.toList = tx2.toList ∧ len1 = len2)) :
 Calls Try.prog 30 #[.agg #[.int .i64 id1, .int .i64 kd1, .string tx1, .slice a1 len1 cap1], .agg #[.int .i64 id2, .int .i64 kd2, .string tx2, .slice a2 len2 cap2]] w (SameC t u w) := by
 have HS := Lib.hid hs
 clear hs
 by_cases h1 : id1 = id2
 · by_cases h2 : kd1 = kd2
   · by_cases h3 : tx1.toList = tx2.toList
     · have h4 : ¬ len1 = len2 := fun h => hd ⟨h1, h2, h3, h⟩
       clear hd
       subst h1; subst h2
       go_enter Try.func30, Try.ntmps30
       go_wp2_with fail
       go_ret
       exact SameC.mk HS.out (two_boxes _ _ _)
     · clear hd
       subst h1; subst h2
       go_enter Try.func30, Try.ntmps30
       go_wp2_with fail
       go_ret
       exact SameC.mk HS.out (two_boxes _ _ _)
   · clear hd
     subst h1
     go_enter Try.func30, Try.ntmps30
     go_wp2_with fail
     go_ret
     exact SameC.mk HS.out (two_boxes _ _ _)
 · clear hd
   go_enter Try.func30, Try.ntmps30
   go_wp2_with fail
   go_ret
   exact SameC.mk HS.out (two_boxes _ _ _)
def SameRound (w : World) (c1 c2 : Array Value) (len : Nat) (f g : Fo) (i : Value) (wr : World) : Prop :=
 ∃ k : Nat, k ≤ len ∧ i = .int .i64 k ∧ wr.heap[w.heap.size]? = some (.cells c1 24 (0, 0)) ∧ wr.heap[w.heap.size + 1]? = some (.cells c2 24 (0, 0)) ∧ Below w.heap.size w wr ∧ sameF f g = sameF (foDrop k f) (foDrop k g)
set_option maxRecDepth 100000 in
set_option maxHeartbeats 1000000 in
theorem same_any : ∀ (n : Nat) (w : World) (S1 S2 : Nat → Prop) (v1 v2 : Value) (t u : Tr), foSize t.kids < n → foLen t.kids ≤ 9223372036854775807 ∧ foFit t.kids → (∀ k, S1 k → k < w.heap.size) → (∀ k, S2 k → k < w.heap.size) → TrAt w S1 v1 t → TrAt w S2 v2 u →
 Calls Try.prog 30 #[v1, v2] w (SameC t u w) := by
 intro n
 induction n with
 | zero => intro w S1 S2 v1 v2 t u h; omega
 | succ n ih =>
   intro w S1 S2 v1 v2 t u hn hm hS1 hS2 hv1 hv2
   obtain ⟨ka1, cap1, rfl, _, hk1⟩ := hv1
   obtain ⟨ka2, cap2, rfl, _, hk2⟩ := hv2
   obtain ⟨id1, kd1, tx1, ks1⟩ := t
   obtain ⟨id2, kd2, tx2, ks2⟩ := u
   simp only at hk1 hk2 hn hm
   simp only
   by_cases hd : id1 = id2 ∧ kd1 = kd2 ∧ tx1.toList = tx2.toList ∧ foLen ks1 = foLen ks2
   · obtain ⟨rfl, rfl, h3, h4⟩ := hd
     have hsame : sameT ⟨id1, kd1, tx1, ks1⟩ ⟨id1, kd1, tx2, ks2⟩ = sameF ks1 ks2 := by simp [sameT, sameK, h3, h4]
     obtain ⟨len, hlen⟩ : ∃ len, len = foLen ks1 := ⟨_, rfl⟩
     rw [← h4, ← hlen]
     have HLEN := Lib.hid (And.intro hlen (hlen.trans h4))
     have HK := Lib.hid (And.intro hk1 hk2)
     have HS := Lib.hid hsame
     have hlen6 : len ≤ 9223372036854775807 := by rw [hlen]; exact hm.1
     have HN := Lib.hid (And.intro hn hm)
     have HSS := Lib.hid (And.intro hS1 hS2)
     have HIH := Lib.hid ih
     clear hlen h4 hk1 hk2 hsame hn hm hS1 hS2 ih
     go_enter Try.func30, Try.ntmps30
     go_wp2_with fail
     go_loopw [5] (fun i wr => SameRound w #[.int .i64 id1, .int .i64 kd1, .string tx1, .slice ka1 len cap1] #[.int .i64 id1, .int .i64 kd1, .string tx2, .slice ka2 len cap2] len ks1 ks2 i wr) (fun i _ => len - (intOf i).toNat)
     case atStart =>
      exact ⟨0, Nat.zero_le _, rfl, by rw [Below.heap_alloc _ _ _ (by simp)]; exact heap_alloc_new w _, by have := heap_alloc_new (w.alloc (.cells #[.int .i64 id1, .int .i64 kd1, .string tx1, .slice ka1 len cap1] 24)) (.cells #[.int .i64 id1, .int .i64 kd1, .string tx2, .slice ka2 len cap2] 24); simpa using this, two_boxes _ _ _, rfl⟩
     case round =>
      obtain ⟨k, hk, rfl, hb1, hb2, hbel, hsf⟩ := hrel
      have p1 : wr.cell? ⟨w.heap.size, 3, none⟩ = some (.slice ka1 len cap1) := by rw [cell_of_row wr _ 3 _ _ _ hb1]; rfl
      have p2 : wr.cell? ⟨w.heap.size + 1, 3, none⟩ = some (.slice ka2 len cap2) := by rw [cell_of_row wr _ 3 _ _ _ hb2]; rfl
      have HSF := Lib.hid hsf
      have HB := Lib.hid (And.intro hb1 (And.intro hb2 hbel))
      clear hb1 hb2 hbel hsf
      by_cases hlt : k < len
      · obtain ⟨W, hW⟩ : ∃ W, W = wr.drew := ⟨_, rfl⟩
        have hW0 : Below w.heap.size w W := by rw [hW]; exact below_drewN HB.out.2.2 1
        have hsz : w.heap.size ≤ W.heap.size := hW0.size
        have q1 : W.cell? ⟨w.heap.size, 3, none⟩ = some (.slice ka1 len cap1) := by rw [hW]; exact p1
        have q2 : W.cell? ⟨w.heap.size + 1, 3, none⟩ = some (.slice ka2 len cap2) := by rw [hW]; exact p2
        have hk1 := HK.out.1.below hW0 HSS.out.1
        have hk2 := HK.out.2.below hW0 HSS.out.2
        obtain ⟨b0, o0, ⟨ki, kk, kt⟩, l, r, hd1, b, off, a1, n1, rfl, hSb, c0, c1, c2, c3, hcp1, hl1⟩ := hk1.at k (by rw [← HLEN.out.1]; exact hlt)
        obtain ⟨b0', o0', ⟨ki', kk', kt'⟩, l', r', hd2, b', off', a2, n2, rfl, hSb', d0, d1, d2, d3, hcp2, hl2⟩ := hk2.at k (by rw [← HLEN.out.2]; exact hlt)
        obtain ⟨_, _, _, _, _, e1, e2, hsz1, _⟩ := foDrop_node k ks1 (by rw [← HLEN.out.1]; exact hlt)
        rw [hd1] at e1; cases e1
        obtain ⟨_, _, _, _, _, e1, e2', _, _⟩ := foDrop_node k ks2 (by rw [← HLEN.out.2]; exact hlt)
        rw [hd2] at e1; cases e1
        have hs1 : sameF ks1 ks2 = (sameT ⟨ki, kk, kt, l⟩ ⟨ki', kk', kt', l'⟩ && sameF (foDrop (k + 1) ks1) (foDrop (k + 1) ks2)) := by rw [HSF.out, hd1, hd2, e2, e2']; rfl
        have hcall := HIH.out W S1 S2 (.agg #[.int .i64 ki, .int .i64 kk, .string kt, .slice a1 (foLen l) n1]) (.agg #[.int .i64 ki', .int .i64 kk', .string kt', .slice a2 (foLen l') n2]) ⟨ki, kk, kt, l⟩ ⟨ki', kk', kt', l'⟩ (by have := HN.out.1; simp only; omega) (foFit_drop k HN.out.2.2 hd1) (fun x hx => Nat.lt_of_lt_of_le (HSS.out.1 x hx) hsz) (fun x hx => Nat.lt_of_lt_of_le (HSS.out.2 x hx) hsz) ⟨a1, n1, rfl, hcp1, hl1⟩ ⟨a2, n2, rfl, hcp2, hl2⟩
        obtain ⟨bb, hbb⟩ : ∃ bb, bb = sameT ⟨ki, kk, kt, l⟩ ⟨ki', kk', kt', l'⟩ := ⟨_, rfl⟩
        obtain ⟨m1, hm1⟩ : ∃ m, m = foLen l := ⟨_, rfl⟩
        obtain ⟨m2, hm2⟩ : ∃ m, m = foLen l' := ⟨_, rfl⟩
        rw [← hm1, ← hm2] at hcall
        rw [← hm1] at c3
        rw [← hm2] at d3
        rw [← hbb] at hs1
        simp only at c0 c1 c2 d0 d1 d2
        have HC := Lib.hid hcall
        have HS1 := Lib.hid hs1
        have HBB := Lib.hid hbb
        have HW := Lib.hid hW
        have HW0 := Lib.hid hW0
        have HBW := Lib.hid (show W.heap[w.heap.size]? = some (.cells #[.int .i64 id1, .int .i64 kd1, .string tx1, .slice (some ⟨b, off, none⟩) len cap1] 24 (0, 0)) ∧ W.heap[w.heap.size + 1]? = some (.cells #[.int .i64 id1, .int .i64 kd1, .string tx2, .slice (some ⟨b', off', none⟩) len cap2] 24 (0, 0)) by rw [hW]; exact ⟨HB.out.1, HB.out.2.1⟩)
        have hkl : (k : Int) < (len : Int) := by omega
        have hlt2 : w.heap.size + 1 < W.heap.size := lt_of_some HBW.out.2
        clear hk1 hk2 hd1 hd2 e2 e2' hs1 hcall hbb hm1 hm2 hW hW0 hsz hl1 hl2 hcp1 hcp2 hsz1 hSb hSb'
        go_wp2_with fail
        have hdr : ({ heap := wr.heap, tape := wr.tape, drawn := wr.drawn + 1, os := wr.os, output := wr.output } : World) = W := HW.out.symm
        refine wp_region_still_tail 10 (by kernel_rfl) (by kernel_rfl) ?_
        simp only [List.take_succ_cons, List.take_zero, List.drop_succ_cons, List.drop_zero]
        rw [hdr]
        clear hdr
        repeat still_step
        try refine wpStill_nil ?_
        cases bb
        · go_wp2_with (go_at_call 30; refine HC.out.mono ?_; rintro e w2 ⟨rfl, hb2⟩; rw [← HBB.out]; have HB2 := Lib.hid hb2; clear hb2)
          go_ret
          exact SameC.mk (by rw [HS.out, HS1.out]; rfl) (HW0.out.trans (HB2.out.mono (Nat.le_of_lt (Nat.lt_of_succ_lt hlt2))))
        · go_wp2_with (go_at_call 30; refine HC.out.mono ?_; rintro e w2 ⟨rfl, hb2⟩; rw [← HBB.out]; have HB2 := Lib.hid hb2; clear hb2)
          exact ⟨⟨k + 1, by omega, by go_num, (HB2.out.block _ (Nat.lt_of_succ_lt hlt2)).trans HBW.out.1, (HB2.out.block _ hlt2).trans HBW.out.2, HW0.out.trans (HB2.out.mono (Nat.le_of_lt (Nat.lt_of_succ_lt hlt2))), by rw [HS1.out]; rfl⟩, by simp [intOf]; omega⟩
      · have hkk : k = len := by omega
        have hs := HSF.out
        rw [foDrop_nil k _ (by rw [← HLEN.out.1]; omega), foDrop_nil k _ (by rw [← HLEN.out.2]; omega)] at hs
        have HR := Lib.hid (HS.out.trans hs)
        clear hs hkk
        go_wp2_with fail
        go_ret
        exact SameC.mk HR.out HB.out.2.2
   · refine same_not w id1 kd1 id2 kd2 tx1 tx2 ka1 ka2 _ _ _ _ _ _ ?_ hd
     simp only [sameT, sameK]
     simp
     intro h1 h2 h3 h4
     exact absurd ⟨h1, h2, h3, h4⟩ hd
end Go.Proofs.Ytonapijgfalpaaa
