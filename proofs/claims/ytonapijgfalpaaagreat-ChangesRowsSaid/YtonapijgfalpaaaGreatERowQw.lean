/-
  .
-/
import Derived.Test.YtonapijgfalpaaaGreatECopyQw
import Derived.Deep.AppendLies
import Derived.Test.YtonapijgfalpaaaGreatECountNQw
import Derived.Test.YtonapijgfalpaaaGreatHRangeQw
import Derived.Test.YtonapijgfalpaaaGreatJPgQw
set_option maxRecDepth 100000
set_option maxHeartbeats 40000000
set_option linter.unusedVariables false
set_option linter.unusedSimpArgs false
namespace Go.Proofs.YtonapijgfalpaaaGreat
open Go.RowKit Go.Shelf
attribute [local go_sem] Oper.semAt_some
def zfC (w : World) (S : Nat → Prop) (t : Tr) (e : Ending) (w' : World) : Prop := ∃ v, e = .returned v ∧ zL w' (fun x => zZ w' x ∧ (S x ∨ w.heap.size ≤ x)) v t ∧ Below w.heap.size w w'
def exc (w : World) (S : Nat → Prop) : Nat → Prop := fun x => x = w.heap.size + 1 ∨ (x < w.heap.size ∧ ¬ S x)
theorem zd0 (w : World) (cs zs : Array Value) (v : Value) :
 ((((w.alloc (.cells cs 37)).alloc (.cells zs 37)).alloc (.cells cs 37)).alloc (.cells #[v] 35)).heap.size = w.heap.size + 4 ∧
 Below w.heap.size w ((((w.alloc (.cells cs 37)).alloc (.cells zs 37)).alloc (.cells cs 37)).alloc (.cells #[v] 35)) ∧
 ((((w.alloc (.cells cs 37)).alloc (.cells zs 37)).alloc (.cells cs 37)).alloc (.cells #[v] 35)).heap[w.heap.size + 1]? = some (.cells zs 37 (0, 0)) ∧
 ((((w.alloc (.cells cs 37)).alloc (.cells zs 37)).alloc (.cells cs 37)).alloc (.cells #[v] 35)).heap[w.heap.size + 1 + 1]? = some (.cells cs 37 (0, 0)) ∧
 ((((w.alloc (.cells cs 37)).alloc (.cells zs 37)).alloc (.cells cs 37)).alloc (.cells #[v] 35)).heap[w.heap.size + 1 + 1 + 1]? = some (.cells #[v] 35 (0, 0)) := by
 refine ⟨by simp, ?_, ?_, ?_, ?_⟩
 · exact ((((Below.refl _ w).alloc (Nat.le_refl _) _).alloc (by simp only [World.size_alloc]; omega) _).alloc (by simp only [World.size_alloc]; omega) _).alloc (by simp only [World.size_alloc]; omega) _
 · rw [Below.heap_alloc _ _ _ (by simp only [World.size_alloc]; omega), Below.heap_alloc _ _ _ (by simp only [World.size_alloc]; omega)]
   have := heap_alloc_new (w.alloc (.cells cs 37)) (.cells zs 37)
   rw [World.size_alloc] at this; exact this
 · rw [Below.heap_alloc _ _ _ (by simp only [World.size_alloc]; omega)]
   have := heap_alloc_new ((w.alloc (.cells cs 37)).alloc (.cells zs 37)) (.cells cs 37)
   rw [World.size_alloc, World.size_alloc] at this; exact this
 · have := heap_alloc_new (((w.alloc (.cells cs 37)).alloc (.cells zs 37)).alloc (.cells cs 37)) (.cells #[v] 35)
   rw [World.size_alloc, World.size_alloc, World.size_alloc] at this; exact this
def zgz (w W : World) (S : Nat → Prop) (t : Tr) (T : Nat → Prop) (A : List Seg) (V : World) : Prop := jR w W.heap.size (w.heap.size + 1 + 1) (exc w S) t T A V ∧ zT A ≤ 500000 ∧ ∃ zs : Array Value, zs = #[.int .i64 0, .int .i64 0, .string ⟨#[]⟩, .slice none 0 0] ∧ V.heap[w.heap.size + 1]? = some (.cells zs 37 (0, 0))
theorem yO {P : Program} {fn : Func} {p : Tmp} {ty : TypeId} (h : fn.results = #[.cell p ty]) (tmps : Array Value) (w : World) (g : Nat) (t : TypeId) (cs : Array Value) (fr : Nat × Nat) (d : TypeDesc)
 (hp : tmps.getD p undef = .pointer (some ⟨g, 0, none⟩)) (hg : w.heap[g]? = some (.cells cs t fr)) (hu : P.underlying ty = some d) (hd : (match d with | .struct _ | .array _ _ => true | _ => false) = true) (hi : (P.info? ty).map (·.size) = some cs.size) :
 (results fn tmps).run P w = .ok (.agg cs) w := by
 have hp' : tmps[p]?.getD undef = .pointer (some ⟨g, 0, none⟩) := by simpa using hp
 simp [results, h, hp', asAddr, run_loadVar_row w g t ty cs fr d hg hu hd hi]
theorem zea {w V : World} {S : Nat → Prop} {t : Tr} {B RB D : Nat} {T : Nat → Prop} {ra : Option Addr} {rc : Nat} (h : jR w B RB (exc w S) t T [] V) (hk : zF V (XT (ex T (exc w S)) V) t.kids ra) (hc : zb t.kids ≤ rc)
 (hz : V.heap[w.heap.size + 1]? = some (.cells #[.int .i64 0, .int .i64 0, .string ⟨#[]⟩, .slice none 0 0] 37 (0, 0))) (hK : V.heap[D]? = some (.deferred (some []))) (hD : w.heap.size + 1 < D) :
 ((((V.setCell ⟨w.heap.size + 1, 0, none⟩ (.int .i64 t.id)).setCell ⟨w.heap.size + 1, 1, none⟩ (.int .i64 t.kind)).setCell ⟨w.heap.size + 1, 2, none⟩ (.string t.text)).setCell ⟨w.heap.size + 1, 3, none⟩ (.slice ra (zb t.kids) rc)).heap[D]? = some (.deferred (some [])) ∧
 (((((V.setCell ⟨w.heap.size + 1, 0, none⟩ (.int .i64 t.id)).setCell ⟨w.heap.size + 1, 1, none⟩ (.int .i64 t.kind)).setCell ⟨w.heap.size + 1, 2, none⟩ (.string t.text)).setCell ⟨w.heap.size + 1, 3, none⟩ (.slice ra (zb t.kids) rc)).putObj D (.deferred none)).heap[w.heap.size + 1]? = some (.cells #[.int .i64 t.id, .int .i64 t.kind, .string t.text, .slice ra (zb t.kids) rc] 37 (0, 0)) ∧
 zfC w S t (.returned (.agg #[.int .i64 t.id, .int .i64 t.kind, .string t.text, .slice ra (zb t.kids) rc])) ((((((V.setCell ⟨w.heap.size + 1, 0, none⟩ (.int .i64 t.id)).setCell ⟨w.heap.size + 1, 1, none⟩ (.int .i64 t.kind)).setCell ⟨w.heap.size + 1, 2, none⟩ (.string t.text)).setCell ⟨w.heap.size + 1, 3, none⟩ (.slice ra (zb t.kids) rc)).putObj D (.deferred none))) := by
 have h1 := heap_setCell_same V (w.heap.size + 1) 0 _ _ (.int .i64 t.id) hz
 have h2 := heap_setCell_same _ (w.heap.size + 1) 1 _ _ (.int .i64 t.kind) h1
 have h3 := heap_setCell_same _ (w.heap.size + 1) 2 _ _ (.string t.text) h2
 have h4 := heap_setCell_same _ (w.heap.size + 1) 3 _ _ (.slice ra (zb t.kids) rc) h3
 have hb : ∀ x, x ≠ w.heap.size + 1 → ((((V.setCell ⟨w.heap.size + 1, 0, none⟩ (.int .i64 t.id)).setCell ⟨w.heap.size + 1, 1, none⟩ (.int .i64 t.kind)).setCell ⟨w.heap.size + 1, 2, none⟩ (.string t.text)).setCell ⟨w.heap.size + 1, 3, none⟩ (.slice ra (zb t.kids) rc)).heap[x]? = V.heap[x]? := fun x hx => by
  rw [Below.heap_setCell _ _ _ _ hx, Below.heap_setCell _ _ _ _ hx, Below.heap_setCell _ _ _ _ hx, Below.heap_setCell _ _ _ _ hx]
 have hk1 := (hb D (by omega)).trans hK
 have hall : ∀ x, x ≠ w.heap.size + 1 → x ≠ D → (((((V.setCell ⟨w.heap.size + 1, 0, none⟩ (.int .i64 t.id)).setCell ⟨w.heap.size + 1, 1, none⟩ (.int .i64 t.kind)).setCell ⟨w.heap.size + 1, 2, none⟩ (.string t.text)).setCell ⟨w.heap.size + 1, 3, none⟩ (.slice ra (zb t.kids) rc)).putObj D (.deferred none)).heap[x]? = V.heap[x]? := fun x hx hd => (World.putObj_heap_other hd).trans (hb x hx)
 refine ⟨hk1, ?_, _, rfl, ⟨ra, rc, rfl, hc, hk.kept fun x hx => ?_⟩, ?_⟩
 · rw [World.putObj_heap_other (by omega), h4]; simp
 · obtain ⟨⟨cs, ty, fr, hcx⟩, hn⟩ := hx
   have hxe : x ≠ w.heap.size + 1 := fun e => hn (Or.inr (Or.inl e))
   have hxD : x ≠ D := fun e => by rw [e, hK] at hcx; cases hcx
   refine ⟨⟨⟨cs, ty, fr, (hall x hxe hxD).trans hcx⟩, ?_⟩, hall x hxe hxD⟩
   by_cases hxw : x < w.heap.size
   · by_cases hs : S x
     · exact Or.inl hs
     · exact absurd (Or.inr (Or.inr ⟨hxw, hs⟩)) hn
   · exact Or.inr (by omega)
 · have hh := (((h.below.setCell (p := ⟨w.heap.size + 1, 0, none⟩) (by simp) (.int .i64 t.id)).setCell (p := ⟨w.heap.size + 1, 1, none⟩) (by simp) (.int .i64 t.kind)).setCell (p := ⟨w.heap.size + 1, 2, none⟩) (by simp) (.string t.text)).setCell (p := ⟨w.heap.size + 1, 3, none⟩) (by simp) (.slice ra (zb t.kids) rc)
   revert hh hk1
   generalize ((((V.setCell ⟨w.heap.size + 1, 0, none⟩ (.int .i64 t.id)).setCell ⟨w.heap.size + 1, 1, none⟩ (.int .i64 t.kind)).setCell ⟨w.heap.size + 1, 2, none⟩ (.string t.text)).setCell ⟨w.heap.size + 1, 3, none⟩ (.slice ra (zb t.kids) rc)) = V4
   intro hk1 hh
   exact ⟨hh.os, hh.tape, hh.output, by have := hh.size; simp [World.putObj]; exact this, fun x hx => (World.putObj_heap_other (by omega)).trans (hh.block x hx)⟩
theorem j5 (w : World) (S : Nat → Prop) (nv : Value) (t : Tr) (hS : ∀ x, S x → zZ w x) (ht : zL w S nv t) (hsz : ze t.kids + 1 ≤ 500000) : Calls Tryz.prog 25 #[nv] w (zfC w S t) := by
 obtain ⟨ka, cap, rfl, hcap, hk⟩ := ht
 obtain ⟨n, hn⟩ : ∃ n, n = zb t.kids := ⟨_, rfl⟩
 rw [← hn]
 obtain ⟨k1, k2, k3, k4, k5⟩ := zd0 w #[.int .i64 t.id, .int .i64 t.kind, .string t.text, .slice ka n cap] #[.int .i64 0, .int .i64 0, .string ⟨#[]⟩, .slice none 0 0] (.slice (some ⟨w.heap.size + 1 + 1, 0, none⟩) 1 1)
 have HW := hH (aN k1 (aN k2 (aN k3 (aN k4 k5))))
 have H := hH (aN hS (aN hcap (aN hk (aN hsz hn))))
 clear hS hcap hk hsz hn k1 k2 k3 k4 k5
 refine (callsIn_wide (n := 6)).1 ?_
 refine callsIn_of_wp_marks Tryz.func25 rfl trivial ?_ rfl
 simp only [Tryz.ntmps25, List.size_toArray, List.length_cons, List.length_nil, Nat.reduceAdd, Nat.reduceSub, Array.replicate_succ, Array.replicate_zero, List.push_toArray, List.append_toArray, List.nil_append, List.cons_append]
 gi_wp2_with (refine ⟨trivial, ?_⟩; gi_at_call 54; refine (callsIn_wide.2 (J6 _ _ _ _)).mono ?_; rintro e w' ⟨rfl, rfl⟩)
 generalize hW : World.alloc _ _ = W at HW ⊢
 clear hW
 obtain ⟨k1, k2, k3, k4, k5⟩ := HW.out
 have hSW : ∀ x, S x → W.heap[x]? = w.heap[x]? := fun x hx => k2.block x (H.out.1 x hx).lt
 have hroot := kF hSW H.out.2.1 H.out.2.2.1 (by rw [← H.out.2.2.2.2]; exact k4)
 have hroot2 : zF W (XT (ex (fun _ => False) (exc w S)) W) (zm t) (some ⟨w.heap.size + 1 + 1, 0, none⟩) := hroot.kept fun x hx => ⟨⟨by
  rcases hx with hx | hx
  · obtain ⟨cs, ty, fr, hc⟩ := H.out.1 x hx
    exact ⟨cs, ty, fr, (hSW x hx).trans hc⟩
  · rw [hx]; exact ⟨_, _, _, k4⟩, fun h => by
    rcases h with h | h | h
    · exact h
    · rcases hx with hx | hx
      · have := (H.out.1 x hx).lt; omega
      · omega
    · rcases hx with hx | hx
      · exact h.2 hx
      · omega⟩, rfl⟩
 have hn4 : w.heap.size + 4 = W.heap.size := k1.symm
 refine YJ (by omega) rfl ⟨1, some ⟨w.heap.size + 1 + 1, 0, none⟩, 1, zm t⟩ rfl (by simp [zm]) (by simp [zm, zb]) (by rw [zI]; exact H.out.2.2.2.1) (by rw [cell_of_row _ _ 0 _ _ _ k5]; rfl) rfl
  (zgz w W S t) (fun _ _ _ => False) ?turn (fun h _ _ => h.elim) ?empty ?start ?round ?done ?stop
 case turn =>
  rintro T T' A V V' ⟨h1, h9, zs, hz, h2⟩ ht hw
  refine ⟨h1.turn (by omega) ht hw, h9, zs, hz, (ht.block _ (lt_of_heap h2) (fun h => ?_)).trans h2⟩
  rcases h with h | h
  · have := h1.hT _ h; omega
  · omega
 case empty =>
  rintro T A B d c a V ⟨h1, h9, h2⟩
  exact ⟨⟨h1.below, h1.hT, h1.big, h1.exl, h1.root, fun s hs => h1.rows s (by rcases List.mem_append.1 hs with hs | hs; exact List.mem_append_left _ hs; exact List.mem_append_right _ (List.mem_cons_of_mem _ hs))⟩, by rw [yg, zR] at h9; rw [yg]; omega, h2⟩
 case start =>
  refine ⟨⟨k2, fun _ h => h.elim, Nat.le_refl _, fun x hx => by rcases hx with hx | hx <;> omega, hroot2, fun s hs => ?_⟩, by rw [zR, yR, zI]; have := H.out.2.2.2.1; omega, _, rfl, k3⟩
  rw [List.mem_singleton] at hs
  subst hs
  exact ⟨hroot2, fun _ => ⟨_, _, rfl, by omega, _, _, k4⟩⟩
 case stop => exact fun _ _ _ _ _ h _ => h.elim
 case done =>
  rintro D T V hD ⟨hI, _, zs, rfl, hz⟩ hK
  obtain ⟨b, off, ra, rc, e1, hb, c0, c1, c2, c3, c4, hkk, _⟩ := hI.root
  cases e1
  obtain ⟨m, hm⟩ : ∃ m, m = zb t.kids := ⟨_, rfl⟩
  rw [← hm] at c3 c4
  simp only [Nat.zero_add] at c0 c1 c2 c3
  have z0 : V.cell? ⟨w.heap.size + 1, 0, none⟩ = some (.int .i64 0) := by rw [cell_of_row _ _ 0 _ _ _ hz]; rfl
  have z1 : V.cell? ⟨w.heap.size + 1, 1, none⟩ = some (.int .i64 0) := by rw [cell_of_row _ _ 1 _ _ _ hz]; rfl
  have z2 : V.cell? ⟨w.heap.size + 1, 2, none⟩ = some (.string ⟨#[]⟩) := by rw [cell_of_row _ _ 2 _ _ _ hz]; rfl
  have z3 : V.cell? ⟨w.heap.size + 1, 3, none⟩ = some (.slice none 0 0) := by rw [cell_of_row _ _ 3 _ _ _ hz]; rfl
  have zf : ∀ j, V.frozen? ⟨w.heap.size + 1, j, none⟩ = false := fun j => frozen_of_row _ _ j _ _ hz
  have HE := hH (aN hI (aN hkk (aN hm (aN hz (aN hK (aN hD c4))))))
  clear hI hkk hm hz hK HW H k1 k2 k3 k4 k5 hSW hroot hroot2 hb c4 hD hn4
  gi_wp2
  obtain ⟨q1, q2, q3, q4, q5, q6, q7⟩ := HE.out
  have hcp := zea q1 q2 (by rw [← q3]; exact q7) q4 q5 (by have := q1.exl _ (Or.inl rfl); omega)
  rw [← q3] at hcp
  refine ⟨by simp, .inl ⟨_, _, rfl, run_takeDeferred hcp.1, ?_⟩⟩
  exact ⟨_, yO rfl _ _ (w.heap.size + 1) 37 _ _ _ rfl hcp.2.1 Tryz.underlying37 rfl (by kernel_rfl), hcp.2.2⟩
 case round =>
  rintro l hl T d c bo oo ad key k r A V hT hV ⟨hI, hag, zs, rfl, hz⟩
  obtain ⟨hf, hfree⟩ := hI.rows _ (List.mem_cons_self ..)
  simp only at hf hfree
  obtain ⟨b, off, kka, kcap, e1, hbX, c0, c1, c2, c3, c4, hkk, hrr⟩ := hf
  obtain ⟨m, hm⟩ : ∃ m, m = zb k := ⟨_, rfl⟩
  rw [← hm] at c3 c4
  obtain ⟨xs, x1, x2, x3, x4⟩ := ze6 hkk
  rw [← hm] at x1 x4
  rw [zR] at hag
  simp only [ze] at hag
  have hm6 : m ≤ 1000000 := by have := zX k; omega
  refine ⟨b, off, e1, fun K hK => ?_⟩
  have HK := hH hK
  have HI := hH (aN hI (aN hz (aN hT (aN hm (aN e1 (aN x1 (aN x2 (aN x3 (aN x4 (aN hl (aN hbX (aN hV hag))))))))))))
  clear hI hz hT hm e1 x1 x2 x3 x4 hl hbX hV hK hkk hrr c0 c1 c2 c4 hfree H hag k1 k2 k3 k4 k5 hSW hroot hroot2 hn4
  gi_wp2
  refine HK.out _ fun V1 hV1 => ?_
  clear HK
  obtain ⟨o', ev, o, ho, hoc⟩ := hV1
  have hbl : b ≠ l := fun e => by
   obtain ⟨⟨cs, ty, fr, hc⟩, _⟩ := HI.out.2.2.2.2.2.2.2.2.2.2.1
   rw [e, ho] at hc; cases hc; cases hoc
  have hV1s : ∀ x, x ≠ l → V1.heap[x]? = V.heap[x]? := fun x hx => by rw [ev]; exact World.putObj_heap_other hx
  have hsz1 : V1.heap.size = V.heap.size := by rw [ev]; simp [World.putObj]
  have hI1 : jR w W.heap.size (w.heap.size + 1 + 1) (exc w S) t T (⟨d, ad, c, .node bo oo key k r⟩ :: A) V1 := by
   refine HI.out.1.turn (by have := HW.out.1; omega) (V' := V1) (by rw [ev]; exact (yu o' ho).mono (fun x hx => Or.inr ⟨by have := HI.out.2.2.2.2.2.2.2.2.2.1; omega, by rw [hx]; exact ⟨o, ho, hoc⟩⟩)) (fun x hx => Or.inl hx)
  have c3' : V1.cell? ⟨b, off + 3, none⟩ = some (.slice kka m kcap) := (World.cell?_of_block (hV1s b hbl)).trans c3
  have hxc : ∀ ad, kka = some ad → ∀ j u, xs[j]? = some u → V1.cell? (ad.add j) = some u := fun ad he j u hj => by
   have h1 := HI.out.2.2.2.2.2.2.2.1 ad he j u hj
   refine (World.cell?_of_block (hV1s _ fun e => ?_)).trans h1
   have h2 : V.heap[(ad.add j).block]? = some o := by rw [e]; exact ho
   have h3 : V.cell? (ad.add j) = none := by
    unfold World.cell?
    rw [h2]
    cases o <;> simp_all [Obj.isCells]
   rw [h3] at h1; cases h1
  have hclone := jW V1 kka m kcap xs HI.out.2.2.2.2.2.1 HI.out.2.2.2.2.2.2.1 (by omega) hxc HI.out.2.2.2.2.2.2.2.2.1
  have hnext := fun (w1 : World) (rv : Value) hb1 hown => jR.next (w1 := w1) (rv := rv) (by have := HW.out.1; omega) (fun x hx => by rw [hsz1]; exact (HI.out.2.2.1 x hx).1) hI1 HI.out.2.2.2.1 c3' HI.out.2.2.2.2.1 HI.out.2.2.2.2.2.1 hxc hb1 hown
  have HX := hH (aN hclone (aN hnext (aN hsz1 (aN hV1s (aN ho hoc)))))
  clear hclone hnext hxc hI1 ev hV1s ho hoc hsz1 c3
  gi_wp2_with (refine ⟨trivial, ?_⟩; gi_at_call 55; refine (CallsIn.inRound l (callsIn_wide.2 HX.out.1)).mono ?_; rintro e w1 ⟨rv, rfl, hb1, hown⟩; obtain ⟨ra, rc, rfl, q1, q2, q3, q4, q5, q6, q7⟩ := HX.out.2.1 w1 rv hb1 hown; have HQ := hH (aN q1 (aN q5 (aN q6 (aN q7 (aN q4 (aN hb1 hown)))))); clear q1 q4 q5 q6 q7 hown hb1 c3')
  obtain ⟨q1, q5, q6, q7, q4, hb1, hown⟩ := HQ.out
  have hm := HI.out.2.2.2.1
  refine ⟨q7, q6, .inl ⟨rfl, ra, rc, by rw [← hm]; exact q4, by rw [← hm]; exact q1, q5, ?_, _, rfl, ?_⟩⟩
  · have := HI.out.2.2.2.2.2.2.2.2.2.2.2.2
    rw [zR, zR]; simp only; omega
  · have hbX := HI.out.2.2.2.2.2.2.2.2.2.2.1
    have hz := HI.out.2.1
    have hzl := lt_of_heap hz
    have hne : w.heap.size + 1 ≠ l := fun e => by
     have h9 := HX.out.2.2.2.2.1
     rw [← e, hz] at h9; cases h9; have h8 := HX.out.2.2.2.2.2; cases h8
    rw [Below.heap_setCell _ _ _ _ (show w.heap.size + 1 ≠ b from fun e => hbX.2 (Or.inr (Or.inl e.symm))), hb1.block _ (by rw [HX.out.2.2.1]; exact hzl), HX.out.2.2.2.1 _ hne]
    exact hz
end Go.Proofs.YtonapijgfalpaaaGreat
namespace Go.Proofs.YtonapijgfalpaaaGreat
open Go.RowKit
def zo (w : World) (os : List Obj) : World := os.foldl (fun w o => w.alloc o) w
theorem zx : ∀ (os : List Obj) (w : World), (zo w os).heap.size = w.heap.size + os.length
 | [], _ => rfl
 | o :: os, w => by
   show (zo (w.alloc o) os).heap.size = _
   rw [zx os, World.size_alloc, List.length_cons]; omega
theorem zk : ∀ (os : List Obj) (w : World), Below w.heap.size w (zo w os)
 | [], w => Below.refl _ _
 | o :: os, w => ((Below.refl _ w).alloc (Nat.le_refl _) o).trans ((zk os (w.alloc o)).mono (by simp))
theorem zg : ∀ (os : List Obj) (w : World) (i : Nat) (o : Obj), os[i]? = some o → (zo w os).heap[w.heap.size + i]? = some o
 | [], _, _, _, h => by simp at h
 | o :: os, w, 0, o', h => by
   simp at h; subst h
   show (zo (w.alloc o) os).heap[w.heap.size]? = _
   rw [(zk os (w.alloc o)).block _ (by simp)]; exact World.alloc_heap_new w o
 | o :: os, w, i + 1, o', h => by
   have := zg os (w.alloc o) i o' (by simpa using h)
   rw [World.size_alloc] at this
   show (zo (w.alloc o) os).heap[w.heap.size + (i + 1)]? = _
   rw [show w.heap.size + (i + 1) = w.heap.size + 1 + i by omega]; exact this
theorem Tryz.zf0 : (Tryz.prog.info? 76).map (fun i => (i.size, i.bytes, i.zero.map (fun z => z.cells.size))) = some (5, 64, some 5) := by kernel_rfl
def Zf (w w' : World) (rv rv' : Value) : Prop := w.grownBy w' rv.ownBlock ∧ (rv'.ownBlock = rv.ownBlock ∨ ∀ g, rv'.ownBlock = some g → w.heap.size < g)
theorem Zf.trans {w wr w2 : World} {rv l l2 : Value} (h : Zf w wr rv l) (h2 : Zf wr w2 l l2) : Zf w w2 rv l2 := by
 have hs := h.1.size
 refine ⟨⟨h2.1.os.trans h.1.os, h2.1.tape.trans h.1.tape, h2.1.output.trans h.1.output, Nat.le_trans hs h2.1.size, fun k hk hn => ?_⟩, ?_⟩
 · rw [h2.1.block k (by omega) (fun e => ?_), h.1.block k hk hn]
   rcases h.2 with h' | h'
   · exact hn (e.trans h')
   · have := h' k e.symm; omega
 · rcases h2.2 with h' | h'
   · rw [h']; exact h.2
   · exact Or.inr fun g hg => by have := h' g hg; omega
theorem Zf.box {w : World} {o : Obj} (rv : Value) : Zf w (w.alloc o) rv rv := ⟨⟨rfl, rfl, rfl, by simp, fun k hk _ => Below.heap_alloc w o k hk⟩, Or.inl rfl⟩
theorem Zf.first {w w1 : World} {o1 o2 : Obj} {rv : Value} {gg len cap : Nat} (h : ((w.alloc o1).alloc o2).grownBy w1 rv.ownBlock) (hat : rv.ownBlock = some gg ∨ gg = w.heap.size + 1 + 1) : Zf w w1 rv (.slice (some ⟨gg, 0, none⟩) len cap) :=
 ⟨⟨h.os, h.tape, h.output, by have := h.size; simp at this; omega, fun k hk hn => by rw [h.block k (by simp; omega) hn, Below.heap_alloc _ _ _ (by simp; omega), Below.heap_alloc _ _ _ hk]⟩,
  hat.elim (fun e => Or.inl (by rw [e]; rfl)) (fun e => Or.inr fun g hg => by simp only [Value.ownBlock, Option.some.injEq] at hg; omega)⟩
theorem zdj (t : Tr) : Ze (spF 1 (zm t)) = (ze t.kids : Int) + 1 := by
 rw [Ze, zS, zI]; omega
end Go.Proofs.YtonapijgfalpaaaGreat
namespace Go.Proofs.YtonapijgfalpaaaGreat
open Go.RowKit Go.Shelf
attribute [local go_sem] Oper.semAt_some
def zdR (w : World) (et : TypeId) (size : Nat) (f : Sp → List Value) (l : List Sp) (e : Ending) (w' : World) : Prop := ∃ v, e = .returned v ∧ w'.ownsRow w.heap.size et size v l.length (l.flatMap f) ∧ Below w.heap.size w w'
structure Qr (w : World) (st et ft : TypeId) (size LB OB g cap : Nat) (fv : Value) (f : Sp → List Value) (pre : List Sp) (V : World) : Prop where
 cell : V.heap[LB]? = some (.cells #[.slice (some ⟨g, 0, none⟩) pre.length cap] st (0, 0))
 of_ : V.heap[OB]? = some (.cells #[fv] ft (0, 0))
 own : V.ownsRow w.heap.size et size (.slice (some ⟨g, 0, none⟩) pre.length cap) pre.length (pre.flatMap f)
 below : Below w.heap.size w V
theorem Qr.keep {w V V' : World} {st et ft : TypeId} {size LB OB g cap : Nat} {fv : Value} {f : Sp → List Value} {pre : List Sp} (h : Qr w st et ft size LB OB g cap fv f pre V) (ho : V'.os = V.os ∧ V'.tape = V.tape ∧ V'.output = V.output ∧ V.heap.size ≤ V'.heap.size) (M : Nat) (hL : LB < M) (hO : OB < M) (hg : g < M) (hw : w.heap.size ≤ M) (hk : ∀ x, x < M → x < V.heap.size → V'.heap[x]? = V.heap[x]?) : Qr w st et ft size LB OB g cap fv f pre V' :=
 ⟨(hk _ hL (lt_of_heap h.cell)).trans h.cell, (hk _ hO (lt_of_heap h.of_)).trans h.of_, zB h.own (fun g' cur hc hg' => by cases hg'; exact hk _ hg (lt_of_heap hc)), ho.1.trans h.below.os, ho.2.1.trans h.below.tape, ho.2.2.1.trans h.below.output, Nat.le_trans h.below.size ho.2.2.2, fun x hx => (hk x (by omega) (by have := h.below.size; omega)).trans (h.below.block x hx)⟩
section
variable {n : Nat} {P : Program}
theorem Jd {ops : Array Oper} {Q : Exit → Act → World → Prop} {md : Region.Mode} {S : World → Prop} {i j : Nat} {o o' : Oper} {fuel : Nat} {listed : Array Bool} {a : Act} {w : World} (hr : Region.ready md ops listed = [i, j]) (ho : ops[i]? = some o) (ho' : ops[j]? = some o')
 (h : ∀ K : Act → World → Prop, (∀ a' w', S w' → qi n P md ops Q S fuel (listed.setIfInBounds i true) a' w' → K a' w') → if Region.wanted o (yielded ops a.tmps) = true then Oper.wpIn Fence.wide n P o a w K Q else K (a.put o.dst undef) w)
 (h' : ∀ K : Act → World → Prop, (∀ a' w', S w' → qi n P md ops Q S fuel (listed.setIfInBounds j true) a' w' → K a' w') → if Region.wanted o' (yielded ops a.tmps) = true then Oper.wpIn Fence.wide n P o' a w K Q else K (a.put o'.dst undef) w) : qi n P md ops Q S (fuel + 1) listed a w := by
 have one : ∀ (k : Nat) (o : Oper), ops[k]? = some o → (∀ K : Act → World → Prop, (∀ a' w', S w' → qi n P md ops Q S fuel (listed.setIfInBounds k true) a' w' → K a' w') → if Region.wanted o (yielded ops a.tmps) = true then Oper.wpIn Fence.wide n P o a w K Q else K (a.put o.dst undef) w) → wpOpIn Fence.wide n P ops Q k (fun a' w' => S w' ∧ qi n P md ops Q S fuel (listed.setIfInBounds k true) a' w') a w := fun k o ho h => by
  unfold wpOpIn
  rw [ho]
  have := h (fun a' w' => S w' ∧ qi n P md ops Q S fuel (listed.setIfInBounds k true) a' w') (fun a' w' h1 h2 => ⟨h1, h2⟩)
  show if Region.wanted o (yielded ops a.tmps) = true then _ else _
  split
  · rename_i hw; rw [if_pos hw] at this; exact this
  · rename_i hw; rw [if_neg hw] at this; exact ⟨fun _ _ => trivial, this⟩
 refine ⟨fun h0 => (by rw [hr] at h0; cases h0), fun k hk => ?_⟩
 rw [hr] at hk
 simp only [List.mem_cons, List.not_mem_nil, or_false] at hk
 rcases hk with rfl | rfl
 · exact one _ _ ho h
 · exact one _ _ ho' h'
theorem qP (w : World) {o : Oper} {a : Act} {K : Act → World → Prop} {Q : Exit → Act → World → Prop} (s x : Operand) (t : TypeId) (hop : o.op = Op.call { callee := Callee.builtin Builtin.append, args := #[s, x], argTypes := #[t, t] })
 (base : Nat) (e : TypeId) (i : TypeInfo) (size : Nat) (h1 : P.underlying t = some (.slice e)) (h2 : P.info? e = some i) (h4 : i.size = size)
 (g k cap : Nat) (xs : List Value) (hs : a.eval s = .slice (some ⟨g, 0, none⟩) k cap) (hown : w.ownsRow base e size (.slice (some ⟨g, 0, none⟩) k cap) k xs) (ad : Addr) (m c : Nat) (news : List Value) (hx : a.eval x = .slice (some ad) m c) (hn : news.length = m * size)
 (hc : ∀ j u, news[j]? = some u → w.cell? (ad.add j) = some u) (h1c : ∀ u ∈ news, u.oneCell' = true) (b1 : k + m ≤ cap)
 (hK : ∀ w', w'.ownsRow base e size (.slice (some ⟨g, 0, none⟩) (k + m) cap) (k + m) (xs ++ news) → w.grownBy w' (some g) → K (a.put o.dst (.slice (some ⟨g, 0, none⟩) (k + m) cap)) w') : Oper.wpIn Fence.wide n P o a w K Q := by
 obtain ⟨w', hrun, r1, r2⟩ := run_append_fits (P := P) w base t o.type e i size h1 h2 h4 g k cap xs hown ad m c news hn hc h1c b1
 unfold Oper.wpIn
 refine ⟨?_, ?_⟩
 · simp [Oper.about, hop, resolve, Target.leads, Sem.run_pure]
 · rw [Oper.semAt_plain Fence.wide _ _ (by rw [hop]; intro c hc'; cases hc')]
   simp [execOp, hop, resolve, invoke, builtin, hs, hx, hrun, Result.andThen]
   exact hK w' r1 r2
end
theorem JD {w V1 V2 w4 : World} {st et ft : TypeId} {size LB OB g cap : Nat} {fv : Value} {f : Sp → List Value} {pre : List Sp} {x : Sp} {o : Obj} (hR : Qr w st et ft size LB OB g cap fv f pre V1) (hb : Below V1.heap.size V1 V2) (hown : w4.ownsRow w.heap.size et size (.slice (some ⟨g, 0, none⟩) (pre.length + 1) cap) (pre.length + 1) (pre.flatMap f ++ f x))
 (hgr : (V2.alloc o).grownBy w4 (some g)) (hLg : LB ≠ g) (hOg : OB ≠ g) (hLO : LB ≠ OB) (hwL : w.heap.size ≤ LB) (hwg : w.heap.size ≤ g) :
 ∃ V5, V5 = w4.setCell ⟨LB, 0, none⟩ (.slice (some ⟨g, 0, none⟩) (pre.length + 1) cap) ∧ Qr w st et ft size LB OB g cap fv f (pre ++ [x]) V5 ∧ (∀ y, y < V1.heap.size → y ≠ g → y ≠ LB → V5.heap[y]? = V1.heap[y]?) ∧ V1.heap.size ≤ V5.heap.size ∧ w4.frozen? ⟨LB, 0, none⟩ = false := by
 have hs := hb.size
 have hs4 := hgr.size
 rw [World.size_alloc] at hs4
 have h4 : ∀ y, y < V1.heap.size → y ≠ g → w4.heap[y]? = V1.heap[y]? := fun y hy hg => by
  rw [hgr.block y (by rw [World.size_alloc]; omega) (by simpa using hg), Below.heap_alloc V2 _ _ (by omega), hb.block y hy]
 have h5 : ∀ y, y ≠ LB → (w4.setCell ⟨LB, 0, none⟩ (.slice (some ⟨g, 0, none⟩) (pre.length + 1) cap)).heap[y]? = w4.heap[y]? := fun y hy => Below.heap_setCell _ _ _ _ hy
 have hL4 := (h4 LB (lt_of_heap hR.cell) hLg).trans hR.cell
 have hO4 := (h4 OB (lt_of_heap hR.of_) hOg).trans hR.of_
 have hbl := hR.below
 refine ⟨_, rfl, ⟨?_, (h5 _ hLO.symm).trans hO4, ?_, ?_⟩, fun y hy h1 h2 => (h5 y h2).trans (h4 y hy h1), by simp [World.setCell]; omega, frozen_of_row _ _ 0 _ _ hL4⟩
 · rw [heap_setCell_same _ LB 0 _ _ _ hL4]; simp
 · have := zB hown (w' := w4.setCell ⟨LB, 0, none⟩ (.slice (some ⟨g, 0, none⟩) (pre.length + 1) cap)) (fun g' cur hc hg' => by cases hg'; exact h5 _ hLg.symm)
   simpa using this
 · exact ⟨hgr.os.trans (hb.os.trans hbl.os), hgr.tape.trans (hb.tape.trans hbl.tape), hgr.output.trans (hb.output.trans hbl.output), by have := hbl.size; simp [World.setCell]; omega, fun y hy => by
    have := hbl.size
    rw [h5 y (by omega), h4 y (by omega) (by omega)]; exact hbl.block y hy⟩
end Go.Proofs.YtonapijgfalpaaaGreat
namespace Go.Proofs.YtonapijgfalpaaaGreat
open Go.RowKit Go.Shelf
attribute [local go_sem] Oper.semAt_some
theorem JZ {n : Nat} {P : Program} {ops : Array Oper} {Q : Exit → Act → World → Prop} {S : World → Prop} {id : Nat} {a : Act} {w : World} (hm : P.follows .mixedOrders = true) (h : qi n P .any ops Q S ops.size (Array.replicate ops.size false) a w.drew) : (Code.region id ops true).wpIn Fence.wide n P Q a w :=
 wpIn_region_any hm (vU _ _ _ _ h)
theorem Jt {n : Nat} {P : Program} {ops : Array Oper} {Q : Exit → Act → World → Prop} {S : World → Prop} {id : Nat} {a : Act} {w : World} (hm : P.follows .mixedOrders = true) (h : qi n P .any ops (fun e a w => e = .normal ∧ Q .normal a w) S ops.size (Array.replicate ops.size false) a w.drew) : (Code.region id ops true).wpIn Fence.wide n P Q a w :=
 wpIn_mono (JZ hm h) (fun e a w h => by obtain ⟨rfl, h⟩ := h; exact h)
end Go.Proofs.YtonapijgfalpaaaGreat
