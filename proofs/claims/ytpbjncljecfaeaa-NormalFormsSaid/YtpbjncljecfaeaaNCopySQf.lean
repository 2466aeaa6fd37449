/-
  Copy: the same tree in new rows that lie apart from one another. No condition but that there are not too many nodes.
-/
import Derived.Test.YtpbjncljecfaeaaRWalkQf
import Derived.Test.YtpbjncljecfaeaaNCopyQf
import Derived.Test.YtpbjncljecfaeaaNSepIQf
namespace Go.Proofs.Ytpbjncljecfaeaa
open Go.RowKit Go.Shelf
attribute [local go_sem] Oper.semAt_some
set_option linter.unusedVariables false
set_option linter.unusedSimpArgs false

/-- The blocks of a row and of all rows below it. -/
def kidB (V : World) (f : Fo) (a : Option Addr) : List Nat := hdB 0 f a ++ rowsB V 0 f (adB a) (adO a)
theorem kidB_kept {V V' : World} {Y : Nat → Prop} {f : Fo} {a : Option Addr} (h : FoAt V Y f a) (hY : ∀ q, Y q → V'.heap[q]? = V.heap[q]?) : kidB V' f a = kidB V f a := by
  cases f with
  | nil => rfl
  | node x y k l r =>
    obtain ⟨b, o, e, hb⟩ := fo_blk h (by simp)
    subst e
    rw [kidB, kidB, show adB (some ⟨b, o, none⟩) = b from rfl, show adO (some ⟨b, o, none⟩) = o from rfl, rowsB_kept h (fun q hq j => kidsA_kept (hY q hq) j)]
theorem fo_here {V : World} {X : Nat → Prop} {f : Fo} {b o : Nat} (h : FoAt V X f (some ⟨b, o, none⟩)) (hf : f ≠ .nil) : X b := by
  obtain ⟨b1, o1, e, hb⟩ := fo_blk h hf
  cases e; exact hb
theorem root_not (t : Tr) : rootF t ≠ .nil := by simp [rootF]
theorem sep_start {w W : World} {S : Nat → Prop} {t : Tr} {n0 RB cap : Nat} {ka : Option Addr} (hc : W.heap[RB]? = some (.cells #[.int .i64 t.id, .int .i64 t.kind, .string t.text, .slice ka (foLen t.kids) cap] 25 (0, 0))) (hk : FoAt W S t.kids ka) (hS : ∀ q, S q → q < n0) (d c : Nat) : SepI W n0 RB t [⟨d, some ⟨RB, 0, none⟩, c, rootF t⟩] := by
  have c3 : W.cell? ⟨RB, 0 + 3, none⟩ = some (.slice ka (foLen t.kids) cap) := by rw [cell_of_row _ _ _ _ _ _ hc]; rfl
  have e : rowsB W n0 (rootF t) RB 0 = [] := by
    rw [rootF, rowsB, kidsA_of c3]
    obtain ⟨kf, hkf⟩ : ∃ kf, kf = t.kids := ⟨_, rfl⟩
    rw [← hkf] at hk ⊢
    cases kf with
    | nil => rfl
    | node x y k l r =>
      obtain ⟨b, o, e, hb⟩ := fo_blk hk (by simp)
      subst e
      have h1 : hdB n0 (.node x y k l r) (some ⟨b, o, none⟩) = [] := by
        rw [hdB, show adB (some ⟨b, o, none⟩) = b from rfl, if_neg (by have := hS b hb; omega)]
      rw [h1, show adB (some ⟨b, o, none⟩) = b from rfl, show adO (some ⟨b, o, none⟩) = o from rfl]
      have h2 : rowsB W n0 (.node x y k l r) b o = [] := by
        rw [List.eq_nil_iff_forall_not_mem]
        intro q hq
        have := hS q (rowsB_in hk hq)
        have := rowsB_ge hq
        omega
      rw [h2]; rfl
  refine ⟨by rw [e]; simp, ⟨Or.inr ⟨_, List.mem_singleton.2 rfl, 0, 0, rfl, by simp [rootF, foLen], rfl⟩, True.intro⟩, fun s hs b off e1 _ => ?_, by simp [List.filterMap_cons, rootF, segB], fun q hq => ?_⟩
  · rw [List.mem_singleton] at hs
    subst hs
    cases e1
    exact e
  · rw [e, List.mem_singleton] at hq
    subst hq
    exact ⟨_, _, hc⟩
theorem sep_end {V : World} {n0 RB : Nat} {t : Tr} {X : Nat → Prop} {ra : Option Addr} {m rc : Nat} (h : SepI V n0 RB t []) (hr : FoAt V X (rootF t) (some ⟨RB, 0, none⟩)) (hn0 : n0 ≤ RB) (hc : V.cell? ⟨RB, 3, none⟩ = some (.slice ra m rc)) : FoAt V (fun q => X q ∧ n0 ≤ q) t.kids ra ∧ (kidB V t.kids ra).Nodup ∧ ∀ q ∈ kidB V t.kids ra, FreeB V q := by
  have hd := (h.done.kept (X := X) (W' := fun _ _ => False) (fun _ _ _ => rfl) (fun q j ⟨s, hs, _⟩ => by simp at hs) _ _ _ hr).new _ _ _ hr hn0
  obtain ⟨b1, o1, ka, cap, e, _, _, _, _, c3, _, hk, _⟩ := hd
  cases e
  rw [Nat.zero_add, hc] at c3
  cases c3
  have e : rowsB V n0 (rootF t) RB 0 = hdB n0 t.kids ra ++ (rowsB V n0 t.kids (adB ra) (adO ra) ++ []) := by rw [rootF, rowsB, kidsA_of (by rw [Nat.zero_add]; exact hc)]; rfl
  rw [List.append_nil] at e
  have e2 : kidB V t.kids ra = rowsB V n0 (rootF t) RB 0 := by
    rw [e, kidB]
    obtain ⟨kf, hkf⟩ : ∃ kf, kf = t.kids := ⟨_, rfl⟩
    rw [← hkf] at hk ⊢
    cases kf with
    | nil => rfl
    | node x y k l r =>
      obtain ⟨b, o, e, hb⟩ := fo_blk hk (by simp)
      subst e
      have hk2 : FoAt V (fun q => n0 ≤ q) (.node x y k l r) (some ⟨b, o, none⟩) := hk.kept fun q hq => ⟨hq.2, rfl⟩
      rw [show adB (some ⟨b, o, none⟩) = b from rfl, show adO (some ⟨b, o, none⟩) = o from rfl, rowsB_zero hk2]
      simp only [hdB]
      rw [show adB (some ⟨b, o, none⟩) = b from rfl, if_pos hb.2, if_pos (Nat.zero_le _)]
  rw [e2]
  exact ⟨hk, (List.nodup_cons.1 h.nodup).2, fun q hq => h.free q (List.mem_cons_of_mem _ hq)⟩
/-- The copy's rows are new and lie apart. -/
def CopyS (t : Tr) (w : World) (e : Ending) (w' : World) : Prop := ∃ ra rc, e = .returned (.agg #[.int .i64 t.id, .int .i64 t.kind, .string t.text, .slice ra (foLen t.kids) rc]) ∧ foLen t.kids ≤ rc ∧ FoAt w' (Fresh w w') t.kids ra ∧ (kidB w' t.kids ra).Nodup ∧ (∀ q ∈ kidB w' t.kids ra, FreeB w' q) ∧ Below w.heap.size w w'
def CopyK (w W : World) (S : Nat → Prop) (t : Tr) (T : Nat → Prop) (A : List Seg) (V : World) : Prop := CopyI w W.heap.size (w.heap.size + 1 + 1) (exc w S) t T A V ∧ (agSize A ≤ 500000 ∧ SepI V w.heap.size (w.heap.size + 1 + 1) t A) ∧ ∃ zs : Array Value, zs = #[.int .i64 0, .int .i64 0, .string ⟨#[]⟩, .slice none 0 0] ∧ V.heap[w.heap.size + 1]? = some (.cells zs 25 (0, 0))
/-- The end: what copy_end says, and that the rows lie apart. -/
theorem copyS_end {w V : World} {S : Nat → Prop} {t : Tr} {B D : Nat} {T : Nat → Prop} {ra : Option Addr} {rc : Nat} (h : CopyI w B (w.heap.size + 1 + 1) (exc w S) t T [] V) (hs : SepI V w.heap.size (w.heap.size + 1 + 1) t []) (hc3 : V.cell? ⟨w.heap.size + 1 + 1, 3, none⟩ = some (.slice ra (foLen t.kids) rc)) (hrc : foLen t.kids ≤ rc)
    (hz : V.heap[w.heap.size + 1]? = some (.cells #[.int .i64 0, .int .i64 0, .string ⟨#[]⟩, .slice none 0 0] 25 (0, 0))) (hK : V.heap[D]? = some (.deferred (some []))) (hD : w.heap.size + 1 < D) (W' : World) (hW' : W' = (((((V.setCell ⟨w.heap.size + 1, 0, none⟩ (.int .i64 t.id)).setCell ⟨w.heap.size + 1, 1, none⟩ (.int .i64 t.kind)).setCell ⟨w.heap.size + 1, 2, none⟩ (.string t.text)).setCell ⟨w.heap.size + 1, 3, none⟩ (.slice ra (foLen t.kids) rc)).putObj D (.deferred none)))
    (hB : Below w.heap.size w W') : CopyS t w (.returned (.agg #[.int .i64 t.id, .int .i64 t.kind, .string t.text, .slice ra (foLen t.kids) rc])) W' := by
  obtain ⟨q1, q2, q3⟩ := sep_end hs h.root (by omega) hc3
  have hall : ∀ x, x ≠ w.heap.size + 1 → x ≠ D → W'.heap[x]? = V.heap[x]? := fun x hx hd => by
    rw [hW', World.putObj_heap_other hd, Below.heap_setCell _ _ _ _ hx, Below.heap_setCell _ _ _ _ hx, Below.heap_setCell _ _ _ _ hx, Below.heap_setCell _ _ _ _ hx]
  have hX : ∀ x, (XT (ex T (exc w S)) V x ∧ w.heap.size ≤ x) → W'.heap[x]? = V.heap[x]? ∧ x < W'.heap.size := fun x hx => by
    obtain ⟨⟨⟨cs, ty, fr, hcx⟩, hn⟩, _⟩ := hx
    have hxe : x ≠ w.heap.size + 1 := fun e => hn (Or.inr (Or.inl e))
    have hxD : x ≠ D := fun e => by rw [e, hK] at hcx; cases hcx
    exact ⟨hall x hxe hxD, lt_of_heap ((hall x hxe hxD).trans hcx)⟩
  have hkb := kidB_kept q1 (fun q hq => (hX q hq).1)
  refine ⟨ra, rc, rfl, hrc, q1.kept fun x hx => ⟨⟨hx.2, (hX x hx).2⟩, (hX x hx).1⟩, by rw [hkb]; exact q2, fun q hq => ?_, hB⟩
  rw [hkb] at hq
  obtain ⟨cs, ty, hcq⟩ := q3 q hq
  refine ⟨cs, ty, ?_⟩
  obtain ⟨kf, hkf⟩ : ∃ kf, kf = t.kids := ⟨_, rfl⟩
  rw [← hkf] at q1 hq
  have hXq : XT (ex T (exc w S)) V q ∧ w.heap.size ≤ q := by
    cases kf with
    | nil => simp [kidB, hdB, rowsB] at hq
    | node x y k l r =>
      obtain ⟨b, o, e, hb⟩ := fo_blk q1 (by simp)
      subst e
      rcases List.mem_append.1 hq with hq | hq
      · rw [(hdB_ge hq).2]; exact hb
      · exact rowsB_in q1 hq
  exact ((hX q hXq).1).trans hcq
set_option maxRecDepth 100000 in
set_option maxHeartbeats 2000000 in
theorem copyS_any (w : World) (S : Nat → Prop) (nv : Value) (t : Tr) (hS : ∀ x, S x → CellsB w x) (ht : TrAt w S nv t) (hsz : foSize t.kids + 1 ≤ 500000) : Calls Try.prog 31 #[nv] w (CopyS t w) := by
  obtain ⟨ka, cap, rfl, hcap, hk⟩ := ht
  obtain ⟨n, hn⟩ : ∃ n, n = foLen t.kids := ⟨_, rfl⟩
  rw [← hn]
  obtain ⟨k1, k2, k3, k4, k5⟩ := wc_facts w #[.int .i64 t.id, .int .i64 t.kind, .string t.text, .slice ka n cap] #[.int .i64 0, .int .i64 0, .string ⟨#[]⟩, .slice none 0 0] (.slice (some ⟨w.heap.size + 1 + 1, 0, none⟩) 1 1)
  have HW := Lib.hid (And.intro k1 (And.intro k2 (And.intro k3 (And.intro k4 k5))))
  have H := Lib.hid (And.intro hS (And.intro hcap (And.intro hk (And.intro hsz hn))))
  clear hS hcap hk hsz hn k1 k2 k3 k4 k5
  refine (callsIn_wide (n := 6)).1 ?_
  refine callsIn_of_wp_marks Try.func31 rfl trivial ?_ rfl
  simp only [Try.ntmps31, List.size_toArray, List.length_cons, List.length_nil, Nat.reduceAdd, Nat.reduceSub, Array.replicate_succ, Array.replicate_zero, List.push_toArray, List.append_toArray, List.nil_append, List.cons_append]
  gi_wp2_with (refine ⟨trivial, ?_⟩; gi_at_call 44; refine (callsIn_wide.2 (each_fn _ _ _ _)).mono ?_; rintro e w' ⟨rfl, rfl⟩)
  generalize hW : World.alloc _ _ = W at HW ⊢
  clear hW
  obtain ⟨k1, k2, k3, k4, k5⟩ := HW.out
  have hSW : ∀ x, S x → W.heap[x]? = w.heap[x]? := fun x hx => k2.block x (H.out.1 x hx).lt
  have hroot := root_lies hSW H.out.2.1 H.out.2.2.1 (by rw [← H.out.2.2.2.2]; exact k4)
  have hroot2 : FoAt W (XT (ex (fun _ => False) (exc w S)) W) (rootF t) (some ⟨w.heap.size + 1 + 1, 0, none⟩) := hroot.kept fun x hx => ⟨⟨by
    rcases hx with hx | hx
    · obtain ⟨cs, ty, fr, hc⟩ := H.out.1 x hx
      exact ⟨cs, ty, fr, (hSW x hx).trans hc⟩
    · rw [hx]; exact ⟨_, _, _, k4⟩, fun h => by
      rcases h with h | h | h
      · exact h
      · rcases hx with hx | hx
        · have := (H.out.1 x hx).lt; omega
        · omega
      · rcases hx with hx | hx
        · exact h.2 hx
        · omega⟩, rfl⟩
  have hn4 : w.heap.size + 4 = W.heap.size := k1.symm
  refine range_each (by omega) rfl ⟨1, some ⟨w.heap.size + 1 + 1, 0, none⟩, 1, rootF t⟩ rfl (by simp [rootF]) (by simp [rootF, foLen]) (by rw [rootF_size]; exact H.out.2.2.2.1) (by rw [cell_of_row _ _ 0 _ _ _ k5]; rfl) rfl
    (CopyK w W S t) (fun _ _ _ => False) ?turn (fun h _ _ => h.elim) ?empty ?start ?round ?done ?stop
  case turn =>
    rintro T T' A V V' ⟨h1, h9, zs, hz, h2⟩ ht hw
    refine ⟨h1.turn (by omega) ht hw, ⟨h9.1, h9.2.turn h1.root (fun s hs => (h1.rows s hs).1) (fun q hq => (xt_turn2 ht hw q hq).2) (fo_here h1.root (root_not t))⟩, zs, hz, (ht.block _ (lt_of_heap h2) (fun h => ?_)).trans h2⟩
    rcases h with h | h
    · have := h1.hT _ h; omega
    · omega
  case empty =>
    rintro T A B d c a V ⟨h1, h9, h2⟩
    exact ⟨⟨h1.below, h1.hT, h1.big, h1.exl, h1.root, fun s hs => h1.rows s (by rcases List.mem_append.1 hs with hs | hs; exact List.mem_append_left _ hs; exact List.mem_append_right _ (List.mem_cons_of_mem _ hs))⟩, ⟨by have h9 := h9.1; rw [agSize_append, agSize_cons] at h9; rw [agSize_append]; omega, h9.2.empty (h1.root.kept fun _ _ => ⟨True.intro, rfl⟩)⟩, h2⟩
  case start =>
    refine ⟨⟨k2, fun _ h => h.elim, Nat.le_refl _, fun x hx => by rcases hx with hx | hx <;> omega, hroot2, fun s hs => ?_⟩, ⟨by rw [agSize_cons, agSize_nil, rootF_size]; have := H.out.2.2.2.1; omega, sep_start (w := w) (S := S) (cap := cap) (by rw [← H.out.2.2.2.2]; exact k4) (H.out.2.2.1.kept fun q hq => ⟨hq, hSW q hq⟩) (fun q hq => (H.out.1 q hq).lt) _ _⟩, _, rfl, k3⟩
    rw [List.mem_singleton] at hs
    subst hs
    exact ⟨hroot2, fun _ => ⟨_, _, rfl, by omega, _, _, k4⟩⟩
  case stop => exact fun _ _ _ _ _ h _ => h.elim
  case done =>
    rintro D T V hD ⟨hI, hag, zs, rfl, hz⟩ hK
    obtain ⟨b, off, ra, rc, e1, hb, c0, c1, c2, c3, c4, hkk, _⟩ := hI.root
    cases e1
    obtain ⟨m, hm⟩ : ∃ m, m = foLen t.kids := ⟨_, rfl⟩
    rw [← hm] at c3 c4
    simp only [Nat.zero_add] at c0 c1 c2 c3
    have z0 : V.cell? ⟨w.heap.size + 1, 0, none⟩ = some (.int .i64 0) := by rw [cell_of_row _ _ 0 _ _ _ hz]; rfl
    have z1 : V.cell? ⟨w.heap.size + 1, 1, none⟩ = some (.int .i64 0) := by rw [cell_of_row _ _ 1 _ _ _ hz]; rfl
    have z2 : V.cell? ⟨w.heap.size + 1, 2, none⟩ = some (.string ⟨#[]⟩) := by rw [cell_of_row _ _ 2 _ _ _ hz]; rfl
    have z3 : V.cell? ⟨w.heap.size + 1, 3, none⟩ = some (.slice none 0 0) := by rw [cell_of_row _ _ 3 _ _ _ hz]; rfl
    have zf : ∀ j, V.frozen? ⟨w.heap.size + 1, j, none⟩ = false := fun j => frozen_of_row _ _ j _ _ hz
    have HE := Lib.hid (And.intro hI (And.intro hkk (And.intro hm (And.intro hz (And.intro hK (And.intro hD c4))))))
    have HSP := Lib.hid (And.intro hag.2 c3)
    clear hag hI hkk hm hz hK HW H k1 k2 k3 k4 k5 hSW hroot hroot2 hb c4 hD hn4
    gi_wp2
    obtain ⟨q1, q2, q3, q4, q5, q6, q7⟩ := HE.out
    have hcp := copy_end q1 q2 (by rw [← q3]; exact q7) q4 q5 (by have := q1.exl _ (Or.inl rfl); omega)
    have hcs := copyS_end (ra := ra) (rc := rc) q1 HSP.out.1 (by rw [← q3]; exact HSP.out.2) (by rw [← q3]; exact q7) q4 q5 (by have := q1.exl _ (Or.inl rfl); omega) _ rfl hcp.2.2.choose_spec.2.2
    rw [← q3] at hcp hcs
    refine ⟨by simp, .inl ⟨_, _, rfl, run_takeDeferred hcp.1, ?_⟩⟩
    exact ⟨_, results_cellW rfl _ _ (w.heap.size + 1) 25 _ _ _ rfl hcp.2.1 Try.underlying25 rfl (by kernel_rfl), hcs⟩
  case round =>
    rintro l hl T d c bo oo ad key k r A V hT hV ⟨hI, hag, zs, rfl, hz⟩
    obtain ⟨hf, hfree⟩ := hI.rows _ (List.mem_cons_self ..)
    simp only at hf hfree
    obtain ⟨b, off, kka, kcap, e1, hbX, c0, c1, c2, c3, c4, hkk, hrr⟩ := hf
    obtain ⟨m, hm⟩ : ∃ m, m = foLen k := ⟨_, rfl⟩
    rw [← hm] at c3 c4
    obtain ⟨xs, x1, x2, x3, x4⟩ := fo_read hkk
    rw [← hm] at x1 x4
    obtain ⟨hag, hsep⟩ := hag
    rw [agSize_cons] at hag
    simp only [foSize] at hag
    have HSP := Lib.hid hsep
    clear hsep
    have hm6 : m ≤ 1000000 := by have := foLen_le k; omega
    refine ⟨b, off, e1, fun K hK => ?_⟩
    have HK := Lib.hid hK
    have HI := Lib.hid (And.intro hI (And.intro hz (And.intro hT (And.intro hm (And.intro e1 (And.intro x1 (And.intro x2 (And.intro x3 (And.intro x4 (And.intro hl (And.intro hbX (And.intro hV hag))))))))))))
    clear hI hz hT hm e1 x1 x2 x3 x4 hl hbX hV hK hkk hrr c0 c1 c2 c4 hfree H hag k1 k2 k3 k4 k5 hSW hroot hroot2 hn4
    gi_wp2
    refine HK.out _ fun V1 hV1 => ?_
    clear HK
    obtain ⟨o', ev, o, ho, hoc⟩ := hV1
    have hbl : b ≠ l := fun e => by
      obtain ⟨⟨cs, ty, fr, hc⟩, _⟩ := HI.out.2.2.2.2.2.2.2.2.2.2.1
      rw [e, ho] at hc; cases hc; cases hoc
    have hV1s : ∀ x, x ≠ l → V1.heap[x]? = V.heap[x]? := fun x hx => by rw [ev]; exact World.putObj_heap_other hx
    have hsz1 : V1.heap.size = V.heap.size := by rw [ev]; simp [World.putObj]
    have hI1 : CopyI w W.heap.size (w.heap.size + 1 + 1) (exc w S) t T (⟨d, ad, c, .node bo oo key k r⟩ :: A) V1 := by
      refine HI.out.1.turn (by have := HW.out.1; omega) (V' := V1) (by rw [ev]; exact (touched_put o' ho).mono (fun x hx => Or.inr ⟨by have := HI.out.2.2.2.2.2.2.2.2.2.1; omega, by rw [hx]; exact ⟨o, ho, hoc⟩⟩)) (fun x hx => Or.inl hx)
    have c3' : V1.cell? ⟨b, off + 3, none⟩ = some (.slice kka m kcap) := (World.cell?_of_block (hV1s b hbl)).trans c3
    have hxc : ∀ ad, kka = some ad → ∀ j u, xs[j]? = some u → V1.cell? (ad.add j) = some u := fun ad he j u hj => by
      have h1 := HI.out.2.2.2.2.2.2.2.1 ad he j u hj
      refine (World.cell?_of_block (hV1s _ fun e => ?_)).trans h1
      have h2 : V.heap[(ad.add j).block]? = some o := by rw [e]; exact ho
      have h3 : V.cell? (ad.add j) = none := by
        unfold World.cell?
        rw [h2]
        cases o <;> simp_all [Obj.isCells]
      rw [h3] at h1; cases h1
    have hclone := clone_Nodes V1 kka m kcap xs HI.out.2.2.2.2.2.1 HI.out.2.2.2.2.2.2.1 (by omega) hxc HI.out.2.2.2.2.2.2.2.2.1
    have hnext := fun (w1 : World) (rv : Value) hb1 hown => CopyI.next (w1 := w1) (rv := rv) (by have := HW.out.1; omega) (fun x hx => by rw [hsz1]; exact (HI.out.2.2.1 x hx).1) hI1 HI.out.2.2.2.1 c3' HI.out.2.2.2.2.1 HI.out.2.2.2.2.2.1 hxc hb1 hown
    have hsep1 : SepI V1 w.heap.size (w.heap.size + 1 + 1) t (⟨d, ad, c, .node bo oo key k r⟩ :: A) := HSP.out.turn HI.out.1.root (fun s hs => (HI.out.1.rows s hs).1) (fun q hq => hV1s q (fun e => by
      obtain ⟨⟨cs, ty, fr, hc⟩, _⟩ := hq
      rw [e, ho] at hc; cases hc; cases hoc)) (fo_here HI.out.1.root (root_not t))
    have hfb := (hI1.rows _ (List.mem_cons_self ..)).2 (by simp)
    have hsn := fun (w1 : World) (ra : Option Addr) (rc : Nat) (hb1 : Below V1.heap.size V1 w1) (hown : w1.ownsRow V1.heap.size 25 4 (.slice ra m rc) m xs) => SepI.next (w1 := w1) (ra := ra) (rc := rc) hsep1 hI1.root (fun s hs => (hI1.rows s hs).1) (fun q hq => hq.1.lt) (by obtain ⟨b5, o5, e5, h5, _⟩ := hfb; have e6 := HI.out.2.2.2.2.1; rw [e6] at e5; cases e5; exact h5) (by have := hI1.below.size; omega) (fo_here hI1.root (root_not t)) HI.out.2.2.2.1 c3' HI.out.2.2.2.2.1 (by obtain ⟨b5, o5, e5, _, h5⟩ := hfb; have e6 := HI.out.2.2.2.2.1; rw [e6] at e5; cases e5; exact h5) (World.block_lt_of_cell? _ _ c3') HI.out.2.2.2.2.2.1 hxc hb1 hown ((World.cell?_of_block (hb1.block b (World.block_lt_of_cell? _ _ c3'))).trans c3')
    have HX := Lib.hid (And.intro hclone (And.intro hnext (And.intro hsz1 (And.intro hV1s (And.intro ho (And.intro hoc hsn))))))
    clear hsn hfb hsep1 HSP hclone hnext hxc hI1 ev hV1s ho hoc hsz1 c3
    gi_wp2_with (refine ⟨trivial, ?_⟩; gi_at_call 45; refine (CallsIn.inRound l (callsIn_wide.2 HX.out.1)).mono ?_; rintro e w1 ⟨rv, rfl, hb1, hown⟩; obtain ⟨ra, rc, rfl, q1, q2, q3, q4, q5, q6, q7⟩ := HX.out.2.1 w1 rv hb1 hown; have HQ := Lib.hid (And.intro q1 (And.intro q5 (And.intro q6 (And.intro q7 (And.intro q4 (And.intro hb1 hown)))))); clear q1 q4 q5 q6 q7 hown hb1 c3')
    obtain ⟨q1, q5, q6, q7, q4, hb1, hown⟩ := HQ.out
    have hm := HI.out.2.2.2.1
    refine ⟨q7, q6, .inl ⟨rfl, ra, rc, by rw [← hm]; exact q4, by rw [← hm]; exact q1, q5, ?_, _, rfl, ?_⟩⟩
    · exact ⟨by have := HI.out.2.2.2.2.2.2.2.2.2.2.2.2; rw [agSize_cons, agSize_cons]; simp only; omega, HX.out.2.2.2.2.2.2 w1 ra rc hb1 hown⟩
    · have hbX := HI.out.2.2.2.2.2.2.2.2.2.2.1
      have hz := HI.out.2.1
      have hzl := lt_of_heap hz
      have hne : w.heap.size + 1 ≠ l := fun e => by
        have h9 := HX.out.2.2.2.2.1
        rw [← e, hz] at h9; cases h9; have h8 := HX.out.2.2.2.2.2.1; cases h8
      rw [Below.heap_setCell _ _ _ _ (show w.heap.size + 1 ≠ b from fun e => hbX.2 (Or.inr (Or.inl e.symm))), hb1.block _ (by rw [HX.out.2.2.1]; exact hzl), HX.out.2.2.2.1 _ hne]
      exact hz
end Go.Proofs.Ytpbjncljecfaeaa
