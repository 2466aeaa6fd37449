/-
  The document's own Path. No condition but that there are not too many nodes.
-/
import Derived.Test.YtjppibomjnmjpaaHPath
import Derived.Deep.AppendLies
namespace Go.Proofs.Ytjppibomjnmjpaa
open Go.RowKit Go.Shelf
set_option linter.unusedVariables false
set_option linter.unusedSimpArgs false

theorem fpi_step {id : Int} {f : Fo} {j : Nat} {u : Tr} (h : kidF f j = some u) : fpi id j (foDrop j f) = match pathT id u with
    | some q => some (j :: q)
    | none => fpi id (j + 1) (foDrop (j + 1) f) := by
  rw [fpi_drop (kidF_some h) h, pathT]
  by_cases hu : u.id = id
  · rw [if_pos hu, if_pos hu]
  · rw [if_neg hu, if_neg hu]
    cases fpi id 0 u.kids <;> rfl
theorem fpi_nil {id : Int} {f : Fo} {j : Nat} (h : foLen f ≤ j) : fpi id j (foDrop j f) = none := by rw [foDrop_nil j f h]; rfl
def RPathI (w : World) (cs : Array Value) (id : Int) (f : Fo) (k : Nat) (wr : World) : Prop := fpi id 0 f = fpi id k (foDrop k f) ∧ wr.heap[w.heap.size]? = some (.cells cs 24 (0, 0)) ∧ Below w.heap.size w wr
set_option maxRecDepth 100000 in
set_option maxHeartbeats 4000000 in
theorem rpath_any : ∀ (M : Nat) (w : World) (S : Nat → Prop) (v : Value) (t : Tr) (id : Int), foSize t.kids < M → M ≤ 500000 → (∀ k, S k → k < w.heap.size) → TrAt w S v t →
    Calls Try.prog 19 #[v, .int .i64 id] w (PathC w (pathT id t)) := by
  intro M
  induction M with
  | zero => intro w S v t id h; omega
  | succ M ih =>
    intro w S v t id hM hMb hS hv
    obtain ⟨ka, cap, rfl, hcap, hk⟩ := hv
    obtain ⟨tid, tk, tx, ks⟩ := t
    simp only at hM hcap hk ⊢
    obtain ⟨len, hlen⟩ : ∃ len, len = foLen ks := ⟨_, rfl⟩
    rw [← hlen] at hcap ⊢
    have hl5 : len ≤ 500000 := by have := foLen_le ks; omega
    by_cases hid : tid = id
    · have hb : (tid == id) = true := by simpa using hid
      have HP := Lib.hid (show pathT id ⟨tid, tk, tx, ks⟩ = some [] by simp [pathT, hid])
      clear ih hk hS hcap hlen hM hMb hid
      go_enter Try.func19, Try.ntmps19
      go_wp2_with fail
      go_ret2
      exact ⟨.slice none 0 0, by rw [HP.out]; rfl, by rw [HP.out]; exact World.ownsRow_nil _ _ _ _, (Below.refl _ _).alloc (Nat.le_refl _) _⟩
    · have hb : (tid == id) = false := by simpa using hid
      have HP := Lib.hid (show pathT id ⟨tid, tk, tx, ks⟩ = fpi id 0 ks by simp [pathT, hid])
      have HH := Lib.hid (And.intro hk (And.intro hS (And.intro hlen (And.intro hM hMb))))
      have HIH := Lib.hid ih
      have HST : Hid (RPathI w #[.int .i64 tid, .int .i64 tk, .string tx, .slice ka len cap] id ks 0 (w.alloc (.cells #[.int .i64 tid, .int .i64 tk, .string tx, .slice ka len cap] 24))) := Lib.hid ⟨by rw [foDrop_zero], heap_alloc_new w _, (Below.refl _ _).alloc (Nat.le_refl _) _⟩
      obtain ⟨i0, hi, hz0, hz1, hz2⟩ := info_parts Try.infoInt
      have HI := Lib.hid (And.intro hi (And.intro hz0 (And.intro hz1 hz2)))
      clear hi hz0 hz1 hz2 ih hk hS hlen hM hMb hid
      go_enter Try.func19, Try.ntmps19
      go_wp2_with fail
      go_loopw [6] (fun i wr => ∃ k : Nat, k ≤ len ∧ i = .int .i64 (k : Int) ∧ Hid (RPathI w #[.int .i64 tid, .int .i64 tk, .string tx, .slice ka len cap] id ks k wr)) (fun i _ => len - (intOf i).toNat)
      case atStart => exact ⟨0, Nat.zero_le _, rfl, HST⟩
      case round =>
        obtain ⟨k, hk, rfl, hh⟩ := hrel
        clear HST
        have hbx := hh.out.2.1
        have p3 : wr.cell? ⟨w.heap.size, 3, none⟩ = some (.slice ka len cap) := by rw [cell_of_row _ _ 3 _ _ _ hbx]; rfl
        by_cases hlt : k < len
        · have hk1 : FoAt wr S ks ka := HH.out.1.below hh.out.2.2 HH.out.2.1
          obtain ⟨b0, o0, ⟨ki, kk, kt⟩, l, r, hd, b, off, ka2, kc2, rfl, hSb, c0, c1, c2, c3, hc2, hl2⟩ := hk1.at k (by rw [← HH.out.2.2.1]; exact hlt)
          have hku : kidF ks k = some ⟨ki, kk, kt, l⟩ := by rw [kidF, hd]; rfl
          have hsz := foDrop_node k ks (by rw [← HH.out.2.2.1]; exact hlt)
          obtain ⟨_, _, _, _, _, e1, _, hsz, _⟩ := hsz
          rw [hd] at e1; cases e1
          have hcall := HIH.out wr S (.agg #[.int .i64 ki, .int .i64 kk, .string kt, .slice ka2 (foLen l) kc2]) ⟨ki, kk, kt, l⟩ id (by have := HH.out.2.2.2.1; simp only; omega) (by have := HH.out.2.2.2.2; omega) (fun x hx => Nat.lt_of_lt_of_le (HH.out.2.1 x hx) hh.out.2.2.size) ⟨ka2, kc2, rfl, hc2, hl2⟩
          obtain ⟨n2, hn2⟩ : ∃ n2, n2 = foLen l := ⟨_, rfl⟩
          rw [← hn2] at hcall c3
          simp only at c0 c1 c2
          have HC := Lib.hid hcall
          have hstep := fpi_step (id := id) hku
          have HR := Lib.hid (And.intro hh.out hstep)
          have HLT := Lib.hid hlt
          have hki : (k : Int) < (len : Int) := by omega
          have hwr := lt_of_heap hbx
          clear hh hk1 hd hku hsz hcall hn2 hl2 hc2 hSb hbx hlt hk hstep
          go_wp2_with fail
          refine HC.out.mono ?_
          rintro e w2 ⟨pv, rfl, hown, hb2⟩
          cases hpt : pathT id ⟨ki, kk, kt, l⟩ with
          | none =>
            have HN : Hid (RPathI w #[.int .i64 tid, .int .i64 tk, .string tx, .slice (some ⟨b, off, none⟩) len cap] id ks (k + 1) w2) := Lib.hid ⟨by
              rw [HR.out.1.1, HR.out.2, hpt], (hb2.block _ hwr).trans HR.out.1.2.1, HR.out.1.2.2.trans (hb2.mono HR.out.1.2.2.size)⟩
            clear hown hb2 HC hpt
            simp only [Option.isSome_none]
            go_wp2_with fail
            exact ⟨⟨k + 1, by have := HLT.out; omega, by go_num, HN⟩, by have := HLT.out; simp [intOf]; omega⟩
          | some q =>
            rw [hpt] at hown
            simp only [Option.getD_some] at hown
            have hres : fpi id 0 ks = some (k :: q) := by rw [HR.out.1.1, HR.out.2, hpt]
            obtain ⟨pa, pc, rfl⟩ := owns_slice hown
            obtain ⟨m, hm⟩ : ∃ m, m = (natI q).length := ⟨_, rfl⟩
            rw [← hm] at hown ⊢
            have hm5 : m ≤ 1000000 := by
              have h9 : ∀ (f : Fo) (id : Int) (i : Nat) (p : List Nat), fpi id i f = some p → p.length ≤ foSize f := by
                intro f
                induction f with
                | nil => intro id i p h; simp [fpi] at h
                | node b o k l r ihl ihr =>
                  intro id i p h
                  simp only [fpi] at h
                  simp only [foSize]
                  split at h
                  · cases h; simp
                  · split at h
                    · rename_i q hq
                      cases h
                      have := ihl id 0 q hq
                      simp only [List.length_cons]; omega
                    · have := ihr id (i + 1) p h; omega
              have h8 := h9 ks id 0 _ hres
              rw [List.length_cons] at h8
              rw [hm, natI_length]; have := HH.out.2.2.2.1; have := HH.out.2.2.2.2; omega
            obtain ⟨W, hW⟩ : ∃ W, W = w2.alloc (.cells #[.int .i64 (k : Int)] 3) := ⟨_, rfl⟩
            have hbW : Below w2.heap.size w2 W := by rw [hW]; exact (Below.refl _ _).alloc (Nat.le_refl _) _
            have hnewW : W.heap[w2.heap.size]? = some (.cells #[.int .i64 (k : Int)] 3 (0, 0)) := by rw [hW]; exact heap_alloc_new w2 _
            have hw2 : w.heap.size ≤ w2.heap.size := Nat.le_trans HR.out.1.2.2.size hb2.size
            have hout : W.ownsRow w.heap.size 3 1 (.slice (some ⟨w2.heap.size, 0, none⟩) 1 1) 1 [.int .i64 (k : Int)] := ⟨rfl, Or.inr ⟨_, 1, _, rfl, hw2, hnewW, by simp, by unfold maxLen; omega, by simp, by simp⟩⟩
            have hownW : W.ownsRow wr.heap.size 3 1 (.slice pa m pc) m ((natI q).map intV) := owns_kept hown (fun g cur hc _ => hbW.block g (lt_of_some hc))
            have hbz : Below w.heap.size w W := (HR.out.1.2.2.trans (hb2.mono HR.out.1.2.2.size)).trans (hbW.mono hw2)
            have HO := Lib.hid (And.intro hout (And.intro hownW (And.intro hbz (And.intro hres (And.intro hm (And.intro hW hw2))))))
            clear hown hb2 HC hpt hres hm hbW hnewW hw2 hout hownW hbz hW
            simp only [Option.isSome_some]
            cases pa with
            | none =>
              have hl0 : m = 0 := by
                rcases HO.out.2.1.2 with ⟨hv, h0⟩ | ⟨_, _, _, hv, _⟩
                · exact h0
                · cases hv
              subst hl0
              go_wp2_with (at_builtin; rw [← HO.out.2.2.2.2.2.1]; refine wpList_append_none _ rfl (.tmp 34) (.tmp 35) _ rfl w.heap.size 3 i0 1 Try.underlying29 HI.out.1 (.slice (some ⟨w2.heap.size, 0, none⟩) 1 1) 1 _ rfl HO.out.1 pc rfl ?_)
              go_ret2
              have hq : q = [] := by
                have := HO.out.2.2.2.2.1
                rw [natI_length] at this
                exact List.length_eq_zero_iff.1 this.symm
              refine ⟨.slice (some ⟨w2.heap.size, 0, none⟩) 1 1, by rw [HP.out, HO.out.2.2.2.1]; rfl, ?_, HO.out.2.2.1⟩
              rw [HP.out, HO.out.2.2.2.1, hq]
              exact HO.out.1
            | some ad =>
              obtain ⟨ab, rfl⟩ : ∃ ab, ad = ⟨ab, 0, none⟩ := by
                rcases HO.out.2.1.2 with ⟨hv, h0⟩ | ⟨_, _, _, hv, _⟩
                · cases hv
                · cases hv; exact ⟨_, rfl⟩
              go_wp2_with (at_builtin; rw [← HO.out.2.2.2.2.2.1]; refine wpList_append_own_at _ rfl (.tmp 34) (.tmp 35) _ rfl w.heap.size 3 i0 (.int .i64 0) 1 8 Try.underlying29 HI.out.1 HI.out.2.1 HI.out.2.2.1 HI.out.2.2.2 rfl (by omega) (.slice (some ⟨w2.heap.size, 0, none⟩) 1 1) 1 _ rfl HO.out.1 ⟨ab, 0, none⟩ m pc _ rfl HO.out.2.1.1 (HO.out.2.1.cells rfl) (by intro u hu; obtain ⟨z, _, rfl⟩ := List.mem_map.1 hu; rfl) (by unfold maxLen; omega) (by omega) (by have := HO.out.2.2.1.size; exact this) ?_; intro v' w7 hown7 hgrow _ hat; have H7 := Lib.hid (And.intro hown7 (And.intro hgrow hat)); clear hown7 hgrow hat)
              go_ret2
              have hsw := HO.out.2.2.1.size
              refine ⟨v', by rw [HP.out, HO.out.2.2.2.1]; rfl, ?_, HO.out.2.2.1.trans ⟨H7.out.2.1.os, H7.out.2.1.tape, H7.out.2.1.output, H7.out.2.1.size, fun y hy => H7.out.2.1.block y (by omega) (fun e => by have := HO.out.2.2.2.2.2.2; simp [Value.ownBlock] at e; omega)⟩⟩
              rw [HP.out, HO.out.2.2.2.1]
              simp only [Option.getD_some]
              have e1 : (natI (k :: q)).length = 1 + m := by rw [HO.out.2.2.2.2.1, natI_length, natI_length, List.length_cons]; omega
              rw [e1]
              exact H7.out.1
        · have hki : ¬ (k : Int) < (len : Int) := by omega
          have hnone := fpi_nil (id := id) (f := ks) (j := k) (by rw [← HH.out.2.2.1]; omega)
          have HE := Lib.hid (And.intro (hh.out.1.trans hnone) hh.out.2.2)
          clear hh hbx hk hlt hnone
          go_wp2_with fail
          go_ret2
          exact ⟨.slice none 0 0, by rw [HP.out, HE.out.1]; rfl, by rw [HP.out, HE.out.1]; exact World.ownsRow_nil _ _ _ _, HE.out.2⟩
end Go.Proofs.Ytjppibomjnmjpaa
