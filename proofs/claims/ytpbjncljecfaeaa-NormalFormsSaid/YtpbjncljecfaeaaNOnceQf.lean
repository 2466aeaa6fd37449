/-
  The document's Once: the row behind the rule that fits first. No condition but that there are not too many steps and nodes.
-/
import Derived.Deep.Cut
import Derived.StillTailTactics
import Derived.Test.YtpbjncljecfaeaaNPairQf
import Derived.Test.YtpbjncljecfaeaaNRowsQf
namespace Go.Proofs.Ytpbjncljecfaeaa
open Go.RowKit Go.Shelf
set_option linter.unusedVariables false
set_option linter.unusedSimpArgs false

def OnceC (S : Nat → Prop) (r : List Sf × Bool) (w : World) (e : Ending) (w' : World) : Prop := ∃ a n c vs, e = .returned (.tuple #[.slice a n c, .bool r.2]) ∧ RowS w' a n c vs ∧ RowIn (fun q => S q ∨ Fresh w w' q) w' a vs ∧ steps vs = r.1 ∧ Below w.heap.size w w'
/-- A row of the call's own out of rows that lie in blocks of a kind. -/
theorem rowIn_own {S : Nat → Prop} {B : Nat} {X : World} {a : Option Addr} {c n : Nat} {vs : List SV} (hn : n = vs.length) (h : X.ownsRow B 27 9 (.slice a n c) n (cells9 vs)) (hS : ∀ q, B ≤ q → q < X.heap.size → S q) (hl : ∀ x ∈ vs, foLen x.s.sub.kids ≤ x.c ∧ FoAt X S x.s.sub.kids x.a) (hf : ∀ x ∈ vs, foSize x.s.sub.kids + 1 ≤ 100000) (hlen : vs.length ≤ 1000000) : RowIn S X a vs :=
  ⟨fun k x hx => by
    have hpos : 0 < n := by have := (List.getElem?_eq_some_iff.1 hx).1; omega
    rcases h.2 with ⟨_, h0⟩ | ⟨g, cap, cur, e, hB, hg, _⟩
    · omega
    · cases e
      exact ⟨g, 0, rfl, hS g hB (lt_of_heap hg), fun j u hj => by rw [Nat.zero_add]; exact owns_cell h rfl _ u (cells9_mk hx hj)⟩, hl, hf, hlen⟩
theorem steps_take (vs : List SV) (k : Nat) : steps (vs.take k) = (steps vs).take k := by simp [steps, List.map_take]
theorem steps_drop (vs : List SV) (k : Nat) : steps (vs.drop k) = (steps vs).drop k := by simp [steps, List.map_drop]
theorem steps_append (p q : List SV) : steps (p ++ q) = steps p ++ steps q := by simp [steps]
/-- A row of three pieces, of the call's own. -/
theorem once_end {S : Nat → Prop} {w w2 X : World} {la lb : Option Addr} {vs js : List SV} {v : Value} {k q n pn : Nat} (h : RowIn S w la vs) (hS : ∀ q, S q → q < w.heap.size) (ho : X.ownsRow w2.heap.size 27 9 v (k + pn + (n - q)) (cells9 (vs.take k) ++ cells9 js ++ cells9 (vs.drop q))) (hb : Below w.heap.size w w2) (hb2 : Below w2.heap.size w2 X) (hn : n = vs.length) (hq : k ≤ n ∧ q ≤ n) (hp : pn = js.length) (hj : RowIn (Fresh w w2) w2 lb js) (hm : n ≤ 10000) (hp1 : pn ≤ 1) :
    ∃ a c, v = .slice a (k + pn + (n - q)) c ∧ RowS X a (k + pn + (n - q)) c (vs.take k ++ js ++ vs.drop q) ∧ RowIn (fun q => S q ∨ Fresh w X q) X a (vs.take k ++ js ++ vs.drop q) ∧ steps (vs.take k ++ js ++ vs.drop q) = (steps vs).take k ++ steps js ++ (steps vs).drop q := by
  have hbw := hb.trans (hb2.mono hb.size)
  have h1 : cells9 (vs.take k) ++ cells9 js ++ cells9 (vs.drop q) = cells9 (vs.take k ++ js ++ vs.drop q) := by simp [cells9]
  rw [h1] at ho
  have hl : k + pn + (n - q) = (vs.take k ++ js ++ vs.drop q).length := by simp only [List.length_append, List.length_take, List.length_drop, ← hn, ← hp]; omega
  obtain ⟨a, c, rfl⟩ := owns_slice ho
  have hin : RowIn (fun q => S q ∨ Fresh w X q) X a (vs.take k ++ js ++ vs.drop q) := by
    have hv := h.kept (X := X) (T := fun q => S q ∨ Fresh w X q) fun q hq => ⟨.inl hq, hbw.block q (hS q hq)⟩
    have hw := hj.kept (X := X) (T := fun q => S q ∨ Fresh w X q) fun q hq => ⟨.inr ⟨hq.1, Nat.lt_of_lt_of_le hq.2 hb2.size⟩, hb2.block q hq.2⟩
    refine rowIn_own hl ho (fun q h1 h2 => .inr ⟨Nat.le_trans hb.size h1, h2⟩) (fun x hx => ?_) (fun x hx => ?_) (by rw [← hl]; omega)
    · rcases List.mem_append.1 hx with h2 | h2
      · rcases List.mem_append.1 h2 with h3 | h3
        · exact hv.lies x (List.mem_of_mem_take h3)
        · exact hw.lies x h3
      · exact hv.lies x (List.mem_of_mem_drop h2)
    · rcases List.mem_append.1 hx with h2 | h2
      · rcases List.mem_append.1 h2 with h3 | h3
        · exact hv.fit x (List.mem_of_mem_take h3)
        · exact hw.fit x h3
      · exact hv.fit x (List.mem_of_mem_drop h2)
  have hr := hin.row fun q hq => by
    rcases hq with h | h
    · exact Nat.lt_of_lt_of_le (hS q h) hbw.size
    · exact h.2
  refine ⟨a, c, rfl, ⟨hr, hl, ?_, ?_⟩, hin, by rw [steps_append, steps_append, steps_take, steps_drop]⟩
  · rcases ho.2 with ⟨hv, h0⟩ | ⟨g, cap, cur, hv, _, _, hc, _⟩
    · omega
    · cases hv; exact hc
  · intro ha
    subst ha
    rcases ho.2 with ⟨hv, h0⟩ | ⟨g, cap, cur, hv, _⟩
    · exact (Value.slice.inj hv).2.2
    · cases hv
set_option maxRecDepth 100000 in
set_option maxHeartbeats 8000000 in
theorem once_any (w : World) (S : Nat → Prop) (la : Option Addr) (n c : Nat) (vs : List SV) (h : RowS w la n c vs) (hn : n ≤ 10000) (hS : ∀ q, S q → q < w.heap.size) (hI : RowIn S w la vs) :
    Calls Try.prog 27 #[.slice la n c] w (OnceC S (onceK (steps vs)) w) := by
  have H := Lib.hid h
  have HI := Lib.hid (And.intro hS hI)
  clear h hS hI
  go_enter Try.func27, Try.ntmps27
  go_wp2_with fail
  go_loopw [4] (fun i wr => ∃ k : Nat, k ≤ n ∧ i = .int .i64 (k : Int) ∧ Hid (Below w.heap.size w wr ∧ ∀ j x y, j < k → (steps vs)[j]? = some x → (steps vs)[j + 1]? = some y → (pairK x y).2 = false)) (fun i _ => n - (intOf i).toNat)
  case atStart => exact ⟨0, Nat.zero_le _, rfl, Lib.hid ⟨Below.refl _ _, fun j x y hj => by omega⟩⟩
  case round =>
    obtain ⟨k, hk, rfl, hh⟩ := hrel
    obtain ⟨wo, hwo⟩ : ∃ wo, wo = wr := ⟨_, rfl⟩
    subst hwo
    obtain ⟨j, hj⟩ : ∃ j, j = k + 1 := ⟨_, rfl⟩
    have hkw : IntKind.i64.wrap ((k : Int) + 1) = (j : Int) := by rw [IntWalk.i64_in _ (by omega)]; omega
    by_cases hlt : k + 1 < n
    · have hjl : (j : Int) < (n : Int) := by omega
      have hkl : (k : Int) < (n : Int) := by omega
      obtain ⟨x, hx⟩ : ∃ x, vs[k]? = some x := ⟨_, List.getElem?_eq_getElem (by rw [← H.out.len]; omega)⟩
      obtain ⟨y, hy⟩ : ∃ y, vs[j]? = some y := ⟨_, List.getElem?_eq_getElem (by rw [← H.out.len]; omega)⟩
      obtain ⟨b, off, rfl, _⟩ := H.out.row.at (Below.refl _ _) hx
      have hax := fun X hX => H.out.row.at (X := X) hX hx
      have hay := fun X hX => H.out.row.at (X := X) hX hy
      have hlx := H.out.row.lies x (List.mem_of_getElem? hx)
      have hly := H.out.row.lies y (List.mem_of_getElem? hy)
      have hfx := H.out.row.fit x (List.mem_of_getElem? hx)
      have hfy := H.out.row.fit y (List.mem_of_getElem? hy)
      have hsx := steps_at hx
      have hsy := steps_at hy
      obtain ⟨xs, xa, xc⟩ := x
      obtain ⟨ys, ya, yc⟩ := y
      simp only at hlx hly hfx hfy hsx hsy hax hay
      obtain ⟨xn, hxn⟩ : ∃ xn, xn = foLen xs.sub.kids := ⟨_, rfl⟩
      obtain ⟨yn, hyn⟩ : ∃ yn, yn = foLen ys.sub.kids := ⟨_, rfl⟩
      rw [← hxn] at hax
      rw [← hyn] at hay
      have HCX : Hid (∀ X, Below w.heap.size w X → (X.cell? ⟨b, off + k * 9, none⟩ = some (.int .i8 xs.op) ∧ X.cell? ⟨b, off + k * 9 + 1, none⟩ = some (.int .i64 xs.id) ∧ X.cell? ⟨b, off + k * 9 + 2, none⟩ = some (.int .i64 xs.par) ∧ X.cell? ⟨b, off + k * 9 + 3, none⟩ = some (.int .i64 xs.at_) ∧ X.cell? ⟨b, off + k * 9 + 4, none⟩ = some (.string xs.tx) ∧ X.cell? ⟨b, off + k * 9 + 5, none⟩ = some (.int .i64 xs.sub.id) ∧ X.cell? ⟨b, off + k * 9 + 6, none⟩ = some (.int .i64 xs.sub.kind) ∧ X.cell? ⟨b, off + k * 9 + 7, none⟩ = some (.string xs.sub.text) ∧ X.cell? ⟨b, off + k * 9 + 8, none⟩ = some (.slice xa xn xc)) ∧ (X.cell? ⟨b, off + j * 9, none⟩ = some (.int .i8 ys.op) ∧ X.cell? ⟨b, off + j * 9 + 1, none⟩ = some (.int .i64 ys.id) ∧ X.cell? ⟨b, off + j * 9 + 2, none⟩ = some (.int .i64 ys.par) ∧ X.cell? ⟨b, off + j * 9 + 3, none⟩ = some (.int .i64 ys.at_) ∧ X.cell? ⟨b, off + j * 9 + 4, none⟩ = some (.string ys.tx) ∧ X.cell? ⟨b, off + j * 9 + 5, none⟩ = some (.int .i64 ys.sub.id) ∧ X.cell? ⟨b, off + j * 9 + 6, none⟩ = some (.int .i64 ys.sub.kind) ∧ X.cell? ⟨b, off + j * 9 + 7, none⟩ = some (.string ys.sub.text) ∧ X.cell? ⟨b, off + j * 9 + 8, none⟩ = some (.slice ya yn yc))) := Lib.hid fun X hX => by
        obtain ⟨_, _, e1, h1⟩ := hax X hX
        obtain ⟨_, _, e2, h2⟩ := hay X hX
        cases e1; cases e2
        exact ⟨h1, h2⟩
      have HC : Hid (∀ X, Below w.heap.size w X → Calls Try.prog 9 #[.agg #[.int .i8 xs.op, .int .i64 xs.id, .int .i64 xs.par, .int .i64 xs.at_, .string xs.tx, .int .i64 xs.sub.id, .int .i64 xs.sub.kind, .string xs.sub.text, .slice xa xn xc], .agg #[.int .i8 ys.op, .int .i64 ys.id, .int .i64 ys.par, .int .i64 ys.at_, .string ys.tx, .int .i64 ys.sub.id, .int .i64 ys.sub.kind, .string ys.sub.text, .slice ya yn yc]] X (PairC (pairK xs ys) X)) := Lib.hid fun X hX => rpair_any (w := X) xs ys xa ya xn xc yn yc hlx hly hX hX hfx hfy hxn hyn
      have hbo := hh.out.1
      have HKN := Lib.hid (And.intro hk (And.intro hlt hj))
      have HXY := Lib.hid (And.intro hsx (And.intro hsy hh.out.2))
      obtain ⟨bb, hbb⟩ : ∃ bb, bb = (pairK xs ys).2 := ⟨_, rfl⟩
      have HBB := Lib.hid hbb
      clear hx hy hlx hly hfx hfy hsx hsy hxn hyn hk hlt hj hh hbb hax hay
      go_wp2_with fail
      refine wp_region_held_drew (S := fun X => Below w.heap.size w X) (by kernel_rfl) (below_drewN hbo 1) (fun hHeld => ?_)
      clear hbo
      refine wpAnyH_take (i := 0) (oi := _) (v := .slice (some ⟨b, off, none⟩) n c) rfl (by kernel_rfl) (by kernel_rfl) (by kernel_rfl) (fun _ _ _ h => h) (Or.inl ⟨by rfl, ?_⟩) (by assumption) ?_
      · clear hHeld; intro X hSw; obtain ⟨⟨c0, c1, c2, c3, c4, c5, c6, c7, c8⟩, d0, d1, d2, d3, d4, d5, d6, d7, d8⟩ := HCX.out X hSw; clear hSw; go_simp
      simp only [Act.put, List.getElem_toArray, List.getElem_cons_zero, List.getElem_cons_succ, List.setIfInBounds_toArray, List.set_cons_zero, List.set_cons_succ]
      refine wpAnyH_take (i := 1) (oi := _) (v := .int .i64 (k : Int)) rfl (by kernel_rfl) (by kernel_rfl) (by kernel_rfl) (fun _ _ _ h => h) (Or.inl ⟨by rfl, ?_⟩) (by assumption) ?_
      · clear hHeld; intro X hSw; obtain ⟨⟨c0, c1, c2, c3, c4, c5, c6, c7, c8⟩, d0, d1, d2, d3, d4, d5, d6, d7, d8⟩ := HCX.out X hSw; clear hSw; go_simp
      simp only [Act.put, List.getElem_toArray, List.getElem_cons_zero, List.getElem_cons_succ, List.setIfInBounds_toArray, List.set_cons_zero, List.set_cons_succ]
      refine wpAnyH_take (i := 2) (oi := _) (v := .pointer (some ⟨b, off + k * 9, none⟩)) rfl (by kernel_rfl) (by kernel_rfl) (by kernel_rfl) (fun _ _ _ h => h) (Or.inl ⟨by rfl, ?_⟩) (by assumption) ?_
      · clear hHeld; intro X hSw; obtain ⟨⟨c0, c1, c2, c3, c4, c5, c6, c7, c8⟩, d0, d1, d2, d3, d4, d5, d6, d7, d8⟩ := HCX.out X hSw; clear hSw; go_simp
      simp only [Act.put, List.getElem_toArray, List.getElem_cons_zero, List.getElem_cons_succ, List.setIfInBounds_toArray, List.set_cons_zero, List.set_cons_succ]
      refine wpAnyH_take (i := 3) (oi := _) (v := .agg #[.int .i8 xs.op, .int .i64 xs.id, .int .i64 xs.par, .int .i64 xs.at_, .string xs.tx, .int .i64 xs.sub.id, .int .i64 xs.sub.kind, .string xs.sub.text, .slice xa xn xc]) rfl (by kernel_rfl) (by kernel_rfl) (by kernel_rfl) (fun _ _ _ h => h) (Or.inl ⟨by rfl, ?_⟩) (by assumption) ?_
      · clear hHeld; intro X hSw; obtain ⟨⟨c0, c1, c2, c3, c4, c5, c6, c7, c8⟩, d0, d1, d2, d3, d4, d5, d6, d7, d8⟩ := HCX.out X hSw; clear hSw; go_simp
      simp only [Act.put, List.getElem_toArray, List.getElem_cons_zero, List.getElem_cons_succ, List.setIfInBounds_toArray, List.set_cons_zero, List.set_cons_succ]
      refine wpAnyH_take (i := 4) (oi := _) (v := .slice (some ⟨b, off, none⟩) n c) rfl (by kernel_rfl) (by kernel_rfl) (by kernel_rfl) (fun _ _ _ h => h) (Or.inl ⟨by rfl, ?_⟩) (by assumption) ?_
      · clear hHeld; intro X hSw; obtain ⟨⟨c0, c1, c2, c3, c4, c5, c6, c7, c8⟩, d0, d1, d2, d3, d4, d5, d6, d7, d8⟩ := HCX.out X hSw; clear hSw; go_simp
      simp only [Act.put, List.getElem_toArray, List.getElem_cons_zero, List.getElem_cons_succ, List.setIfInBounds_toArray, List.set_cons_zero, List.set_cons_succ]
      refine wpAnyH_take (i := 5) (oi := _) (v := .int .i64 (k : Int)) rfl (by kernel_rfl) (by kernel_rfl) (by kernel_rfl) (fun _ _ _ h => h) (Or.inl ⟨by rfl, ?_⟩) (by assumption) ?_
      · clear hHeld; intro X hSw; obtain ⟨⟨c0, c1, c2, c3, c4, c5, c6, c7, c8⟩, d0, d1, d2, d3, d4, d5, d6, d7, d8⟩ := HCX.out X hSw; clear hSw; go_simp
      simp only [Act.put, List.getElem_toArray, List.getElem_cons_zero, List.getElem_cons_succ, List.setIfInBounds_toArray, List.set_cons_zero, List.set_cons_succ]
      refine wpAnyH_take (i := 6) (oi := _) (v := .int .i64 (j : Int)) rfl (by kernel_rfl) (by kernel_rfl) (by kernel_rfl) (fun _ _ _ h => h) (Or.inl ⟨by rfl, ?_⟩) (by assumption) ?_
      · clear hHeld; intro X hSw; obtain ⟨⟨c0, c1, c2, c3, c4, c5, c6, c7, c8⟩, d0, d1, d2, d3, d4, d5, d6, d7, d8⟩ := HCX.out X hSw; clear hSw; go_simp
      simp only [Act.put, List.getElem_toArray, List.getElem_cons_zero, List.getElem_cons_succ, List.setIfInBounds_toArray, List.set_cons_zero, List.set_cons_succ]
      refine wpAnyH_take (i := 7) (oi := _) (v := .pointer (some ⟨b, off + j * 9, none⟩)) rfl (by kernel_rfl) (by kernel_rfl) (by kernel_rfl) (fun _ _ _ h => h) (Or.inl ⟨by rfl, ?_⟩) (by assumption) ?_
      · clear hHeld; intro X hSw; obtain ⟨⟨c0, c1, c2, c3, c4, c5, c6, c7, c8⟩, d0, d1, d2, d3, d4, d5, d6, d7, d8⟩ := HCX.out X hSw; clear hSw; go_simp
      simp only [Act.put, List.getElem_toArray, List.getElem_cons_zero, List.getElem_cons_succ, List.setIfInBounds_toArray, List.set_cons_zero, List.set_cons_succ]
      refine wpAnyH_take (i := 8) (oi := _) (v := .agg #[.int .i8 ys.op, .int .i64 ys.id, .int .i64 ys.par, .int .i64 ys.at_, .string ys.tx, .int .i64 ys.sub.id, .int .i64 ys.sub.kind, .string ys.sub.text, .slice ya yn yc]) rfl (by kernel_rfl) (by kernel_rfl) (by kernel_rfl) (fun _ _ _ h => h) (Or.inl ⟨by rfl, ?_⟩) (by assumption) ?_
      · clear hHeld; intro X hSw; obtain ⟨⟨c0, c1, c2, c3, c4, c5, c6, c7, c8⟩, d0, d1, d2, d3, d4, d5, d6, d7, d8⟩ := HCX.out X hSw; clear hSw; go_simp
      simp only [Act.put, List.getElem_toArray, List.getElem_cons_zero, List.getElem_cons_succ, List.setIfInBounds_toArray, List.set_cons_zero, List.set_cons_succ]
      refine wpAnyH_ready (rs := [9]) (by kernel_rfl) (by simp) ?_
      refine AllReadyH.cons (o := _) rfl (fun K hK => ?_) AllReadyH.nil
      rw [if_pos (by rfl)]
      simp only [List.getElem_toArray, List.getElem_cons_zero, List.getElem_cons_succ]
      have HK := Lib.hid hK
      have HS := Lib.hid hHeld
      clear hK hHeld
      go_wp2_with (go_at_call 9; refine (HC.out _ HS.out).mono ?_; rintro e w2 ⟨pa, pn, pc, rfl, hb2, hpn, js, hjn, hjr, hjs⟩; rw [← HBB.out]; have HP := Lib.hid (And.intro (HS.out.trans (hb2.mono HS.out.size)) (And.intro hpn (And.intro hjn (And.intro (hjr.kept (T := Fresh w w2) fun q hq => ⟨⟨Nat.le_trans HS.out.size hq.1, hq.2⟩, rfl⟩) hjs)))); clear hb2 hpn hjn hjr hjs)
      refine HK.out _ _ HP.out.1 (fun hHeld => ?_)
      clear HK HS
      refine wpAnyH_take (i := 10) (oi := _) (v := .tuple #[.slice pa pn pc, .bool bb]) rfl (by kernel_rfl) (by kernel_rfl) (by kernel_rfl) (fun _ _ _ h => h) (Or.inl ⟨by rfl, ?_⟩) (by assumption) ?_
      · clear hHeld; intro X hSw; obtain ⟨⟨c0, c1, c2, c3, c4, c5, c6, c7, c8⟩, d0, d1, d2, d3, d4, d5, d6, d7, d8⟩ := HCX.out X hSw; clear hSw; go_simp
      simp only [Act.put, List.getElem_toArray, List.getElem_cons_zero, List.getElem_cons_succ, List.setIfInBounds_toArray, List.set_cons_zero, List.set_cons_succ]
      refine wpAnyH_take (i := 11) (oi := _) (v := .slice pa pn pc) rfl (by kernel_rfl) (by kernel_rfl) (by kernel_rfl) (fun _ _ _ h => h) (Or.inl ⟨by rfl, ?_⟩) (by assumption) ?_
      · clear hHeld; intro X hSw; obtain ⟨⟨c0, c1, c2, c3, c4, c5, c6, c7, c8⟩, d0, d1, d2, d3, d4, d5, d6, d7, d8⟩ := HCX.out X hSw; clear hSw; go_simp
      simp only [Act.put, List.getElem_toArray, List.getElem_cons_zero, List.getElem_cons_succ, List.setIfInBounds_toArray, List.set_cons_zero, List.set_cons_succ]
      refine wpAnyH_take (i := 12) (oi := _) (v := .bool bb) rfl (by kernel_rfl) (by kernel_rfl) (by kernel_rfl) (fun _ _ _ h => h) (Or.inl ⟨by rfl, ?_⟩) (by assumption) ?_
      · clear hHeld; intro X hSw; obtain ⟨⟨c0, c1, c2, c3, c4, c5, c6, c7, c8⟩, d0, d1, d2, d3, d4, d5, d6, d7, d8⟩ := HCX.out X hSw; clear hSw; go_simp
      simp only [Act.put, List.getElem_toArray, List.getElem_cons_zero, List.getElem_cons_succ, List.setIfInBounds_toArray, List.set_cons_zero, List.set_cons_succ]
      refine wpAnyH_take (i := 13) (oi := _) (v := .slice pa pn pc) rfl (by kernel_rfl) (by kernel_rfl) (by kernel_rfl) (fun _ _ _ h => h) (Or.inl ⟨by rfl, ?_⟩) (by assumption) ?_
      · clear hHeld; intro X hSw; obtain ⟨⟨c0, c1, c2, c3, c4, c5, c6, c7, c8⟩, d0, d1, d2, d3, d4, d5, d6, d7, d8⟩ := HCX.out X hSw; clear hSw; go_simp
      simp only [Act.put, List.getElem_toArray, List.getElem_cons_zero, List.getElem_cons_succ, List.setIfInBounds_toArray, List.set_cons_zero, List.set_cons_succ]
      refine wpAnyH_take (i := 14) (oi := _) (v := .bool bb) rfl (by kernel_rfl) (by kernel_rfl) (by kernel_rfl) (fun _ _ _ h => h) (Or.inl ⟨by rfl, ?_⟩) (by assumption) ?_
      · clear hHeld; intro X hSw; obtain ⟨⟨c0, c1, c2, c3, c4, c5, c6, c7, c8⟩, d0, d1, d2, d3, d4, d5, d6, d7, d8⟩ := HCX.out X hSw; clear hSw; go_simp
      simp only [Act.put, List.getElem_toArray, List.getElem_cons_zero, List.getElem_cons_succ, List.setIfInBounds_toArray, List.set_cons_zero, List.set_cons_succ]
      refine wpAnyH_done (by kernel_rfl) ?_ _
      clear hHeld HC HCX
      go_upto_region 5 with fail
      cases bb
      · go_wp2_with fail
        refine ⟨⟨j, by have := HKN.out.2.1; have := HKN.out.2.2; omega, rfl, Lib.hid ⟨HP.out.1, fun i u v hi hu hv => ?_⟩⟩, by have := HKN.out.2.1; have := HKN.out.2.2; simp [intOf]; omega⟩
        rcases Nat.lt_or_ge i k with h | h
        · exact HXY.out.2.2 i u v h hu hv
        · have e : i = k := by have := HKN.out.2.2; omega
          subst e
          have h1 := HXY.out.1
          have h2 := HXY.out.2.1
          rw [HKN.out.2.2] at h2
          rw [h1] at hu; rw [h2] at hv; cases hu; cases hv
          exact HBB.out.symm
      · have HON := Lib.hid (onceK_at (steps vs) k xs ys HXY.out.1 (by rw [← HKN.out.2.2]; exact HXY.out.2.1) HXY.out.2.2 HBB.out.symm)
        obtain ⟨q, hq⟩ : ∃ q, q = k + 2 := ⟨_, rfl⟩
        have hqw : IntKind.i64.wrap ((k : Int) + 2) = (q : Int) := by rw [IntWalk.i64_in _ (by have := HKN.out.2.1; omega)]; omega
        have HQ := Lib.hid (And.intro hq (show q ≤ n by have := HKN.out.2.1; omega))
        have hqn : (q : Int) ≤ (n : Int) := by have := HQ.out.2; omega
        have hkc : (k : Int) ≤ (c : Int) := by have := H.out.cap; have := HKN.out.2.1; omega
        have hnc : (n : Int) ≤ (c : Int) := by have := H.out.cap; omega
        have HLT := Lib.hid (show (vs.take k).length = k by rw [List.length_take, ← H.out.len]; have := HKN.out.2.1; omega)
        have HPN := Lib.hid (show pn ≤ 1 by rw [HP.out.2.2.1, ← steps_len, HP.out.2.2.2.2]; exact pairK_len xs ys)
        clear hq
        go_upto_region 8 with (at_builtin; refine wpList_append_rowS rfl (.tmp 29) (.tmp 32) rfl w2.heap.size (.slice none 0 0) 0 [] rfl (World.ownsRow_nil _ _ _ _) w (some ⟨b, off, none⟩) k c (vs.take k) rfl HLT.out.symm (H.out.row.take k) HP.out.1 (fun h => by cases h) (by omega) (by have := HKN.out.2.1; omega) (Nat.le_refl _) ?_; intro v1 W1 hown hgrow; rw [Nat.zero_add, List.nil_append] at hown; have HE := Lib.hid (And.intro hown ((Below.refl w2.heap.size w2).grown hgrow (Nat.le_refl _) (fun y hy => by cases hy))); clear hown hgrow)
        obtain ⟨oa, oc, rfl⟩ := owns_slice HE.out.1
        go_upto_region 9 with (at_builtin; refine wpList_append_rowS rfl (.tmp 34) (.tmp 35) rfl w2.heap.size (.slice oa k oc) k (cells9 (vs.take k)) rfl HE.out.1 w2 pa pn pc js rfl HP.out.2.2.1 (HP.out.2.2.2.1.row fun _ hq => hq.2) HE.out.2 HP.out.2.1 (by have := HKN.out.2.1; omega) (by have := HPN.out; omega) HE.out.2.size ?_; intro v2 W2 hown hgrow; have HF := Lib.hid (And.intro hown (HE.out.2.grown hgrow HE.out.2.size (fun y hy => (owns_bounds HE.out.1 hy).1))); clear hown hgrow)
        obtain ⟨qa, qc, rfl⟩ := owns_slice HF.out.1
        have HB9 := Lib.hid (HP.out.1.trans (HF.out.2.mono HP.out.1.size))
        have HLD := Lib.hid (show n - q = (vs.drop q).length by rw [List.length_drop, ← H.out.len])
        by_cases hcq : c = q
        · subst hcq
          have HDR := Lib.hid (H.out.row.drop c (some ⟨b, off, none⟩) (fun hh => absurd hh (by rw [← H.out.len]; have := H.out.cap; omega)))
          go_wp2_with (at_builtin; refine wpList_append_rowS rfl (.tmp 37) (.tmp 41) rfl w2.heap.size (.slice qa (k + pn) qc) (k + pn) (cells9 (vs.take k) ++ cells9 js) rfl HF.out.1 w (some ⟨b, off, none⟩) (n - c) 0 (vs.drop c) rfl HLD.out HDR.out HB9.out (fun h => by cases h) (by have := HKN.out.2.1; have := HPN.out; omega) (by omega) HF.out.2.size ?_; intro v3 W3 hown hgrow; have HG := Lib.hid (And.intro hown (HF.out.2.grown hgrow HF.out.2.size (fun y hy => (owns_bounds HF.out.1 hy).1))); clear hown hgrow)
          obtain ⟨ra, rc, rfl, hrs, hri, hst⟩ := once_end HI.out.2 HI.out.1 HG.out.1 HP.out.1 HG.out.2 H.out.len ⟨by have := HKN.out.2.1; omega, HQ.out.2⟩ HP.out.2.2.1 HP.out.2.2.2.1 hn HPN.out
          go_ret2
          refine ⟨ra, _, rc, _, ?_, hrs, hri, ?_, HP.out.1.trans (HG.out.2.mono HP.out.1.size)⟩
          · rw [HON.out]; rfl
          · rw [HON.out, hst, HP.out.2.2.2.2]; simp only [HQ.out.1, steps_take, steps_drop]
        · have HDR := Lib.hid (H.out.row.drop q (some ⟨b, off + q * 9, none⟩) (fun _ => by rw [Addr.add_mid]))
          go_wp2_with (at_builtin; refine wpList_append_rowS rfl (.tmp 37) (.tmp 41) rfl w2.heap.size (.slice qa (k + pn) qc) (k + pn) (cells9 (vs.take k) ++ cells9 js) rfl HF.out.1 w (some ⟨b, off + q * 9, none⟩) (n - q) (c - q) (vs.drop q) rfl HLD.out HDR.out HB9.out (fun h => by cases h) (by have := HKN.out.2.1; have := HPN.out; omega) (by omega) HF.out.2.size ?_; intro v3 W3 hown hgrow; have HG := Lib.hid (And.intro hown (HF.out.2.grown hgrow HF.out.2.size (fun y hy => (owns_bounds HF.out.1 hy).1))); clear hown hgrow)
          obtain ⟨ra, rc, rfl, hrs, hri, hst⟩ := once_end HI.out.2 HI.out.1 HG.out.1 HP.out.1 HG.out.2 H.out.len ⟨by have := HKN.out.2.1; omega, HQ.out.2⟩ HP.out.2.2.1 HP.out.2.2.2.1 hn HPN.out
          go_ret2
          refine ⟨ra, _, rc, _, ?_, hrs, hri, ?_, HP.out.1.trans (HG.out.2.mono HP.out.1.size)⟩
          · rw [HON.out]; rfl
          · rw [HON.out, hst, HP.out.2.2.2.2]; simp only [HQ.out.1, steps_take, steps_drop]
    · have hkl : ¬ (j : Int) < (n : Int) := by omega
      have HB := Lib.hid hh.out.1
      have HE := Lib.hid (onceK_none (steps vs) (fun i u v hu hv => hh.out.2 i u v (by have := (List.getElem?_eq_some_iff.1 hv).1; rw [steps_len, ← H.out.len] at this; omega) hu hv))
      clear hh hlt hj
      go_wp2_with fail
      go_ret2
      exact ⟨la, n, c, vs, by rw [HE.out]; rfl, H.out.on HB.out, HI.out.2.kept fun q hq => ⟨.inl hq, HB.out.block q (HI.out.1 q hq)⟩, by rw [HE.out], HB.out⟩
end Go.Proofs.Ytpbjncljecfaeaa
