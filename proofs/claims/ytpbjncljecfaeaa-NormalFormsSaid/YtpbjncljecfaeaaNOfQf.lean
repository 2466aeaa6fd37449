/-
  Steps: all rows on the way to the normal form. No condition but that there are not too many steps and nodes.
  Of: a row's normal form. No condition but that there are not too many steps and nodes.
-/
import Derived.Deep.Cut
import Derived.Maps.AppendAt
import Derived.Test.YtpbjncljecfaeaaNOnceQf
namespace Go.Proofs.Ytpbjncljecfaeaa
open Go.RowKit Go.Shelf
set_option linter.unusedVariables false
set_option linter.unusedSimpArgs false

theorem Try.infoRowI : (Try.prog.info? 29).map (fun i => (i.size, i.bytes, i.zero.map (fun z => z.cells.size))) = some (1, 24, some 1) := by kernel_rfl
/-- A row, its header and its steps. -/
structure SR where
  a : Option Addr
  n : Nat
  c : Nat
  vs : List SV
def SR.hdr (r : SR) : Value := .slice r.a r.n r.c
/-- A row that lies in blocks of a kind, with its header's numbers. -/
structure Good (S : Nat → Prop) (w : World) (r : SR) : Prop where
  row : RowIn S w r.a r.vs
  len : r.n = r.vs.length
  cap : r.n ≤ r.c
  nil : r.a = none → r.c = 0
theorem Good.kept {S T : Nat → Prop} {w X : World} {r : SR} (h : Good S w r) (hS : ∀ q, S q → T q ∧ X.heap[q]? = w.heap[q]?) : Good T X r := ⟨h.row.kept hS, h.len, h.cap, h.nil⟩
theorem Good.rowS {S : Nat → Prop} {w : World} {r : SR} (h : Good S w r) (hS : ∀ q, S q → q < w.heap.size) : RowS w r.a r.n r.c r.vs := ⟨h.row.row hS, h.len, h.cap, h.nil⟩
/-- The blocks beside a value's own. -/
def Beside (w : World) (v : Value) : Nat → Prop := fun q => q < w.heap.size ∧ v.ownBlock ≠ some q
def StepsC (W : List (List Sf)) (w : World) (e : Ending) (w' : World) : Prop := ∃ v m, ∃ rs : List SR, e = .returned v ∧ w'.ownsRow w.heap.size 29 1 v m (rs.map SR.hdr) ∧ (∀ r ∈ rs, Good (Beside w' v) w' r) ∧ (rs.map fun r => steps r.vs) = W ∧ Below w.heap.size w w'
def stM (cv okv : Value) : Nat := match okv, cv with | .bool true, .slice _ n _ => n + 1 | _, _ => 0
theorem steps_more {w X : World} {v v' : Value} {rs : List SR} {cur : SR} (hr : ∀ r ∈ rs, Good (Beside w v) w r) (hc : Good (Beside w v) w cur) (hv : v'.ownBlock = v.ownBlock ∨ ∃ b, w.heap.size ≤ b ∧ v'.ownBlock = some b) (hk : ∀ q, Beside w v q → X.heap[q]? = w.heap[q]?) (hs : w.heap.size ≤ X.heap.size) : (∀ r ∈ rs ++ [cur], Good (Beside X v') X r) := fun r h => by
  have hg : Good (Beside w v) w r := by
    rcases List.mem_append.1 h with h | h
    · exact hr r h
    · simp at h; subst h; exact hc
  refine hg.kept fun q hq => ⟨⟨Nat.lt_of_lt_of_le hq.1 hs, ?_⟩, hk q hq⟩
  rcases hv with hv | ⟨b, hb, hv⟩
  · rw [hv]; exact hq.2
  · rw [hv]; intro e; have := hq.1; cases e; omega
theorem steps_new {Y : World} {g : Nat} {x : Value} {T : TypeId} (h : Y.heap[g]? = some (.cells #[x] T (0, 0))) {j : Nat} {u : Value} (hj : [x][j]? = some u) : Y.cell? ((⟨g, 0, none⟩ : Addr).add j) = some u := by
  match j, hj with
  | 0, hj =>
    simp at hj; subst hj
    exact (cell_of_row _ _ _ _ _ _ h).trans rfl
  | j + 1, hj => simp at hj
theorem onceK_le (l : List Sf) : (onceK l).1.length ≤ l.length := by
  by_cases h : (onceK l).2 = true
  · exact Nat.le_of_lt (onceK_less h)
  · rw [onceK_not (by simpa using h)]; exact Nat.le_refl _
theorem wayK_go {k : Nat} {l : List Sf} (h : (onceK l).2 = true) (hk : l.length ≤ k) : ∃ j, (onceK l).1.length ≤ j ∧ wayK k l = l :: wayK j (onceK l).1 := by
  have h1 := onceK_less h
  obtain ⟨j, rfl⟩ : ∃ j, k = j + 1 := ⟨k - 1, by omega⟩
  exact ⟨j, by omega, by rw [wayK, if_pos h]⟩
theorem wayK_end {k : Nat} {l : List Sf} (h : (onceK l).2 = false) : wayK k l = [l] := by
  cases k with
  | zero => rfl
  | succ k => rw [wayK, if_neg (by rw [h]; decide)]
set_option maxRecDepth 100000 in
set_option maxHeartbeats 8000000 in
theorem stepsR_any (w : World) (la : Option Addr) (n c : Nat) (vs : List SV) (h : RowS w la n c vs) (hn : n ≤ 10000) :
    Calls Try.prog 16 #[.slice la n c] w (StepsC (wayK n (steps vs)) w) := by
  have HW : Hid (∃ W, W = wayK n (steps vs)) := Lib.hid ⟨_, rfl⟩
  obtain ⟨W, hW⟩ := HW.out
  rw [← hW]
  have H := Lib.hid (And.intro h (And.intro hW h.len))
  clear h hW HW
  go_enter Try.func16, Try.ntmps16
  go_wp2_with fail
  go_loopw [0, 3, 4] (fun cv ov okv wr => ∃ (xa : Option Addr) (xn xc : Nat) (xs : List SV) (m : Nat) (v : Value) (rs : List SR) (b : Bool), cv = .slice xa xn xc ∧ v = ov ∧ okv = .bool b ∧ m + xn ≤ n + 1 ∧ Hid (Below w.heap.size w wr ∧ wr.ownsRow w.heap.size 29 1 v m (rs.map SR.hdr) ∧ (∀ r ∈ rs, Good (Beside wr v) wr r) ∧ Good (Beside wr v) wr ⟨xa, xn, xc, xs⟩ ∧ (b = true → m + xn ≤ n ∧ ∃ k, xn ≤ k ∧ W = (rs.map fun r => steps r.vs) ++ wayK k (steps xs)) ∧ (b = false → W = rs.map fun r => steps r.vs))) (fun cv _ okv _ => stM cv okv)
  case atStart => exact ⟨la, n, c, vs, 0, _, [], true, rfl, rfl, rfl, by omega, Lib.hid ⟨Below.refl _ _, World.ownsRow_nil _ _ _ _, fun r h => by simp at h, ⟨H.out.1.row.inn.kept fun q hq => ⟨⟨hq, by simp [Value.ownBlock]⟩, rfl⟩, H.out.1.len, H.out.1.cap, H.out.1.nil⟩, fun _ => ⟨by omega, n, Nat.le_refl _, by rw [H.out.2.1]; rfl⟩, fun h => by cases h⟩⟩
  case round =>
    obtain ⟨xa, xn, xc, xs, m, v, rs, b, rfl, rfl, rfl, hm, hh⟩ := hrel
    obtain ⟨wo, hwo⟩ : ∃ wo, wo = wr := ⟨_, rfl⟩
    subst hwo
    cases b
    · have HH := Lib.hid hh.out
      clear hh
      go_wp2_with fail
      go_ret
      exact ⟨_, m, rs, rfl, HH.out.2.1, HH.out.2.2.1, (HH.out.2.2.2.2.2 trivial).symm, HH.out.1⟩
    · obtain ⟨i1, z1, hi1, hy0, hy1, hy2, hy3⟩ := info_wide Try.infoRowI
      have HI := Lib.hid (And.intro hi1 (And.intro hy0 (And.intro hy1 (And.intro hy2 hy3))))
      obtain ⟨hmn, k, hk, hWk⟩ := hh.out.2.2.2.2.1 rfl
      obtain ⟨Y, hY⟩ : ∃ Y, Y = wo.alloc (.cells #[.slice xa xn xc] 29) := ⟨_, rfl⟩
      have hbY : Below wo.heap.size wo Y := by rw [hY]; exact (Below.refl _ _).alloc (Nat.le_refl _) _
      have hnew : Y.heap[wo.heap.size]? = some (.cells #[.slice xa xn xc] 29 (0, 0)) := by rw [hY]; exact heap_alloc_new _ _
      have HO := Lib.hid (owns_kept hh.out.2.1 fun g cur hg _ => hbY.block g (lt_of_heap hg))
      have HK := Lib.hid (And.intro hk hWk)
      have HH := Lib.hid hh.out
      have HY := Lib.hid (And.intro hbY hnew)
      have HYE := Lib.hid hY
      have HM := Lib.hid hmn
      clear hh hi1 hy0 hy1 hy2 hy3 hk hWk hY hbY hnew hmn
      go_upto_region 5 with (at_builtin; change wpList _ _ _ _ _ (wo.alloc (.cells #[.slice xa xn xc] 29)); rw [← HYE.out]; refine wpList_append_own_at _ rfl (.tmp 6) (.tmp 8) _ rfl w.heap.size 29 i1 z1 1 24 Try.underlying37 HI.out.1 HI.out.2.1 HI.out.2.2.1 HI.out.2.2.2.1 HI.out.2.2.2.2 (by omega) v m (rs.map SR.hdr) rfl HO.out ⟨wo.heap.size, 0, none⟩ 1 1 [.slice xa xn xc] rfl rfl (fun j u hj => steps_new HY.out.2 hj) (by intro u hu; simp only [List.mem_cons, List.not_mem_nil, or_false] at hu; rw [hu]; rfl) (by unfold maxLen; omega) (by omega) (Nat.le_trans HH.out.1.size HY.out.1.size) ?_; intro v2 W2 hown hgrow _ hat; have HA := Lib.hid (And.intro hown (And.intro hgrow hat)); clear hown hgrow hat)
      obtain ⟨bb, hbb⟩ : ∃ bb, bb = (onceK (steps xs)).2 := ⟨_, rfl⟩
      have HBB := Lib.hid hbb
      have HG := Lib.hid (steps_more (w := wo) (X := W2) (v := v) (v' := v2) HH.out.2.2.1 HH.out.2.2.2.1 (HA.out.2.2.imp id fun h => ⟨_, HY.out.1.size, h⟩) (fun q hq => (HA.out.2.1.block q (Nat.lt_of_lt_of_le hq.1 HY.out.1.size) (Ne.symm hq.2)).trans (HY.out.1.block q hq.1)) (Nat.le_trans HY.out.1.size HA.out.2.1.size))
      have HC := Lib.hid (HG.out ⟨xa, xn, xc, xs⟩ (by simp))
      have HB2 := Lib.hid ((HH.out.1.trans (HY.out.1.mono HH.out.1.size)).grown HA.out.2.1 (Nat.le_trans HH.out.1.size HY.out.1.size) (fun y hy => (owns_bounds HO.out hy).1))
      have HON := Lib.hid (once_any W2 (Beside W2 v2) xa xn xc xs (HC.out.rowS fun q hq => hq.1) (by have := HM.out; omega) (fun q hq => hq.1) HC.out.row)
      clear hbb
      go_wp2_with (go_at_call 27; refine HON.out.mono ?_; rintro e W3 ⟨ya, yn, yc, ys, rfl, hyr, hyi, hys, hyb⟩; rw [← HBB.out]; have HE := Lib.hid (And.intro hyr (And.intro hyi (And.intro hys hyb))); clear hyr hyi hys hyb)
      have hyb := HE.out.2.2.2
      have hl : yn = (onceK (steps xs)).1.length := by rw [← HE.out.2.2.1, steps_len]; exact HE.out.1.len
      have hx : xn = (steps xs).length := by rw [steps_len]; exact HC.out.len
      have hq : ∀ q, Beside W2 v2 q → Beside W3 v2 q ∧ W3.heap[q]? = W2.heap[q]? := fun q hq => ⟨⟨Nat.lt_of_lt_of_le hq.1 hyb.size, hq.2⟩, hyb.block q hq.1⟩
      have hmap : (rs ++ [(⟨xa, xn, xc, xs⟩ : SR)]).map SR.hdr = rs.map SR.hdr ++ [.slice xa xn xc] := by simp [SR.hdr]
      have hmap2 : ((rs ++ [(⟨xa, xn, xc, xs⟩ : SR)]).map fun r => steps r.vs) = (rs.map fun r => steps r.vs) ++ [steps xs] := by simp
      refine ⟨⟨ya, yn, yc, ys, m + 1, v2, rs ++ [⟨xa, xn, xc, xs⟩], bb, rfl, rfl, rfl, ?_, Lib.hid ⟨HB2.out.trans (hyb.mono HB2.out.size), ?_, fun r hr => (HG.out r hr).kept hq, ⟨HE.out.2.1.kept fun q h => ?_, HE.out.1.len, HE.out.1.cap, HE.out.1.nil⟩, fun h => ?_, fun h => ?_⟩⟩, ?_⟩
      · have h1 := onceK_le (steps xs)
        have := HM.out; omega
      · rw [hmap]
        exact owns_kept HA.out.1 fun g cur hg _ => hyb.block g (lt_of_heap hg)
      · rcases h with h | h
        · exact (hq q h)|>.imp id (fun _ => rfl)
        · exact ⟨⟨h.2, fun e => by have := (HA.out.1.lt q e).2; have := h.1; omega⟩, rfl⟩
      · have ht : (onceK (steps xs)).2 = true := by rw [← HBB.out]; exact h
        obtain ⟨j, hj, hw⟩ := wayK_go ht (by rw [← hx]; exact HK.out.1)
        have h1 := onceK_less ht
        exact ⟨by have := HM.out; omega, j, by omega, by rw [hmap2, HK.out.2, hw, HE.out.2.2.1]; simp⟩
      · have ht : (onceK (steps xs)).2 = false := by rw [← HBB.out]; exact h
        rw [hmap2, HK.out.2, wayK_end ht]
      · cases bb
        · simp [stM]
        · have h1 := onceK_less HBB.out.symm
          simp only [stM]; omega
end Go.Proofs.Ytpbjncljecfaeaa
namespace Go.Proofs.Ytpbjncljecfaeaa
open Go.RowKit Go.Shelf
set_option linter.unusedVariables false
set_option linter.unusedSimpArgs false

def OfC (l : List Sf) (w : World) (e : Ending) (w' : World) : Prop := ∃ a n c vs, e = .returned (.slice a n c) ∧ RowS w' a n c vs ∧ steps vs = l ∧ Below w.heap.size w w'
theorem wayK_len : ∀ (n : Nat) (l : List Sf), (wayK n l).length ≤ n + 1
  | 0, l => Nat.le_refl _
  | n + 1, l => by
    rw [wayK]
    split
    · have := wayK_len n (onceK l).1; rw [List.length_cons]; omega
    · simp
theorem steps_end {n : Nat} {l : List Sf} {rs : List SR} (h : (rs.map fun r => steps r.vs) = wayK n l) : ∃ r, rs[rs.length - 1]? = some r ∧ 0 < rs.length ∧ rs.length ≤ n + 1 ∧ r ∈ rs ∧ steps r.vs = ofK n l := by
  have h0 : rs ≠ [] := fun e => wayK_pos n l (by rw [← h, e]; rfl)
  have h1 : 0 < rs.length := List.length_pos_iff.2 h0
  refine ⟨rs.getLast h0, by rw [← List.getLast?_eq_getElem?, List.getLast?_eq_some_getLast h0], h1, by have := wayK_len n l; rw [← h, List.length_map] at this; exact this, List.getLast_mem h0, ?_⟩
  rw [← wayK_last]
  simp only [← h]
  rw [List.getLast_map]
set_option maxRecDepth 100000 in
set_option maxHeartbeats 8000000 in
theorem of_any (w : World) (la : Option Addr) (n c : Nat) (vs : List SV) (h : RowS w la n c vs) (hn : n ≤ 10000) :
    Calls Try.prog 12 #[.slice la n c] w (OfC (ofK n (steps vs)) w) := by
  have HC := Lib.hid (stepsR_any w la n c vs h hn)
  clear h
  go_enter Try.func12, Try.ntmps12
  go_upto_region 2 with (go_at_call 16; refine HC.out.mono ?_; rintro e w2 ⟨v, m, rs, rfl, ho, hg, hs, hb⟩; have HE := Lib.hid (And.intro ho (And.intro hg (And.intro (steps_end hs) hb))); clear ho hg hs hb)
  obtain ⟨r, hr, hl, hlm, hm, hs⟩ := HE.out.2.2.1
  obtain ⟨oa, oc, rfl⟩ := owns_slice HE.out.1
  have hml : m = rs.length := by have := HE.out.1.1; simpa using this.symm
  obtain ⟨g, rfl⟩ : ∃ g, oa = some ⟨g, 0, none⟩ := by
    rcases HE.out.1.2 with ⟨_, h0⟩ | ⟨g, _, _, e, _⟩
    · omega
    · cases e; exact ⟨g, rfl⟩
  obtain ⟨j, hj⟩ : ∃ j, m = j + 1 := ⟨m - 1, by omega⟩
  subst hj
  have hc : w2.cell? ⟨g, j, none⟩ = some (.slice r.a r.n r.c) := owns_cell HE.out.1 rfl _ _ (by rw [List.getElem?_map, show j = rs.length - 1 by omega, hr]; rfl)
  have HR := Lib.hid (And.intro ((HE.out.2.1 r hm).rowS fun q hq => hq.1) hs)
  have hjn : j ≤ 10000 := by omega
  have hjw : IntKind.i64.wrap (j : Int) = (j : Int) := IntWalk.i64_in _ (by omega)
  clear hr hl hlm hm hs hml
  go_wp2_with fail
  go_ret
  exact ⟨r.a, r.n, r.c, r.vs, rfl, HR.out.1, HR.out.2, HE.out.2.2.2⟩
end Go.Proofs.Ytpbjncljecfaeaa
