/-
  The document's own Show of a tree. No condition but that there are not too many nodes, and not too long texts.
-/
import Derived.Test.YtbbiemnjidfglaaDoorRShowP
import Derived.BigQuiet
namespace Go.Proofs.YtbbiemnjidfglaaDoor
open Go.RowKit Go.Shelf
open Extern.Stop (cell)
set_option linter.unusedVariables false
set_option linter.unusedSimpArgs false

theorem boxN {w : World} {b : Nat} {c0 c1 c2 c3 : Value} (h : w.heap[b]? = some (.cells #[c0, c1, c2, c3] 24 (0, 0))) : w.cell? ⟨b, 0, none⟩ = some c0 ∧ w.cell? ⟨b, 1, none⟩ = some c1 ∧ w.cell? ⟨b, 2, none⟩ = some c2 ∧ w.cell? ⟨b, 3, none⟩ = some c3 :=
  ⟨by rw [cell_of_row _ _ 0 _ _ _ h]; rfl, by rw [cell_of_row _ _ 1 _ _ _ h]; rfl, by rw [cell_of_row _ _ 2 _ _ _ h]; rfl, by rw [cell_of_row _ _ 3 _ _ _ h]; rfl⟩
theorem inC6 {W0 X : World} {f : FuncId} {args : Array Value} {v : Value} (hX : Below W0.heap.size W0 X) (h : Calls Tryd.prog f args X fun e w' => e = .returned v ∧ Below X.heap.size X w') :
    Calls Tryd.prog f args X fun e w' => e = .returned v ∧ Below W0.heap.size W0 w' := h.mono fun _ _ ⟨h1, h2⟩ => ⟨h1, hX.trans (h2.mono hX.size)⟩
def i64F : Fo → Prop
  | .nil => True
  | .node _ _ k l r => (I64 k.1 ∧ I64 k.2.1) ∧ i64F l ∧ i64F r
def i64T (t : Tr) : Prop := (I64 t.id ∧ I64 t.kind) ∧ i64F t.kids
theorem i64F_drop : ∀ (k : Nat) {f : Fo} {b o : Nat} {a : Int × Int × ByteArray} {l r : Fo}, i64F f → foDrop k f = .node b o a l r → i64T ⟨a.1, a.2.1, a.2.2, l⟩
  | 0, .node _ _ _ _ _, _, _, _, _, _, h, e => by cases e; exact ⟨h.1, h.2.1⟩
  | k + 1, .node _ _ _ _ _, _, _, _, _, _, h, e => i64F_drop k h.2.2 e
  | 0, .nil, _, _, _, _, _, _, e => by cases e
  | _ + 1, .nil, _, _, _, _, _, _, e => by cases e
theorem i64F_mem : ∀ (d : Nat) (f : Fo), i64F f → ∀ x ∈ spF d f, I64 x.2.1.1 ∧ I64 x.2.1.2.1
  | _, .nil, _, x, h => by simp [spF] at h
  | d, .node _ _ k l r, hf, x, h => by
    simp only [spF, List.mem_cons, List.mem_append] at h
    rcases h with rfl | h | h
    · exact hf.1
    · exact i64F_mem (d + 1) l hf.2.1 x h
    · exact i64F_mem d r hf.2.2 x h
def kidsL (k : Nat) (f : Fo) : List UInt8 := if k = 0 then [] else 40 :: rK (foTake k f)
theorem rK_take : ∀ (k : Nat) (f : Fo), (rK (foTake k f)).length ≤ (rK f).length
  | 0, _ => by simp [foTake, rK]
  | _ + 1, .nil => Nat.le_refl _
  | k + 1, .node _ _ a l r => by
    have := rK_take k r
    simp only [foTake, rK, List.length_append]
    by_cases hr : foLen r = 0
    · have hrn : r = .nil := fo_nil_of_len hr
      subst hrn
      cases k <;> simp [foTake, foLen]
    · rw [if_neg hr]
      by_cases hk : foLen (foTake k r) = 0
      · rw [if_pos hk]; simp only [List.length_nil, List.length_cons]; omega
      · rw [if_neg hk]; simp only [List.length_cons]; omega
theorem kidsL_length (k : Nat) (f : Fo) : (kidsL k f).length ≤ (rK f).length + 1 := by
  unfold kidsL
  split
  · simp
  · have := rK_take k f; simp only [List.length_cons]; omega
theorem kidsL_snoc (k : Nat) (f : Fo) (b o : Nat) (a : Int × Int × ByteArray) (l : Fo) (h : foTake (k + 1) f = foSnoc (foTake k f) b o a l) (hl : foLen (foTake k f) = k) : kidsL (k + 1) f = kidsL k f ++ ((if k = 0 then [40] else [44]) ++ rT ⟨a.1, a.2.1, a.2.2, l⟩) := by
  unfold kidsL
  rw [if_neg (Nat.succ_ne_zero k), h, rK_snoc, hl]
  by_cases hk : k = 0
  · subst hk; simp [foTake, rK]
  · simp [hk]
theorem extract_one (s : ByteArray) (k : Nat) (h : k < s.size) : s.extract k (k + 1) = ⟨[s[k]'h].toArray⟩ := by
  apply ByteArray.ext
  rw [ByteArray.data_extract]
  apply Array.ext (by simp; have : s.data.size = s.size := rfl; omega)
  intro i h1 h2
  have hi : i = 0 := by simp at h2; omega
  subst hi
  simp
  rfl
theorem esc_two {u : UInt8} (h : u = 34 ∨ u = 92) : escB u = [92, u] := by simp [escB, h]
theorem esc_one {u : UInt8} (h1 : u ≠ 34) (h2 : u ≠ 92) : escB u = [u] := by simp [escB, h1, h2]
theorem quoP_all (s : ByteArray) : quoP s s.size ++ [34] = quoL s.data.toList := by
  have ht : s.data.toList.take s.size = s.data.toList := List.take_of_length_le (Nat.le_of_eq (Array.length_toList (xs := s.data)))
  rw [quoP, quoL, ht]; rfl
def RShowInv (w : World) (A : List UInt8) (ks : Fo) (len : Nat) (c1 : Array Value) (s i : Value) (wr : World) : Prop :=
  ∃ (k : Nat) (Y : ByteArray), k ≤ len ∧ i = .int .i64 (k : Int) ∧ s = .string Y ∧ Y = ⟨(A ++ kidsL k ks).toArray⟩ ∧ Below w.heap.size w wr ∧ wr.heap[w.heap.size]? = some (.cells c1 24 (0, 0))
theorem add_str (W : World) (a b : ByteArray) (h : a.size + b.size ≤ 9223372036854775807) : (binOp .add 9 (.string a) (.string b)).run Tryd.prog W = .ok (.string (a ++ b)) W := by
  have h' : ¬ 9223372036854775807 < a.size + b.size := by omega
  go_simp
set_option maxRecDepth 100000 in
set_option maxHeartbeats 4000000 in
theorem rshow_any : ∀ (m : Nat) (w : World) (S : Nat → Prop) (v : Value) (t : Tr), foSize t.kids < m → m ≤ 1000000 → (∀ k, S k → k < w.heap.size) → TrAt w S v t → i64T t → (rT t).length ≤ 10000000000000 →
    Calls Tryd.prog 23 #[v] w (SayC w (rT t)) := by
  intro m
  induction m with
  | zero => intro w S v t h; omega
  | succ m ih =>
    intro w S v t hm hm6 hS hv hi hlen0
    obtain ⟨ka, cap, rfl, hcp, hk⟩ := hv
    obtain ⟨id, kd, tx, ks⟩ := t
    simp only at hk hm hcp
    simp only
    obtain ⟨len, hlen⟩ : ∃ len, len = foLen ks := ⟨_, rfl⟩
    rw [← hlen]
    obtain ⟨W0, hW0⟩ : ∃ W0, W0 = w.alloc (.cells #[.int .i64 id, .int .i64 kd, .string tx, .slice ka len cap] 24) := ⟨_, rfl⟩
    have hb0 : Below w.heap.size w W0 := by rw [hW0]; exact (Below.refl _ w).alloc (Nat.le_refl _) _
    have hbx : W0.heap[w.heap.size]? = some (.cells #[.int .i64 id, .int .i64 kd, .string tx, .slice ka len cap] 24 (0, 0)) := by rw [hW0]; exact heap_alloc_new w _
    have HBOX := Lib.hid (fun (X : World) (h : Below W0.heap.size W0 X) => boxN ((h.block _ (lt_of_heap hbx)).trans hbx))
    have HDI := Lib.hid (fun (X : World) (h : Below W0.heap.size W0 X) => inC6 h (digits_any X id hi.1.1))
    have HDK := Lib.hid (fun (X : World) (h : Below W0.heap.size W0 X) => inC6 h (digits_any X kd hi.1.2))
    obtain ⟨HL, hHL⟩ : ∃ HL, HL = headL (id, kd, tx) := ⟨_, rfl⟩
    obtain ⟨X0, hX0⟩ : ∃ X0 : ByteArray, X0 = ⟨(Lib.itoa id).toArray⟩ ++ ⟨#[58]⟩ := ⟨_, rfl⟩
    obtain ⟨X1, hX1⟩ : ∃ X1 : ByteArray, X1 = X0 ++ ⟨(Lib.itoa kd).toArray⟩ := ⟨_, rfl⟩
    have hX1e : X1 = ⟨HL.toArray⟩ := by
      rw [hX1, hX0, hHL]
      have e1 := bytes_append (Lib.itoa id) [58]
      have e2 := bytes_append (Lib.itoa id ++ [58]) (Lib.itoa kd)
      rw [← e1] at e2
      exact e2
    have hid : (Lib.itoa id).length ≤ 10000000000000 := by have := hlen0; simp only [rT, headL, List.length_append] at this; omega
    have hkd : (Lib.itoa kd).length ≤ 10000000000000 := by have := hlen0; simp only [rT, headL, List.length_append] at this; omega
    have hX0s : X0.size ≤ 10000000000001 := by rw [hX0, ByteArray.size_append, bytes_size]; show _ + 1 ≤ _; omega
    have hq0 : ¬ 9223372036854775807 < (Lib.itoa id).length + 1 := by omega
    have hq1 : ¬ 9223372036854775807 < X0.size + (Lib.itoa kd).length := by omega
    have HX0 := Lib.hid hX0
    have HX1 := Lib.hid hX1
    have HX1E := Lib.hid hX1e
    have HN := Lib.hid (And.intro hm (And.intro hi.2 hlen0))
    have hlen6 : len ≤ 1000000 := by have := foLen_le ks; omega
    have HM6 := Lib.hid hm6
    have HLEN := Lib.hid hlen
    have HK := Lib.hid hk
    have HSS := Lib.hid hS
    have HIH := Lib.hid ih
    have HB0 := Lib.hid (And.intro hb0 (And.intro hbx hW0))
    have HFIN := Lib.hid (show rT ⟨id, kd, tx, ks⟩ = HL ++ (textL tx ++ (if foLen ks = 0 then [] else 40 :: (rK ks ++ [41]))) by rw [hHL]; rfl)
    have HLL := Lib.hid (show HL.length + (textL tx).length + (if foLen ks = 0 then 0 else (rK ks).length + 2) ≤ 10000000000000 by
      have h := hlen0
      rw [HFIN.out, List.length_append, List.length_append] at h
      split at h
      · rename_i h0; rw [if_pos h0]; simp only [List.length_nil] at h; omega
      · rename_i h0; rw [if_neg h0]; simp only [List.length_cons, List.length_append, List.length_nil] at h; omega)
    clear hm hm6 hk hS ih hcp hlen hb0 hbx hi hlen0 hX0 hX1 hX1e hHL hW0
    go_enter Tryd.func23, Tryd.ntmps23
    go_wp2_with fail
    rw [← HB0.out.2.2]
    refine wp_region_quiet (C := fun X => Below W0.heap.size W0 X) (by kernel_rfl) (by kernel_rfl) (show Below W0.heap.size W0 W0.drew from ⟨rfl, rfl, rfl, Nat.le_refl _, fun _ _ => rfl⟩) ?_
    refine wpQuiet_step (fun K hK => ?_)
    rw [if_pos (by rfl)]
    refine ⟨.pointer (some ⟨w.heap.size, 0, none⟩), fun X hX => ?_, hK _ ?_⟩
    · clear hK; go_simp
    clear hK K
    simp only [Act.put, List.setIfInBounds_toArray, List.set_cons_zero, List.set_cons_succ]
    refine wpQuiet_step (fun K hK => ?_)
    rw [if_pos (by rfl)]
    refine ⟨.int .i64 id, fun X hX => ?_, hK _ ?_⟩
    · clear hK; obtain ⟨q0, q1, q2, q3⟩ := HBOX.out X hX; go_simp
    clear hK K
    simp only [Act.put, List.setIfInBounds_toArray, List.set_cons_zero, List.set_cons_succ]
    refine wpQuiet_step (fun K hK => ?_)
    rw [if_pos (by rfl)]
    refine ⟨.string ⟨(Lib.itoa id).toArray⟩, fun X hX => ?_, hK _ ?_⟩
    · clear hK; go_simp; exact HDI.out X hX
    clear hK K
    simp only [Act.put, List.setIfInBounds_toArray, List.set_cons_zero, List.set_cons_succ]
    refine wpQuiet_step (fun K hK => ?_)
    rw [if_pos (by rfl)]
    refine ⟨.string X0, fun X hX => ?_, hK _ ?_⟩
    · clear hK; go_simp; rw [HX0.out]
    clear hK K
    simp only [Act.put, List.setIfInBounds_toArray, List.set_cons_zero, List.set_cons_succ]
    refine wpQuiet_step (fun K hK => ?_)
    rw [if_pos (by rfl)]
    refine ⟨.pointer (some ⟨w.heap.size, 1, none⟩), fun X hX => ?_, hK _ ?_⟩
    · clear hK; go_simp
    clear hK K
    simp only [Act.put, List.setIfInBounds_toArray, List.set_cons_zero, List.set_cons_succ]
    refine wpQuiet_step (fun K hK => ?_)
    rw [if_pos (by rfl)]
    refine ⟨.int .i64 kd, fun X hX => ?_, hK _ ?_⟩
    · clear hK; obtain ⟨q0, q1, q2, q3⟩ := HBOX.out X hX; go_simp
    clear hK K
    simp only [Act.put, List.setIfInBounds_toArray, List.set_cons_zero, List.set_cons_succ]
    refine wpQuiet_step (fun K hK => ?_)
    rw [if_pos (by rfl)]
    refine ⟨.string ⟨(Lib.itoa kd).toArray⟩, fun X hX => ?_, hK _ ?_⟩
    · clear hK; go_simp; exact HDK.out X hX
    clear hK K
    simp only [Act.put, List.setIfInBounds_toArray, List.set_cons_zero, List.set_cons_succ]
    refine wpQuiet_step (fun K hK => ?_)
    rw [if_pos (by rfl)]
    refine ⟨.string X1, fun X hX => ?_, hK _ ?_⟩
    · clear hK; go_simp; rw [HX1.out]
    clear hK K
    simp only [Act.put, List.setIfInBounds_toArray, List.set_cons_zero, List.set_cons_succ]
    refine wpQuiet_step (fun K hK => ?_)
    rw [if_pos (by rfl)]
    refine ⟨.string X1, fun X hX => ?_, hK _ ?_⟩
    · clear hK; go_simp
    clear hK K
    simp only [Act.put, List.setIfInBounds_toArray, List.set_cons_zero, List.set_cons_succ]
    refine wpQuiet_nil ?_
    intro V hV
    have HB1 := Lib.hid (show Below w.heap.size w V ∧ V.heap[w.heap.size]? = some (.cells #[.int .i64 id, .int .i64 kd, .string tx, .slice ka len cap] 24 (0, 0)) from ⟨HB0.out.1.trans (hV.mono HB0.out.1.size), (hV.block _ (lt_of_heap HB0.out.2.1)).trans HB0.out.2.1⟩)
    obtain ⟨q0, q1, q2, q3⟩ := boxN HB1.out.2
    clear hV hq0 hq1 hX0s hid hkd
    by_cases he : tx = ⟨#[]⟩
    · have q2' : V.cell? ⟨w.heap.size, 2, none⟩ = some (.string ⟨#[]⟩) := by rw [q2, he]
      have HTX := Lib.hid (show textL tx = [] by unfold textL; rw [if_pos he])
      have HA := Lib.hid (show X1 = ⟨(HL ++ textL tx).toArray⟩ by rw [HTX.out, List.append_nil]; exact HX1E.out)
      have HFN := Lib.hid HFIN.out
      clear q2 HFIN he
      have HFIN := Lib.hid (show rT ⟨id, kd, tx, ks⟩ = (HL ++ textL tx) ++ (if foLen ks = 0 then [] else 40 :: (rK ks ++ [41])) by rw [HFN.out, List.append_assoc])
      go_wp2_with fail
      have HAL := Lib.hid (show (HL ++ textL tx).length + (rK ks).length + 2 ≤ 10000000000002 ∧ (foLen ks ≠ 0 → (HL ++ textL tx).length + (rK ks).length + 2 ≤ 10000000000000) from (by have h := HLL.out; rw [List.length_append]; by_cases h0 : foLen ks = 0; (rw [if_pos h0] at h; rw [fo_nil_of_len h0]; exact ⟨by show _ + 0 + 2 ≤ _; omega, fun h2 => absurd rfl h2⟩); (rw [if_neg h0] at h; exact ⟨by omega, fun _ => by omega⟩)))
      go_loopw [3, 5] (fun s i wr => RShowInv w (HL ++ textL tx) ks len #[.int .i64 id, .int .i64 kd, .string tx, .slice ka len cap] s i wr) (fun _ i _ => len - (intOf i).toNat)
      case atStart => exact ⟨0, X1, Nat.zero_le _, rfl, rfl, by have := HA.out; rw [this]; simp [kidsL], HB1.out.1, HB1.out.2⟩
      case round =>
        obtain ⟨k, Y, hk, rfl, rfl, hY, hbl, hbx⟩ := hrel
        have p3 : wr.cell? ⟨w.heap.size, 3, none⟩ = some (.slice ka len cap) := by rw [cell_of_row wr _ 3 _ _ _ hbx]; rfl
        have hYs : Y.size ≤ 10000000000005 := by
          rw [hY, bytes_size, List.length_append]
          have := kidsL_length k ks; have := HAL.out.1; omega
        have HR := Lib.hid (And.intro hY (And.intro hbl hbx))
        clear hY hbl hbx
        by_cases hlt : k < len
        · have hk1 : FoAt wr S ks ka := HK.out.kept fun x hx => ⟨hx, HR.out.2.1.block x (HSS.out x hx)⟩
          obtain ⟨b0, o0, ⟨ki, kk, kt⟩, l', r, hd1', b, off, a1, n1, rfl, hSb, c0, c1, c2, c3, hc1, hl1⟩ := hk1.at k (by rw [← HLEN.out]; exact hlt)
          obtain ⟨_, _, _, _, _, e1, e2, hsz1, htk⟩ := foDrop_node k ks (by rw [← HLEN.out]; exact hlt)
          rw [hd1'] at e1; cases e1
          have hkl0 : (rT ⟨ki, kk, kt, l'⟩).length ≤ (rK ks).length := rT_kid k ks _ _ (ki, kk, kt) l' r hd1'
          have hcall := HIH.out wr S (.agg #[.int .i64 ki, .int .i64 kk, .string kt, .slice a1 (foLen l') n1]) ⟨ki, kk, kt, l'⟩ (by have := HN.out.1; simp only; omega) (by have := HM6.out; omega) (fun x hx => Nat.lt_of_lt_of_le (HSS.out x hx) HR.out.2.1.size) ⟨a1, n1, rfl, hc1, hl1⟩ (i64F_drop k HN.out.2.1 hd1') (by have := HAL.out.2 (by rw [← HLEN.out]; omega); omega)
          obtain ⟨m1, hm1⟩ : ∃ m, m = foLen l' := ⟨_, rfl⟩
          obtain ⟨RT, hRT⟩ : ∃ RT, RT = rT ⟨ki, kk, kt, l'⟩ := ⟨_, rfl⟩
          rw [← hm1] at hcall c3
          rw [← hRT] at hcall hkl0
          simp only at c0 c1 c2
          have hRl : RT.length ≤ 10000000000005 := by have := HAL.out.1; omega
          have HC := Lib.hid hcall
          have hnx := kidsL_snoc k ks _ _ (ki, kk, kt) l' htk (by rw [foLen_take k ks (by rw [← HLEN.out]; omega)])
          rw [← hRT] at hnx
          have HNX := Lib.hid hnx
          have hkl : (k : Int) < (len : Int) := by omega
          have hsz1 : ¬ 9223372036854775807 < Y.size + 1 := by omega
          have HHK := Lib.hid (And.intro hk hlt)
          clear hk1 hd1' hcall hm1 hRT htk hl1 hc1 hSb e2 hnx hkl0 hk hlt
          by_cases hk0 : k = 0
          · subst hk0
            simp only [Nat.zero_mul, Nat.add_zero] at c0 c1 c2 c3
            have hkl2 : (0 : Int) < (len : Int) := hkl
            have hkl3 : 0 < len := by omega
            have hsz2 : ¬ 9223372036854775807 < Y.size + 1 + RT.length := by omega
            clear hkl
            go_wp2_with fail
            refine HC.out.mono ?_
            rintro e w2 ⟨rfl, hb2⟩
            have HE := Lib.hid hb2
            clear hb2
            go_wp2_with fail
            exact ⟨⟨0 + 1, _, by have := HHK.out.2; omega, by go_num, rfl, by rw [HR.out.1, HNX.out]; exact (congrArg (fun y => y ++ (⟨RT.toArray⟩ : ByteArray)) (bytes_append ((HL ++ textL tx) ++ kidsL 0 ks) [40])).trans ((bytes_append _ RT).trans (by simp [List.append_assoc])), HR.out.2.1.trans (HE.out.mono HR.out.2.1.size), (HE.out.block _ (lt_of_heap HR.out.2.2)).trans HR.out.2.2⟩, by have := HHK.out.2; simp [intOf]; omega⟩
          · have hk0i : ¬ (k : Int) = 0 := by omega
            have hsz2 : ¬ 9223372036854775807 < Y.size + 1 + RT.length := by omega
            have HK0 := Lib.hid hk0
            clear hk0
            go_wp2_with fail
            refine HC.out.mono ?_
            rintro e w2 ⟨rfl, hb2⟩
            have HE := Lib.hid hb2
            clear hb2
            go_wp2_with fail
            exact ⟨⟨k + 1, _, by have := HHK.out.2; omega, by go_num, rfl, by rw [HR.out.1, HNX.out, if_neg HK0.out]; exact (congrArg (fun y => y ++ (⟨RT.toArray⟩ : ByteArray)) (bytes_append ((HL ++ textL tx) ++ kidsL k ks) [44])).trans ((bytes_append _ RT).trans (by simp [List.append_assoc])), HR.out.2.1.trans (HE.out.mono HR.out.2.1.size), (HE.out.block _ (lt_of_heap HR.out.2.2)).trans HR.out.2.2⟩, by have := HHK.out.2; simp [intOf]; omega⟩
        · have hkk : k = len := by omega
          have HKK := Lib.hid hkk
          have hkl : ¬ (k : Int) < (len : Int) := by omega
          clear hkk hlt hk
          by_cases hl0 : len = 0
          · have hl0' : ¬ (0 : Int) < (len : Int) := by omega
            have HL0 := Lib.hid hl0
            clear hl0
            go_wp2_with fail
            go_ret
            refine ⟨?_, HR.out.2.1⟩
            have e1 : k = 0 := by rw [HKK.out]; exact HL0.out
            have e2 : foLen ks = 0 := by rw [← HLEN.out]; exact HL0.out
            rw [HFIN.out, if_pos e2, List.append_nil]
            have h := HR.out.1
            rw [e1] at h
            simp only [kidsL, if_true, List.append_nil] at h
            exact congrArg (fun y => Ending.returned (.string y)) h
          · have hl0' : (0 : Int) < (len : Int) := by omega
            have hl0'' : 0 < len := by omega
            have HL0 := Lib.hid hl0
            clear hl0
            have hsz1 : ¬ 9223372036854775807 < Y.size + 1 := by omega
            go_wp2_with fail
            go_ret
            refine ⟨?_, HR.out.2.1⟩
            have e2 : ¬ foLen ks = 0 := by rw [← HLEN.out]; exact HL0.out
            rw [HFIN.out, if_neg e2]
            have h := HR.out.1
            rw [HKK.out] at h
            simp only [kidsL, if_neg HL0.out] at h
            rw [foTake_all len ks (by rw [HLEN.out]; exact Nat.le_refl _)] at h
            have h2 : Y ++ ⟨#[41]⟩ = ⟨(HL ++ textL tx ++ 40 :: (rK ks ++ [41])).toArray⟩ := by
              rw [h]; exact (bytes_append _ [41]).trans (by simp)
            exact congrArg (fun y => Ending.returned (.string y)) h2
    · have hb0 : tx.toList.isEmpty = false := by
        rw [ByteArray.toList_eq]
        cases hh : tx.data.toList with
        | nil => exact absurd (ByteArray.ext (Array.toList_inj.1 hh)) he
        | cons u m => rfl
      have HTX := Lib.hid (show textL tx = quoL tx.data.toList by unfold textL; rw [if_neg he])
      have HFN := Lib.hid HFIN.out
      clear HFIN he
      have HFIN := Lib.hid (show rT ⟨id, kd, tx, ks⟩ = (HL ++ textL tx) ++ (if foLen ks = 0 then [] else 40 :: (rK ks ++ [41])) by rw [HFN.out, List.append_assoc])
      have hts : tx.size ≤ 10000000000000 := by
        have h1 := textL_size tx; have h2 := HLL.out
        split at h2 <;> omega
      have hX1s : X1.size ≤ 10000000000000 := by
        rw [HX1E.out, bytes_size]; have h2 := HLL.out
        split at h2 <;> omega
      have hX1n : ¬ 9223372036854775807 < X1.size + 1 := by omega
      go_wp2_with fail
      go_loop [3, 4] (fun s i => ∃ (k : Nat) (Y : ByteArray), k ≤ tx.size ∧ i = .int .i64 (k : Int) ∧ s = .string Y ∧ Hid (Y = ⟨(HL ++ quoP tx k).toArray⟩)) (fun _ i => tx.size - (intOf i).toNat)
      case atStart => exact ⟨0, _, Nat.zero_le _, rfl, rfl, Lib.hid (by rw [HX1E.out]; exact bytes_append HL [34])⟩
      case round =>
        obtain ⟨k, Y, hk, rfl, rfl, hY⟩ := hrel
        have hYs : Y.size ≤ 40000000000000 := by
          rw [hY.out, bytes_size, List.length_append]
          have h1 := (quoP_len tx k); have h2 := HLL.out
          split at h2 <;> omega
        by_cases hlt : k < tx.size
        · have hki : 0 ≤ (k : Int) ∧ (k : Int) < (tx.size : Int) := by omega
          have hki2 : (k : Int) < (tx.size : Int) := by omega
          have hex : (tx.extract k (k + 1)).size = 1 := by rw [ByteArray.size_extract]; omega
          have hn1 : ¬ 9223372036854775807 < Y.size + 1 := by omega
          have hn2 : ¬ 9223372036854775807 < Y.size + 1 + 1 := by omega
          have HKL := Lib.hid (And.intro hlt hk)
          by_cases hq : (((tx[k]'hlt).toNat : Nat) : Int) = 34
          · have hqb : ((((tx[k]'hlt).toNat : Nat) : Int) == 34) = true := by simpa using hq
            have HX := Lib.hid (byte_of_int (n := 34) (by omega) hq)
            clear hq hk
            go_wp2_with fail
            exact ⟨⟨k + 1, _, HKL.out.1, by go_num, rfl, Lib.hid (by rw [hY.out, extract_one tx k HKL.out.1, quoP_next tx k HKL.out.1, esc_two (Or.inl HX.out)]; exact (congrArg (fun y => y ++ (⟨[tx[k]'HKL.out.1].toArray⟩ : ByteArray)) (bytes_append (HL ++ quoP tx k) [92])).trans ((bytes_append _ _).trans (by simp [List.append_assoc])))⟩, by have := HKL.out.1; simp [intOf]; omega⟩
          · have hqb : ((((tx[k]'hlt).toNat : Nat) : Int) == 34) = false := by simpa using hq
            by_cases hr : (((tx[k]'hlt).toNat : Nat) : Int) = 92
            · have hrb : ((((tx[k]'hlt).toNat : Nat) : Int) == 92) = true := by simpa using hr
              have HX := Lib.hid (byte_of_int (n := 92) (by omega) hr)
              clear hq hr hk
              go_wp2_with fail
              exact ⟨⟨k + 1, _, HKL.out.1, by go_num, rfl, Lib.hid (by rw [hY.out, extract_one tx k HKL.out.1, quoP_next tx k HKL.out.1, esc_two (Or.inr HX.out)]; exact (congrArg (fun y => y ++ (⟨[tx[k]'HKL.out.1].toArray⟩ : ByteArray)) (bytes_append (HL ++ quoP tx k) [92])).trans ((bytes_append _ _).trans (by simp [List.append_assoc])))⟩, by have := HKL.out.1; simp [intOf]; omega⟩
            · have hrb : ((((tx[k]'hlt).toNat : Nat) : Int) == 92) = false := by simpa using hr
              have HX : Hid ((tx[k]'hlt) ≠ 34 ∧ (tx[k]'hlt) ≠ 92) := Lib.hid ⟨fun e => by rw [e] at hq; exact hq rfl, fun e => by rw [e] at hr; exact hr rfl⟩
              clear hq hr hk
              go_wp2_with fail
              exact ⟨⟨k + 1, _, HKL.out.1, by go_num, rfl, Lib.hid (by rw [hY.out, extract_one tx k HKL.out.1, quoP_next tx k HKL.out.1, esc_one HX.out.1 HX.out.2]; exact (bytes_append (HL ++ quoP tx k) _).trans (by simp [List.append_assoc]))⟩, by have := HKL.out.1; simp [intOf]; omega⟩
        · have hke : k = tx.size := by omega
          subst hke
          have hki2 : ¬ (tx.size : Int) < (tx.size : Int) := by omega
          have hn1 : ¬ 9223372036854775807 < Y.size + 1 := by omega
          have HA : Hid (Y ++ ⟨#[34]⟩ = ⟨(HL ++ textL tx).toArray⟩) := Lib.hid (by
            rw [hY.out, HTX.out, ← quoP_all tx]
            exact (bytes_append _ [34]).trans (by simp [List.append_assoc]))
          have HYY := Lib.hid hY
          clear hlt hk hY hYs hts hX1s hX1n
          go_wp2_with fail
          have HAL := Lib.hid (show (HL ++ textL tx).length + (rK ks).length + 2 ≤ 10000000000002 ∧ (foLen ks ≠ 0 → (HL ++ textL tx).length + (rK ks).length + 2 ≤ 10000000000000) from (by have h := HLL.out; rw [List.length_append]; by_cases h0 : foLen ks = 0; (rw [if_pos h0] at h; rw [fo_nil_of_len h0]; exact ⟨by show _ + 0 + 2 ≤ _; omega, fun h2 => absurd rfl h2⟩); (rw [if_neg h0] at h; exact ⟨by omega, fun _ => by omega⟩)))
          go_loopw [3, 5] (fun s i wr => RShowInv w (HL ++ textL tx) ks len #[.int .i64 id, .int .i64 kd, .string tx, .slice ka len cap] s i wr) (fun _ i _ => len - (intOf i).toNat)
          case atStart => exact ⟨0, (Y ++ ⟨#[34]⟩), Nat.zero_le _, rfl, rfl, by have := HA.out; rw [this]; simp [kidsL], HB1.out.1, HB1.out.2⟩
          case round =>
            obtain ⟨k, Y, hk, rfl, rfl, hY, hbl, hbx⟩ := hrel
            have p3 : wr.cell? ⟨w.heap.size, 3, none⟩ = some (.slice ka len cap) := by rw [cell_of_row wr _ 3 _ _ _ hbx]; rfl
            have hYs : Y.size ≤ 10000000000005 := by
              rw [hY, bytes_size, List.length_append]
              have := kidsL_length k ks; have := HAL.out.1; omega
            have HR := Lib.hid (And.intro hY (And.intro hbl hbx))
            clear hY hbl hbx
            by_cases hlt : k < len
            · have hk1 : FoAt wr S ks ka := HK.out.kept fun x hx => ⟨hx, HR.out.2.1.block x (HSS.out x hx)⟩
              obtain ⟨b0, o0, ⟨ki, kk, kt⟩, l', r, hd1', b, off, a1, n1, rfl, hSb, c0, c1, c2, c3, hc1, hl1⟩ := hk1.at k (by rw [← HLEN.out]; exact hlt)
              obtain ⟨_, _, _, _, _, e1, e2, hsz1, htk⟩ := foDrop_node k ks (by rw [← HLEN.out]; exact hlt)
              rw [hd1'] at e1; cases e1
              have hkl0 : (rT ⟨ki, kk, kt, l'⟩).length ≤ (rK ks).length := rT_kid k ks _ _ (ki, kk, kt) l' r hd1'
              have hcall := HIH.out wr S (.agg #[.int .i64 ki, .int .i64 kk, .string kt, .slice a1 (foLen l') n1]) ⟨ki, kk, kt, l'⟩ (by have := HN.out.1; simp only; omega) (by have := HM6.out; omega) (fun x hx => Nat.lt_of_lt_of_le (HSS.out x hx) HR.out.2.1.size) ⟨a1, n1, rfl, hc1, hl1⟩ (i64F_drop k HN.out.2.1 hd1') (by have := HAL.out.2 (by rw [← HLEN.out]; omega); omega)
              obtain ⟨m1, hm1⟩ : ∃ m, m = foLen l' := ⟨_, rfl⟩
              obtain ⟨RT, hRT⟩ : ∃ RT, RT = rT ⟨ki, kk, kt, l'⟩ := ⟨_, rfl⟩
              rw [← hm1] at hcall c3
              rw [← hRT] at hcall hkl0
              simp only at c0 c1 c2
              have hRl : RT.length ≤ 10000000000005 := by have := HAL.out.1; omega
              have HC := Lib.hid hcall
              have hnx := kidsL_snoc k ks _ _ (ki, kk, kt) l' htk (by rw [foLen_take k ks (by rw [← HLEN.out]; omega)])
              rw [← hRT] at hnx
              have HNX := Lib.hid hnx
              have hkl : (k : Int) < (len : Int) := by omega
              have hsz1 : ¬ 9223372036854775807 < Y.size + 1 := by omega
              have HHK := Lib.hid (And.intro hk hlt)
              clear hk1 hd1' hcall hm1 hRT htk hl1 hc1 hSb e2 hnx hkl0 hk hlt
              by_cases hk0 : k = 0
              · subst hk0
                simp only [Nat.zero_mul, Nat.add_zero] at c0 c1 c2 c3
                have hkl2 : (0 : Int) < (len : Int) := hkl
                have hkl3 : 0 < len := by omega
                have hsz2 : ¬ 9223372036854775807 < Y.size + 1 + RT.length := by omega
                clear hkl
                go_wp2_with fail
                refine HC.out.mono ?_
                rintro e w2 ⟨rfl, hb2⟩
                have HE := Lib.hid hb2
                clear hb2
                go_wp2_with fail
                exact ⟨⟨0 + 1, _, by have := HHK.out.2; omega, by go_num, rfl, by rw [HR.out.1, HNX.out]; exact (congrArg (fun y => y ++ (⟨RT.toArray⟩ : ByteArray)) (bytes_append ((HL ++ textL tx) ++ kidsL 0 ks) [40])).trans ((bytes_append _ RT).trans (by simp [List.append_assoc])), HR.out.2.1.trans (HE.out.mono HR.out.2.1.size), (HE.out.block _ (lt_of_heap HR.out.2.2)).trans HR.out.2.2⟩, by have := HHK.out.2; simp [intOf]; omega⟩
              · have hk0i : ¬ (k : Int) = 0 := by omega
                have hsz2 : ¬ 9223372036854775807 < Y.size + 1 + RT.length := by omega
                have HK0 := Lib.hid hk0
                clear hk0
                go_wp2_with fail
                refine HC.out.mono ?_
                rintro e w2 ⟨rfl, hb2⟩
                have HE := Lib.hid hb2
                clear hb2
                go_wp2_with fail
                exact ⟨⟨k + 1, _, by have := HHK.out.2; omega, by go_num, rfl, by rw [HR.out.1, HNX.out, if_neg HK0.out]; exact (congrArg (fun y => y ++ (⟨RT.toArray⟩ : ByteArray)) (bytes_append ((HL ++ textL tx) ++ kidsL k ks) [44])).trans ((bytes_append _ RT).trans (by simp [List.append_assoc])), HR.out.2.1.trans (HE.out.mono HR.out.2.1.size), (HE.out.block _ (lt_of_heap HR.out.2.2)).trans HR.out.2.2⟩, by have := HHK.out.2; simp [intOf]; omega⟩
            · have hkk : k = len := by omega
              have HKK := Lib.hid hkk
              have hkl : ¬ (k : Int) < (len : Int) := by omega
              clear hkk hlt hk
              by_cases hl0 : len = 0
              · have hl0' : ¬ (0 : Int) < (len : Int) := by omega
                have HL0 := Lib.hid hl0
                clear hl0
                go_wp2_with fail
                go_ret
                refine ⟨?_, HR.out.2.1⟩
                have e1 : k = 0 := by rw [HKK.out]; exact HL0.out
                have e2 : foLen ks = 0 := by rw [← HLEN.out]; exact HL0.out
                rw [HFIN.out, if_pos e2, List.append_nil]
                have h := HR.out.1
                rw [e1] at h
                simp only [kidsL, if_true, List.append_nil] at h
                exact congrArg (fun y => Ending.returned (.string y)) h
              · have hl0' : (0 : Int) < (len : Int) := by omega
                have hl0'' : 0 < len := by omega
                have HL0 := Lib.hid hl0
                clear hl0
                have hsz1 : ¬ 9223372036854775807 < Y.size + 1 := by omega
                go_wp2_with fail
                go_ret
                refine ⟨?_, HR.out.2.1⟩
                have e2 : ¬ foLen ks = 0 := by rw [← HLEN.out]; exact HL0.out
                rw [HFIN.out, if_neg e2]
                have h := HR.out.1
                rw [HKK.out] at h
                simp only [kidsL, if_neg HL0.out] at h
                rw [foTake_all len ks (by rw [HLEN.out]; exact Nat.le_refl _)] at h
                have h2 : Y ++ ⟨#[41]⟩ = ⟨(HL ++ textL tx ++ 40 :: (rK ks ++ [41])).toArray⟩ := by
                  rw [h]; exact (bytes_append _ [41]).trans (by simp)
                exact congrArg (fun y => Ending.returned (.string y)) h2
end Go.Proofs.YtbbiemnjidfglaaDoor
