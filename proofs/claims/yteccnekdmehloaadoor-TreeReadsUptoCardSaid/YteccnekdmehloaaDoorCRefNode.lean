/-
  The document's own Node: bytes, and a tree behind them. No condition but that there are not too many of them.
-/
import Derived.Test.YteccnekdmehloaaDoorCWakes
import Derived.Test.YteccnekdmehloaaDoorCRefNum
namespace Go.Proofs.YteccnekdmehloaaDoor
open Go.RowKit
open Extern.Stop (cell)

/-- New bytes, of which nothing lay in w. -/
def NewB (w : World) (bs : List UInt8) (e : Ending) (w' : World) : Prop := ∃ a n cap, e = .returned (.slice a n cap) ∧ n = bs.length ∧ ByAt w' a bs ∧ Below w.heap.size w w'
theorem PutC.new {w w' : World} {bs : List UInt8} {e : Ending} (h : PutC w.heap.size bs w e w') : NewB w bs e w' := by
  obtain ⟨v, rfl, h⟩ := h
  obtain ⟨a, cap, rfl, h2⟩ := h.byAt
  exact ⟨a, _, cap, rfl, rfl, h2, h.1.2.1⟩
theorem rnum (w : World) (a : Option Addr) (m cap : Nat) (bs : List UInt8) (n : Int) (hm : m = bs.length) (h : ByAt w a bs) (hl : bs.length ≤ 1000000000000) :
    Calls Tryd.prog 48 #[.slice a m cap, .int .i64 n] w (NewB w (bs ++ num8 n)) := by
  subst hm
  exact (refNumber_any w a cap bs n h hl).mono fun _ _ h => h.new
theorem rtext (w : World) (a : Option Addr) (m cap : Nat) (bs : List UInt8) (s : ByteArray) (hm : m = bs.length) (h : ByAt w a bs) (hl : bs.length + s.size + 8 ≤ 1000000000000) :
    Calls Tryd.prog 49 #[.slice a m cap, .string s] w (NewB w (bs ++ (num8 (s.size : Int) ++ s.data.toList))) := by
  subst hm
  exact (refText_any w a cap bs s h hl).mono fun _ _ h => h.new
theorem ByAt.below {w w' : World} {a : Option Addr} {bs : List UInt8} (h : ByAt w a bs) (hb : Below w.heap.size w w') : ByAt w' a bs := ⟨h.1, fun ad e j u hj => by
  have := h.2 ad e j u hj
  rw [World.cell?_of_block (hb.block _ (block_lt_of_cell this))]; exact this⟩
theorem encF_take : ∀ (k : Nat) (f : Fo), k ≤ foLen f → (encF (foTake k f)).length ≤ (encF f).length
  | 0, _, _ => by simp [foTake, encF]
  | k + 1, .nil, h => by simp [foLen] at h
  | k + 1, .node b o a l r, h => by
    have := encF_take k r (by simp [foLen] at h; omega)
    simp only [foTake, encF, List.length_append] at this ⊢; omega
theorem encF_snoc : ∀ (f : Fo) (b o : Nat) (k : Int × Int × ByteArray) (l : Fo), encF (foSnoc f b o k l) = encF f ++ (encK k (foLen l) ++ encF l)
  | .nil, _, _, _, _ => by simp [foSnoc, encF]
  | .node _ _ k' l' r, b, o, k, l => by simp [foSnoc, encF, encF_snoc r b o k l, List.append_assoc]
theorem toList_size (s : ByteArray) : s.data.toList.length = s.size := by simp
def RNodeRound (w : World) (o : Obj) (pre : List UInt8) (ks : Fo) (len : Nat) (v i : Value) (wr : World) : Prop :=
  ∃ k : Nat, k ≤ len ∧ i = .int .i64 k ∧ (∃ a n cap, v = .slice a n cap ∧ n = (pre ++ encF (foTake k ks)).length ∧ ByAt wr a (pre ++ encF (foTake k ks))) ∧ Below w.heap.size w wr ∧ wr.heap[w.heap.size]? = some o
theorem box_there {w w' w'' : World} {o : Obj} (h : w'.heap[w.heap.size]? = some o) (hb : Below w'.heap.size w' w'') : w''.heap[w.heap.size]? = some o := (hb.block _ (lt_of_heap h)).trans h

set_option maxRecDepth 100000 in
set_option maxHeartbeats 1000000 in
theorem refNode_any : ∀ (m : Nat) (w : World) (S : Nat → Prop) (nv : Value) (t : Tr) (a : Option Addr) (n0 cap : Nat) (bs : List UInt8), foSize t.kids < m → (∀ k, S k → k < w.heap.size) → TrAt w S nv t → n0 = bs.length → ByAt w a bs → bs.length + (encT t).length ≤ 1000000000000 →
    Calls Tryd.prog 27 #[.slice a n0 cap, nv] w (NewB w (bs ++ encT t)) := by
  intro m
  induction m with
  | zero => intro w S nv t a n0 cap bs h; omega
  | succ m ih =>
    intro w S nv t a n0 cap bs hm hS hv hn0 hby hl
    obtain ⟨ka, kcap, rfl, hkc, hk⟩ := hv
    obtain ⟨id, kd, tx, ks⟩ := t
    simp only at hm hkc hk hl
    simp only
    rw [encT_length] at hl
    simp only [trText] at hl
    obtain ⟨len, hlen⟩ : ∃ len, len = foLen ks := ⟨_, rfl⟩
    rw [← hlen]
    have hb1 : Below w.heap.size w (w.alloc (.cells #[.int .i64 id, .int .i64 kd, .string tx, .slice ka len kcap] 25)) := (Below.refl _ _).alloc (Nat.le_refl _) _
    have hlen2 : len ≤ 100000000000 := by have := foLen_le ks; omega
    have HC1 := Lib.hid (rnum _ a n0 cap bs id hn0 (hby.below hb1) (by omega))
    have H := Lib.hid (And.intro hm (And.intro hS (And.intro hk (And.intro hl (And.intro ih (And.intro hb1 hlen))))))
    clear hm hS hk hl ih hb1 hkc hby hlen hn0
    go_enter Tryd.func27, Tryd.ntmps27
    go_wp2_with (first
      | (go_at_call 48; (with_reducible refine HC1.out.mono ?_); clear HC1; rintro e w3 ⟨a1, n1, cap1, rfl, hn, h1, h2⟩; have hx := box_there (heap_alloc_new w _) h2; have d1 : w3.cell? ⟨w.heap.size, 1, none⟩ = some (.int .i64 kd) := (by rw [cell_of_row _ _ 1 _ _ _ hx]; rfl); have HX := Lib.hid (And.intro hx (H.out.2.2.2.2.2.1.trans (h2.mono H.out.2.2.2.2.2.1.size))); have HC2 := Lib.hid (rnum w3 a1 n1 cap1 _ kd hn h1 (by have := H.out.2.2.2.1; simp only [List.length_append, num8_length]; omega)); clear hn h1 h2 hx)
      | (go_at_call 48; (with_reducible refine HC2.out.mono ?_); clear HC2; rintro e w4 ⟨a2, n2, cap2, rfl, hn, h1, h2⟩; have hx := box_there HX.out.1 h2; have d2 : w4.cell? ⟨w.heap.size, 2, none⟩ = some (.string tx) := (by rw [cell_of_row _ _ 2 _ _ _ hx]; rfl); have HX2 := Lib.hid (And.intro hx (HX.out.2.trans (h2.mono HX.out.2.size))); have HC3 := Lib.hid (rtext w4 a2 n2 cap2 _ tx hn h1 (by have := H.out.2.2.2.1; simp only [List.length_append, num8_length]; omega)); clear hn h1 h2 hx HX)
      | (go_at_call 49; (with_reducible refine HC3.out.mono ?_); clear HC3; rintro e w5 ⟨a3, n3, cap3, rfl, hn, h1, h2⟩; have hx := box_there HX2.out.1 h2; have d3 : w5.cell? ⟨w.heap.size, 3, none⟩ = some (.slice ka len kcap) := (by rw [cell_of_row _ _ 3 _ _ _ hx]; rfl); have HX3 := Lib.hid (And.intro hx (HX2.out.2.trans (h2.mono HX2.out.2.size))); have HC4 := Lib.hid (rnum w5 a3 n3 cap3 _ (len : Int) hn h1 (by have := H.out.2.2.2.1; simp only [List.length_append, num8_length, toList_size]; omega)); clear hn h1 h2 hx HX2)
      | (go_at_call 48; (with_reducible refine HC4.out.mono ?_); clear HC4; rintro e w6 ⟨a4, n4, cap4, rfl, hn, h1, h2⟩; have hx := box_there HX3.out.1 h2; have HX4 := Lib.hid (And.intro hx (And.intro (HX3.out.2.trans (h2.mono HX3.out.2.size)) (And.intro hn h1))); clear hn h1 h2 hx HX3))
    go_loopw [0, 5] (fun v i wr => RNodeRound w (.cells #[.int .i64 id, .int .i64 kd, .string tx, .slice ka len kcap] 25) (bs ++ encK (id, kd, tx) len) ks len v i wr) (fun _ i _ => len - (intOf i).toNat)
    case atStart => exact ⟨0, Nat.zero_le _, rfl, ⟨a4, n4, cap4, rfl, by rw [HX4.out.2.2.1]; simp [encK, foTake, encF, List.append_assoc], by have h9 := HX4.out.2.2.2; simpa [encK, foTake, encF, List.append_assoc] using h9⟩, HX4.out.2.1, HX4.out.1⟩
    case round =>
      obtain ⟨k, hk, rfl, ⟨a5, n5, cap5, rfl, hn5, hb5⟩, hbel, hx⟩ := hrel
      have p3 : wr.cell? ⟨w.heap.size, 3, none⟩ = some (.slice ka len kcap) := by rw [cell_of_row _ _ 3 _ _ _ hx]; rfl
      have HR := Lib.hid (And.intro hn5 (And.intro hb5 (And.intro hbel hx)))
      clear hn5 hb5 hbel hx
      by_cases hlt : k < len
      · have hk1 : FoAt wr S ks ka := H.out.2.2.1.kept fun x hx => ⟨hx, HR.out.2.2.1.block x (H.out.2.1 x hx)⟩
        obtain ⟨b0, o0, ⟨ki, kk, kt⟩, l', r, hd1', b, off, ka1, n1', rfl, hSb, c0, c1, c2, c3, hcp, hl1⟩ := hk1.at k (by rw [← H.out.2.2.2.2.2.2]; exact hlt)
        obtain ⟨_, _, _, _, _, e1, e2, hsz1, htk⟩ := foDrop_node k ks (by rw [← H.out.2.2.2.2.2.2]; exact hlt)
        rw [hd1'] at e1; cases e1
        have htk2 : encF (foTake (k + 1) ks) = encF (foTake k ks) ++ (encK (ki, kk, kt) (foLen l') ++ encF l') := by rw [htk, encF_snoc]
        have hbd : (encF (foTake (k + 1) ks)).length ≤ 32 * foSize ks + foText ks := by rw [← encF_length]; exact encF_take _ _ (by have := H.out.2.2.2.2.2.2; omega)
        have hcall := H.out.2.2.2.2.1 wr S (.agg #[.int .i64 ki, .int .i64 kk, .string kt, .slice ka1 (foLen l') n1']) ⟨ki, kk, kt, l'⟩ a5 n5 cap5 _ (by have := H.out.1; simp only; omega) (fun x hx => Nat.lt_of_lt_of_le (H.out.2.1 x hx) HR.out.2.2.1.size) ⟨ka1, n1', rfl, hcp, hl1⟩ HR.out.1 HR.out.2.1 (by
          rw [htk2] at hbd
          have := H.out.2.2.2.1
          simp only [encT, List.length_append, encK_length] at hbd ⊢
          omega)
        obtain ⟨m1, hm1⟩ : ∃ m, m = foLen l' := ⟨_, rfl⟩
        rw [← hm1] at hcall c3
        simp only at c0 c1 c2
        have HC := Lib.hid hcall
        have HTK := Lib.hid htk2
        have hkl : (k : Int) < (len : Int) := by omega
        clear hk1 hd1' hcall hm1 htk htk2 hl1 hsz1 hSb e2 hcp hbd
        go_wp2_with fail
        refine HC.out.mono ?_
        rintro e w7 ⟨a6, n6, cap6, rfl, hn6, h6, hb6⟩
        have HE := Lib.hid (And.intro hn6 (And.intro h6 hb6))
        clear hn6 h6 hb6
        go_wp2_with fail
        have e9 : bs ++ encK (id, kd, tx) len ++ encF (foTake k ks) ++ encT ⟨ki, kk, kt, l'⟩ = bs ++ encK (id, kd, tx) len ++ encF (foTake (k + 1) ks) := by rw [HTK.out]; simp [encT, List.append_assoc]
        have h7 := HE.out
        rw [e9] at h7
        exact ⟨⟨k + 1, by omega, by go_num, ⟨a6, n6, cap6, rfl, h7.1, h7.2.1⟩, HR.out.2.2.1.trans (h7.2.2.mono HR.out.2.2.1.size), box_there HR.out.2.2.2 h7.2.2⟩, by simp [intOf]; omega⟩
      · have hkk : k = len := by omega
        have HKK := Lib.hid hkk
        have hkl : ¬ (k : Int) < (len : Int) := by omega
        clear hkk
        go_wp2_with fail
        go_ret
        have h8 := HR.out
        rw [foTake_all k ks (by rw [HKK.out, H.out.2.2.2.2.2.2]; exact Nat.le_refl _)] at h8
        refine ⟨a5, n5, cap5, rfl, ?_, ?_, h8.2.2.1⟩
        · rw [h8.1]; simp [encT, H.out.2.2.2.2.2.2, List.append_assoc]
        · have h9 := h8.2.1
          rw [H.out.2.2.2.2.2.2] at h9
          simpa [encT, List.append_assoc] using h9
end Go.Proofs.YteccnekdmehloaaDoor
