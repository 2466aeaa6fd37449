/-
  The document's with: the first node of an id gets a text, in new memory. No condition but that there are not too many nodes.
-/
import Derived.Deep.Cut
import Derived.Test.YtpbjncljecfaeaaNRowsQf
import Derived.Test.YtpbjncljecfaeaaNPlainQf
namespace Go.Proofs.Ytpbjncljecfaeaa
open Go.RowKit Go.Shelf
set_option linter.unusedVariables false
set_option linter.unusedSimpArgs false

/-- Four cells of a row are told. -/
theorem store4J {Y : World} {g a : Nat} {cs : Array Value} {t : TypeId} (u0 u1 u2 u3 : Value) (h : Y.heap[g]? = some (.cells cs t (0, 0))) (ha : a + 3 < cs.size) :
    ((∃ o, Y.cell? ⟨g, a, none⟩ = some o) ∧ Y.frozen? ⟨g, a, none⟩ = false ∧ (∃ o, (Y.setCell ⟨g, a, none⟩ u0).cell? ⟨g, a + 1, none⟩ = some o) ∧ (Y.setCell ⟨g, a, none⟩ u0).frozen? ⟨g, a + 1, none⟩ = false ∧
    (∃ o, ((Y.setCell ⟨g, a, none⟩ u0).setCell ⟨g, a + 1, none⟩ u1).cell? ⟨g, a + 2, none⟩ = some o) ∧ ((Y.setCell ⟨g, a, none⟩ u0).setCell ⟨g, a + 1, none⟩ u1).frozen? ⟨g, a + 2, none⟩ = false ∧
    (∃ o, (((Y.setCell ⟨g, a, none⟩ u0).setCell ⟨g, a + 1, none⟩ u1).setCell ⟨g, a + 2, none⟩ u2).cell? ⟨g, a + 3, none⟩ = some o) ∧ (((Y.setCell ⟨g, a, none⟩ u0).setCell ⟨g, a + 1, none⟩ u1).setCell ⟨g, a + 2, none⟩ u2).frozen? ⟨g, a + 3, none⟩ = false) ∧
    ∃ V, V = ((((Y.setCell ⟨g, a, none⟩ u0).setCell ⟨g, a + 1, none⟩ u1).setCell ⟨g, a + 2, none⟩ u2).setCell ⟨g, a + 3, none⟩ u3) ∧ V.heap[g]? = some (.cells ((((cs.setIfInBounds a u0).setIfInBounds (a + 1) u1).setIfInBounds (a + 2) u2).setIfInBounds (a + 3) u3) t (0, 0)) ∧
    (∀ k, k ≠ g → V.heap[k]? = Y.heap[k]?) ∧ V.os = Y.os ∧ V.tape = Y.tape ∧ V.output = Y.output ∧ V.heap.size = Y.heap.size := by
  have h1 := heap_setCell_same Y g a cs t u0 h
  have h2 := heap_setCell_same _ g (a + 1) _ t u1 h1
  have h3 := heap_setCell_same _ g (a + 2) _ t u2 h2
  have h4 := heap_setCell_same _ g (a + 3) _ t u3 h3
  have z : ∀ (W : World) (cs' : Array Value) (i : Nat), W.heap[g]? = some (.cells cs' t (0, 0)) → i < cs'.size → ∃ o, W.cell? ⟨g, i, none⟩ = some o := fun W cs' i hw hi => ⟨cs'[i], by rw [cell_of_row W g i _ _ _ hw]; exact Array.getElem?_eq_getElem hi⟩
  refine ⟨⟨z _ _ _ h (by omega), frozen_of_row _ _ _ _ _ h, z _ _ _ h1 (by simp; omega), frozen_of_row _ _ _ _ _ h1, z _ _ _ h2 (by simp; omega), frozen_of_row _ _ _ _ _ h2, z _ _ _ h3 (by simp; omega), frozen_of_row _ _ _ _ _ h3⟩, _, rfl, h4, fun k hk => ?_, rfl, rfl, rfl, ?_⟩
  · rw [Below.heap_setCell _ _ _ _ hk, Below.heap_setCell _ _ _ _ hk, Below.heap_setCell _ _ _ _ hk, Below.heap_setCell _ _ _ _ hk]
  · simp [World.setCell]
def WithC (id : Int) (tx : ByteArray) (t : Tr) (w : World) (e : Ending) (w' : World) : Prop := ∃ va vc, e = .returned (.tuple #[.agg #[.int .i64 (wiT id tx t).1.id, .int .i64 (wiT id tx t).1.kind, .string (wiT id tx t).1.text, .slice va (foLen (wiT id tx t).1.kids) vc], .bool (wiT id tx t).2]) ∧ foLen (wiT id tx t).1.kids ≤ vc ∧ FoAt w' (Fresh w w') (wiT id tx t).1.kids va ∧ Below w.heap.size w w'
theorem with_end {fn : Func} (h : fn.results = #[.cell 6 25, .tmp 7]) {w W : World} {tmps : Array Value} {id : Int} {tx : ByteArray} {t y : Tr} {b : Bool} {g m kc : Nat} {kb : Option Addr} (he : wiT id tx t = (y, b)) (hb : Below w.heap.size w W) (hz : W.heap[g]? = some (.cells #[.int .i64 y.id, .int .i64 y.kind, .string y.text, .slice kb m kc] 25 (0, 0))) (hm : m = foLen y.kids) (hc : foLen y.kids ≤ kc) (hf : FoAt W (Fresh w W) y.kids kb)
    (h1 : tmps.getD 6 undef = .pointer (some ⟨g, 0, none⟩)) (h2 : tmps.getD 7 undef = .bool b) : bodyPost Try.prog fn (WithC id tx t w) .ret { tmps, defers := [] } W := by
  refine bodyPost_ret (results_cellTN h tmps W g 25 _ _ _ (.bool b) h1 hz Try.underlying25 rfl (by kernel_rfl) h2) rfl ?_
  unfold WithC
  rw [he]
  exact ⟨kb, kc, by rw [hm], hc, hf, hb⟩
theorem one_setT {V : World} {R1 : Nat} {c0 c1 c2 c3 u : Value} (h2 : V.heap[R1]? = some (.cells #[c0, c1, c2, c3] 25 (0, 0))) :
    ∃ V5, V5 = V.setCell ⟨R1, 2, none⟩ u ∧ V5.heap[R1]? = some (.cells #[c0, c1, u, c3] 25 (0, 0)) ∧ (∀ y, y ≠ R1 → V5.heap[y]? = V.heap[y]?) ∧ V5.os = V.os ∧ V5.tape = V.tape ∧ V5.output = V.output ∧ V5.heap.size = V.heap.size :=
  ⟨_, rfl, heap_setCell_same V R1 2 _ _ u h2, fun y hy => Below.heap_setCell _ _ _ _ hy, rfl, rfl, rfl, by simp [World.setCell]⟩
set_option maxRecDepth 100000 in
set_option maxHeartbeats 8000000 in
theorem with_any (id : Int) (tx : ByteArray) : ∀ (n : Nat) (w : World) (S : Nat → Prop) (v : Value) (t : Tr), foSize t.kids < n → foSize t.kids ≤ 100000 → (∀ k, S k → k < w.heap.size) → TrAt w S v t →
    Calls Try.prog 22 #[v, .int .i64 id, .string tx] w (WithC id tx t w) := by
  intro n
  induction n with
  | zero => intro w S v t h; omega
  | succ n ih =>
    intro w S v t hn hm hS hv
    obtain ⟨ka, cap, rfl, hcp, hk⟩ := hv
    obtain ⟨tn, htn⟩ : ∃ tn, tn = foLen t.kids := ⟨_, rfl⟩
    rw [← htn]
    obtain ⟨B, hB⟩ : ∃ B, B = allocs w [.cells #[.int .i64 t.id, .int .i64 t.kind, .string t.text, .slice ka tn cap] 25, .cells #[.int .i64 0, .int .i64 0, .string ⟨#[]⟩, .slice none 0 0] 25] := ⟨_, rfl⟩
    have hb : Below w.heap.size w B := by rw [hB]; exact allocs_below _ _
    have hs : B.heap.size = w.heap.size + 2 := by rw [hB]; exact allocs_size _ _
    have e0 : B.heap[w.heap.size]? = some (.cells #[.int .i64 t.id, .int .i64 t.kind, .string t.text, .slice ka tn cap] 25 (0, 0)) := by rw [hB]; exact allocs_at _ _ 0 _ rfl
    have e1 : B.heap[w.heap.size + 1]? = some (.cells #[.int .i64 0, .int .i64 0, .string ⟨#[]⟩, .slice none 0 0] 25 (0, 0)) := by rw [hB]; exact allocs_at _ _ 1 _ rfl
    have hcopy := rcopyS_any _ B S (.agg #[.int .i64 t.id, .int .i64 t.kind, .string t.text, .slice ka tn cap]) t (Nat.lt_succ_self _) (by omega) (fun k hk => Nat.lt_of_lt_of_le (hS k hk) hb.size) ⟨ka, cap, by rw [htn], hcp, hk.below hb hS⟩
    have hl0 := foLen_le t.kids
    have htn5 : tn ≤ 100000 := by omega
    have HCP := Lib.hid hcopy
    have HB := Lib.hid (And.intro hb (And.intro hs (And.intro e0 e1)))
    have HBE := Lib.hid hB
    have HT := Lib.hid (And.intro htn (And.intro hn hm))
    have HIH := Lib.hid ih
    clear hcopy hb hs e0 e1 hB htn hn hm hS hcp hk ih hl0
    go_enter Try.func22, Try.ntmps22
    go_upto_region 1 with fail
    change Code.wp _ _ _ _ (allocs w [.cells #[.int .i64 t.id, .int .i64 t.kind, .string t.text, .slice ka tn cap] 25, .cells #[.int .i64 0, .int .i64 0, .string ⟨#[]⟩, .slice none 0 0] 25])
    rw [← HBE.out]
    clear HBE
    obtain ⟨n0, n1, n2, n3⟩ := box4 HB.out.2.2.1
    go_wp2_with fail
    refine HCP.out.mono ?_
    rintro e W1 ⟨ra, rc, xs, rfl, hrc, ho, hr, hb1⟩
    rw [← HT.out.1] at hrc ho hr ⊢
    obtain ⟨W2, hW2⟩ : ∃ W2, W2 = W1.alloc (.cells #[.int .i64 t.id, .int .i64 t.kind, .string t.text, .slice ra tn rc] 25) := ⟨_, rfl⟩
    have hb12 : Below W1.heap.size W1 W2 := by rw [hW2]; exact box_below _ _
    have hs2 : W2.heap.size = W1.heap.size + 1 := by rw [hW2]; simp
    have eo : W2.heap[W1.heap.size]? = some (.cells #[.int .i64 t.id, .int .i64 t.kind, .string t.text, .slice ra tn rc] 25 (0, 0)) := by rw [hW2]; exact heap_alloc_new _ _
    have hbB2 : Below B.heap.size B W2 := hb1.trans (hb12.mono hb1.size)
    have et := (hbB2.block _ (lt_of_heap HB.out.2.2.1)).trans HB.out.2.2.1
    have er := (hbB2.block _ (lt_of_heap HB.out.2.2.2)).trans HB.out.2.2.2
    have hfo : FoAt W1 (fun x => B.heap.size ≤ x ∧ x < W1.heap.size) t.kids ra := fo_own HT.out.1 ho (hr.kept fun x hx => ⟨hx.1, rfl⟩) (fun x hx => owns_bounds ho hx)
    have hw2 : Below w.heap.size w W2 := HB.out.1.trans (hbB2.mono HB.out.1.size)
    obtain ⟨OB, hOB⟩ : ∃ OB, OB = W1.heap.size := ⟨_, rfl⟩
    have H1 := Lib.hid (And.intro hrc (And.intro ho (And.intro hr (And.intro hfo (And.intro hb1.size hOB)))))
    have H2 := Lib.hid (And.intro hb12 (And.intro hs2 (And.intro hw2 (And.intro eo (And.intro et er)))))
    have HW2 := Lib.hid hW2
    clear hrc ho hr hb1 hb12 hs2 eo hbB2 et er hfo hw2 hW2 HCP n0 n1 n2 n3
    go_upto_region 2 with fail
    change Code.wp _ _ _ _ (W1.alloc (.cells #[.int .i64 t.id, .int .i64 t.kind, .string t.text, .slice ra tn rc] 25))
    rw [← HW2.out, ← hOB]
    clear HW2 hOB
    obtain ⟨n0, n1, n2, n3⟩ := box4 H2.out.2.2.2.2.1
    by_cases hid : t.id = id
    · have hq : (t.id == id) = true := by simpa using hid
      have HWT := Lib.hid (wiT_here (tx := tx) hid)
      clear hid
      have eo := H2.out.2.2.2.1
      rw [← H1.out.2.2.2.2.2] at eo
      obtain ⟨y0, y1, y2, y3⟩ := box4 eo
      have yf : W2.frozen? ⟨OB, 2, none⟩ = false := frozen_of_row _ _ 2 _ _ eo
      obtain ⟨W3, hW3, q1, q2, q3, q4, q5, q6⟩ := one_setT (u := .string tx) eo
      have H3 := Lib.hid (And.intro q1 (And.intro q2 (And.intro q3 (And.intro q4 (And.intro q5 q6)))))
      have HW3 := Lib.hid hW3
      clear hW3 q1 q2 q3 q4 q5 q6 eo
      go_upto_region 4 with fail
      rw [← HW3.out]
      clear HW3 y0 y1 y2 y3 yf n0 n1 n2 n3 hq
      obtain ⟨y0, y1, y2, y3⟩ := box4 H3.out.1
      have hrb : w.heap.size + 1 ≠ OB := by rw [H1.out.2.2.2.2.2]; have := H1.out.2.2.2.2.1; have := HB.out.2.1; omega
      have er := (H3.out.2.1 _ hrb).trans H2.out.2.2.2.2.2
      obtain ⟨z0, z1, z2, z3⟩ := box4 er
      have zf : ∀ j, W3.frozen? ⟨w.heap.size + 1, j, none⟩ = false := fun j => frozen_of_row _ _ j _ _ er
      obtain ⟨V, hV, r1, r2, r3, r4, r5, r6⟩ := four_setN (u0 := .int .i64 t.id) (u1 := .int .i64 t.kind) (u2 := .string tx) (u3 := .slice ra tn rc) er
      have HE := Lib.hid (And.intro hV (And.intro r1 (And.intro r2 (And.intro r3 (And.intro r4 (And.intro r5 r6))))))
      have HRB := Lib.hid hrb
      clear hV r1 r2 r3 r4 r5 r6 er hrb
      go_wp2_with fail
      rw [← HE.out.1]
      obtain ⟨hV, r1, r2, r3, r4, r5, r6⟩ := HE.out
      have hsz : V.heap.size = W2.heap.size := by rw [r6]; exact H3.out.2.2.2.2.2
      have hwb : Below w.heap.size w V := ⟨r3.trans (H3.out.2.2.1.trans H2.out.2.2.1.os), r4.trans (H3.out.2.2.2.1.trans H2.out.2.2.1.tape), r5.trans (H3.out.2.2.2.2.1.trans H2.out.2.2.1.output), by rw [hsz]; exact H2.out.2.2.1.size, fun x hx => (r2 x (by omega)).trans ((H3.out.2.1 x (by rw [H1.out.2.2.2.2.2]; have := H1.out.2.2.2.2.1; have := HB.out.2.1; omega)).trans (H2.out.2.2.1.block x hx))⟩
      refine with_end (y := ⟨t.id, t.kind, tx, t.kids⟩) (b := true) rfl HWT.out hwb r1 HT.out.1 (by rw [← HT.out.1]; exact H1.out.1) ?_ rfl rfl
      exact H1.out.2.2.2.1.kept fun x hx => ⟨⟨by have := HB.out.2.1; omega, by rw [hsz, H2.out.2.1]; omega⟩, (r2 x (by have := HB.out.2.1; omega)).trans ((H3.out.2.1 x (by rw [H1.out.2.2.2.2.2]; omega)).trans (H2.out.1.block x hx.2))⟩
    · have hq : (t.id == id) = false := by simpa using hid
      have HID := Lib.hid hid
      clear hid
      go_wp2_with fail
      clear n0 n1 n2 n3 hq
      go_loopw [9] (fun i wr => ∃ k : Nat, k ≤ tn ∧ i = .int .i64 (k : Int) ∧ Hid (Below W2.heap.size W2 wr ∧ ∀ j v, j < k → kidF t.kids j = some v → (wiT id tx v).2 = false)) (fun i _ => tn - (intOf i).toNat)
      case atStart => exact ⟨0, Nat.zero_le _, rfl, Lib.hid ⟨Below.refl _ _, fun j v hj => by omega⟩⟩
      case round =>
        obtain ⟨k, hk, rfl, hh⟩ := hrel
        have eo := (hh.out.1.block _ (lt_of_heap H2.out.2.2.2.1)).trans H2.out.2.2.2.1
        rw [← H1.out.2.2.2.2.2] at eo
        obtain ⟨y0, y1, y2, y3⟩ := box4 eo
        obtain ⟨wo, hwo⟩ : ∃ wo, wo = wr := ⟨_, rfl⟩
        subst hwo
        by_cases hlt : k < tn
        · obtain ⟨g, hg⟩ : ∃ g, ra = some ⟨g, 0, none⟩ := by
            rcases H1.out.2.1.2 with ⟨_, h0⟩ | ⟨g, cp, cur, hv, _⟩
            · omega
            · cases hv; exact ⟨g, rfl⟩
          subst hg
          obtain ⟨cp, cur, _, hgb, hgh, hg3, hg4, hg5, hg6⟩ : ∃ cp cur, (Value.slice (some ⟨g, 0, none⟩) tn rc) = .slice (some ⟨g, 0, none⟩) tn cp ∧ B.heap.size ≤ g ∧ W1.heap[g]? = some (.cells cur 25 (0, 0)) ∧ tn ≤ cp ∧ cp ≤ maxLen ∧ cur.size = cp * 4 ∧ cur.toList.take (tn * 4) = xs := by
            rcases H1.out.2.1.2 with ⟨_, h0⟩ | ⟨g', cp, cur, hv, h1, h2, h3, h4, h5, h6⟩
            · omega
            · cases hv; exact ⟨_, cur, rfl, h1, h2, h3, h4, h5, h6⟩
          obtain ⟨_, _, ⟨ui, uk, ut⟩, l, r, hd, g', go, ua, uc, hga, _, c0, c1, c2, c3, hcu, hlu⟩ := H1.out.2.2.2.1.at k (by rw [← HT.out.1]; exact hlt)
          cases hga
          simp only [Nat.zero_add] at c0 c1 c2 c3
          obtain ⟨_, _, _, _, _, _, hkd, _⟩ := kidF_lt (f := t.kids) (j := k) (by rw [← HT.out.1]; exact hlt)
          have hku : kidF t.kids k = some ⟨ui, uk, ut, l⟩ := by rw [kidF, hd]; rfl
          have hgl : g < W1.heap.size := lt_of_heap hgh
          have hW1w : ∀ x, x < W1.heap.size → wo.heap[x]? = W1.heap[x]? := fun x hx => (hh.out.1.block x (by have := H2.out.2.1; omega)).trans (H2.out.1.block x hx)
          have d0 := (World.cell?_of_block (a := ⟨g, k * 4, none⟩) (hW1w g hgl)).trans c0
          have d1 := (World.cell?_of_block (a := ⟨g, k * 4 + 1, none⟩) (hW1w g hgl)).trans c1
          have d2 := (World.cell?_of_block (a := ⟨g, k * 4 + 2, none⟩) (hW1w g hgl)).trans c2
          have d3 := (World.cell?_of_block (a := ⟨g, k * 4 + 3, none⟩) (hW1w g hgl)).trans c3
          have hsu := kidF_sizeN hku
          simp only at hsu
          obtain ⟨un, hun⟩ : ∃ un, un = foLen l := ⟨_, rfl⟩
          have hcall := HIH.out wo (fun x => x < W1.heap.size) (.agg #[.int .i64 ui, .int .i64 uk, .string ut, .slice ua un uc]) ⟨ui, uk, ut, l⟩ (by have := HT.out.2.1; simp only; omega) (by have := HT.out.2.2; simp only; omega) (fun x hx => by have := hh.out.1.size; have := H2.out.2.1; omega) ⟨ua, uc, by rw [hun], hcu, hlu.kept fun x hx => ⟨hx.2, hW1w x hx.2⟩⟩
          rw [← hun] at d3
          have HC := Lib.hid hcall
          have HKU := Lib.hid (And.intro hku (And.intro hk hlt))
          have HG := Lib.hid (And.intro hgb (And.intro hgh (And.intro hg3 (And.intro hg5 (And.intro hg6 hgl)))))
          have HH := Lib.hid hh.out
          have hkl : (k : Int) < (tn : Int) := by omega
          clear hgb hgh hg3 hg4 hg5 hg6 hgl hd hcu hlu hkd hku hsu hun hcall hk hlt hh c0 c1 c2 c3 hW1w eo
          go_wp2_with fail
          refine HC.out.mono ?_
          clear HC d0 d1 d2 d3 y0 y1 y2 y3
          rintro e W5 ⟨va, vc, rfl, hvc, hvf, hb5⟩
          obtain ⟨y, hy⟩ : ∃ y, y = (wiT id tx ⟨ui, uk, ut, l⟩).1 := ⟨_, rfl⟩
          obtain ⟨bb, hbb⟩ : ∃ bb, bb = (wiT id tx ⟨ui, uk, ut, l⟩).2 := ⟨_, rfl⟩
          rw [← hy] at hvc hvf ⊢
          rw [← hbb]
          obtain ⟨yn, hyn⟩ : ∃ yn, yn = foLen y.kids := ⟨_, rfl⟩
          rw [← hyn] at hvc ⊢
          obtain ⟨W6, hW6⟩ : ∃ W6, W6 = W5.alloc (.cells #[.int .i64 y.id, .int .i64 y.kind, .string y.text, .slice va yn vc] 25) := ⟨_, rfl⟩
          have hb56 : Below W5.heap.size W5 W6 := by rw [hW6]; exact box_below _ _
          have hs6 : W6.heap.size = W5.heap.size + 1 := by rw [hW6]; simp
          have ek : W6.heap[W5.heap.size]? = some (.cells #[.int .i64 y.id, .int .i64 y.kind, .string y.text, .slice va yn vc] 25 (0, 0)) := by rw [hW6]; exact heap_alloc_new _ _
          have hb26 : Below W2.heap.size W2 W6 := HH.out.1.trans ((hb5.trans (hb56.mono hb5.size)).mono HH.out.1.size)
          have HY := Lib.hid (And.intro hy (And.intro hbb (And.intro hyn (And.intro hvc (And.intro hvf (And.intro hb5 (And.intro hb56 (And.intro hs6 hb26))))))))
          obtain ⟨KB, hKB⟩ : ∃ KB, KB = W5.heap.size := ⟨_, rfl⟩
          have HEK := Lib.hid (And.intro ek hKB)
          have HW6 := Lib.hid hW6
          clear hy hbb hyn hvc hvf hb5 hb56 hs6 ek hb26 hW6
          go_upto_region 9 with fail
          change Code.wp _ _ _ _ (W5.alloc (.cells #[.int .i64 y.id, .int .i64 y.kind, .string y.text, .slice va yn vc] 25))
          rw [← HW6.out, ← hKB]
          clear HW6 hKB
          cases bb
          · go_wp2_with fail
            refine ⟨⟨k + 1, by have := HKU.out.2.2; omega, by go_num, Lib.hid ⟨HY.out.2.2.2.2.2.2.2.2, fun j v hj hv => ?_⟩⟩, by have := HKU.out.2.2; simp [intOf]; omega⟩
            rcases Nat.lt_or_ge j k with h | h
            · exact HH.out.2 j v h hv
            · have e : j = k := by omega
              subst e
              rw [HKU.out.1] at hv; cases hv
              exact HY.out.2.1.symm
          · have hu : (wiT id tx ⟨ui, uk, ut, l⟩).2 = true := HY.out.2.1.symm
            have HWT := Lib.hid (wiT_kid HID.out HKU.out.1 HH.out.2 hu)
            rw [← HY.out.1] at HWT
            have hb26 := HY.out.2.2.2.2.2.2.2.2
            have eo := (hb26.block _ (lt_of_heap H2.out.2.2.2.1)).trans H2.out.2.2.2.1
            rw [← H1.out.2.2.2.2.2] at eo
            obtain ⟨y0, y1, y2, y3⟩ := box4 eo
            have ek := HEK.out.1
            rw [← HEK.out.2] at ek
            obtain ⟨k0, k1, k2, k3⟩ := box4 ek
            have hg6 : W6.heap[g]? = some (.cells cur 25 (0, 0)) := ((hb26.block g (by have := H2.out.2.1; have := HG.out.2.2.2.2.2; omega)).trans (H2.out.1.block g HG.out.2.2.2.2.2)).trans HG.out.2.1
            have hcs : k * 4 + 3 < cur.size := by rw [HG.out.2.2.2.1]; have := HG.out.2.2.1; have := HKU.out.2.2; omega
            obtain ⟨⟨⟨s0, p0⟩, f0, ⟨s1, p1⟩, f1, ⟨s2, p2⟩, f2, ⟨s3, p3⟩, f3⟩, V, hV, g1, g2, g3, g4, g5, g6⟩ := store4J (.int .i64 y.id) (.int .i64 y.kind) (.string y.text) (.slice va yn vc) hg6 hcs
            have hgOB : g ≠ OB := by rw [H1.out.2.2.2.2.2]; have := HG.out.2.2.2.2.2; omega
            have HV := Lib.hid hV
            have HVG := Lib.hid (And.intro g1 (And.intro g2 (And.intro g3 (And.intro g4 (And.intro g5 (And.intro g6 (And.intro hcs hgOB)))))))
            have HU := Lib.hid hu
            have hki : (k : Int) < (tn : Int) := by have := HKU.out.2.2; omega
            clear g1 g2 g3 g4 g5 g6 hV hcs hgOB hg6 eo ek hb26 hu
            go_upto_region 11 with fail
            rw [← HV.out]
            clear HV s0 p0 f0 p1 f1 p2 f2 p3 f3 k0 k1 k2 k3 y0 y1 y2 y3
            have hb26 := HY.out.2.2.2.2.2.2.2.2
            have hwo6 : W6.heap[OB]? = some (.cells #[.int .i64 t.id, .int .i64 t.kind, .string t.text, .slice (some ⟨g, 0, none⟩) tn rc] 25 (0, 0)) := by
              have h := (hb26.block _ (lt_of_heap H2.out.2.2.2.1)).trans H2.out.2.2.2.1
              rw [← H1.out.2.2.2.2.2] at h; exact h
            have eo := (HVG.out.2.1 OB (fun e => HVG.out.2.2.2.2.2.2.2 e.symm)).trans hwo6
            have hgw : w.heap.size + 2 ≤ g := by have := HG.out.1; have := HB.out.2.1; omega
            have er := (HVG.out.2.1 (w.heap.size + 1) (by omega)).trans ((hb26.block _ (lt_of_heap H2.out.2.2.2.2.2)).trans H2.out.2.2.2.2.2)
            obtain ⟨y0, y1, y2, y3⟩ := box4 eo
            obtain ⟨z0, z1, z2, z3⟩ := box4 er
            have zf : ∀ j, V.frozen? ⟨w.heap.size + 1, j, none⟩ = false := fun j => frozen_of_row _ _ j _ _ er
            obtain ⟨V2, hV2, r1, r2, r3, r4, r5, r6⟩ := four_setN (u0 := .int .i64 t.id) (u1 := .int .i64 t.kind) (u2 := .string t.text) (u3 := .slice (some ⟨g, 0, none⟩) tn rc) er
            have HE := Lib.hid (And.intro hV2 (And.intro r1 (And.intro r2 (And.intro r3 (And.intro r4 (And.intro r5 r6))))))
            have HGW := Lib.hid hgw
            clear hV2 r1 r2 r3 r4 r5 r6 er eo hwo6 hgw hb26
            go_wp2_with fail
            rw [← HE.out.1]
            obtain ⟨hV2, r1, r2, r3, r4, r5, r6⟩ := HE.out
            obtain ⟨g1, g2, g3, g4, g5, g6, hcs, hgOB⟩ := HVG.out
            obtain ⟨hye, hbe, hyn, hvc, hvf, hb5, hb56, hs6, hb26⟩ := HY.out
            have hgw := HGW.out
            have h12 := H2.out.2.1
            have hgl := HG.out.2.2.2.2.2
            have hw0 := HH.out.1.size
            have hb5s := hb5.size
            have hsz : V2.heap.size = W6.heap.size := by rw [r6]; exact g6
            have hw6 : w.heap.size ≤ W6.heap.size := Nat.le_trans H2.out.2.2.1.size hb26.size
            have hold : ∀ x, x ≠ w.heap.size + 1 → x ≠ g → V2.heap[x]? = W6.heap[x]? := fun x h1 h2 => (r2 x h1).trans (g2 x h2)
            have hwb : Below w.heap.size w V2 := ⟨r3.trans (g3.trans (hb26.os.trans H2.out.2.2.1.os)), r4.trans (g4.trans (hb26.tape.trans H2.out.2.2.1.tape)), r5.trans (g5.trans (hb26.output.trans H2.out.2.2.1.output)), by rw [hsz]; exact hw6, fun x hx => (hold x (by omega) (by omega)).trans ((hb26.block x (by have := H2.out.2.2.1.size; omega)).trans (H2.out.2.2.1.block x hx))⟩
            have hg2 : V2.heap[g]? = some (.cells ((((cur.setIfInBounds (k * 4) (.int .i64 y.id)).setIfInBounds (k * 4 + 1) (.int .i64 y.kind)).setIfInBounds (k * 4 + 2) (.string y.text)).setIfInBounds (k * 4 + 3) (.slice va yn vc)) 25 (0, 0)) := (r2 g (by omega)).trans g1
            have hnew := set_here (u0 := .int .i64 y.id) (u1 := .int .i64 y.kind) (u2 := .string y.text) (u3 := .slice va yn vc) hcs
            have hSg : Fresh w V2 g := ⟨by omega, by rw [hsz]; have := hb26.size; omega⟩
            have hlk : k < foLen t.kids := by rw [← HT.out.1]; exact HKU.out.2.2
            refine with_end (y := ⟨t.id, t.kind, t.text, setFN t.kids k y⟩) (b := true) rfl HWT.out hwb r1 (by rw [setF_lenN]; exact HT.out.1) (by rw [setF_lenN, ← HT.out.1]; exact H1.out.1) ?_ rfl rfl
            refine but_fillN t.kids k (but_rowN t.kids k xs H1.out.2.2.1 hlk hSg (fun x hx => ?_) (fun j u hj hjk => ?_)) ?_ hlk
            · have hxg : x ≠ g := fun e => hx.2 (by rw [e]; rfl)
              have hx1 := hx.1
              have hBs := HB.out.2.1
              exact ⟨⟨by have := hx1.1; omega, by rw [hsz]; have := hb26.size; have := hx1.2; omega⟩, (hold x (by have := hx1.1; omega) hxg).trans ((hb26.block x (by have := hx1.2; omega)).trans (H2.out.1.block x hx1.2))⟩
            · rw [Nat.zero_add, cell_of_row _ _ _ _ _ _ hg2, set_other hjk]
              rw [← HG.out.2.2.2.2.1, List.getElem?_take] at hj
              split at hj
              · rw [Array.getElem?_toList] at hj; exact hj
              · cases hj
            · rw [Nat.zero_add]
              refine ⟨hSg, ?_, ?_, ?_, va, vc, ?_, by rw [← hyn]; exact hvc, hvf.kept fun x hx => ⟨⟨by have := hx.1; omega, by rw [hsz, hs6]; have := hx.2; omega⟩, (hold x (by have := hx.1; omega) (by have := hx.1; omega)).trans (hb56.block x hx.2)⟩⟩
              · rw [cell_of_row _ _ _ _ _ _ hg2]; exact hnew.1
              · rw [cell_of_row _ _ _ _ _ _ hg2]; exact hnew.2.1
              · rw [cell_of_row _ _ _ _ _ _ hg2]; exact hnew.2.2.1
              · rw [cell_of_row _ _ _ _ _ _ hg2, ← hyn]; exact hnew.2.2.2
        · have hkl : ¬ (k : Int) < (tn : Int) := by omega
          have HWT := Lib.hid (wiT_none (tx := tx) HID.out (fun j v hv => hh.out.2 j v (by have := kidF_some hv; have := HT.out.1; omega) hv))
          have er := (hh.out.1.block _ (lt_of_heap H2.out.2.2.2.2.2)).trans H2.out.2.2.2.2.2
          obtain ⟨z0, z1, z2, z3⟩ := box4 er
          have zf : ∀ j, wo.frozen? ⟨w.heap.size + 1, j, none⟩ = false := fun j => frozen_of_row _ _ j _ _ er
          obtain ⟨V2, hV2, r1, r2, r3, r4, r5, r6⟩ := four_setN (u0 := .int .i64 t.id) (u1 := .int .i64 t.kind) (u2 := .string t.text) (u3 := .slice ra tn rc) er
          have HE := Lib.hid (And.intro hV2 (And.intro r1 (And.intro r2 (And.intro r3 (And.intro r4 (And.intro r5 r6))))))
          have HBW := Lib.hid hh.out.1
          clear hV2 r1 r2 r3 r4 r5 r6 er eo hh hk hlt
          go_wp2_with fail
          rw [← HE.out.1]
          obtain ⟨hV2, r1, r2, r3, r4, r5, r6⟩ := HE.out
          have hb2w := HBW.out
          have h12 := H2.out.2.1
          have hBs := HB.out.2.1
          have h1s := H1.out.2.2.2.2.1
          have hwb : Below w.heap.size w V2 := ⟨r3.trans (hb2w.os.trans H2.out.2.2.1.os), r4.trans (hb2w.tape.trans H2.out.2.2.1.tape), r5.trans (hb2w.output.trans H2.out.2.2.1.output), by rw [r6]; exact Nat.le_trans H2.out.2.2.1.size hb2w.size, fun x hx => (r2 x (by omega)).trans ((hb2w.block x (by have := H2.out.2.2.1.size; omega)).trans (H2.out.2.2.1.block x hx))⟩
          refine with_end (y := t) (b := false) rfl HWT.out hwb r1 HT.out.1 (by rw [← HT.out.1]; exact H1.out.1) ?_ rfl rfl
          exact H1.out.2.2.2.1.kept fun x hx => ⟨⟨by omega, by rw [r6]; have := hb2w.size; omega⟩, (r2 x (by omega)).trans ((hb2w.block x (by omega)).trans (H2.out.1.block x hx.2))⟩
end Go.Proofs.Ytpbjncljecfaeaa
