/-
  .
-/
import Derived.Test.YtgkmmnihaiopaaaRWalkNQa
import Derived.Test.YtgkmmnihaiopaaaJPgQa
set_option maxRecDepth 100000
set_option maxHeartbeats 40000000
namespace Go.Proofs.Ytgkmmnihaiopaaa
open Go.RowKit Go.Shelf
attribute [local go_sem] Oper.semAt_some
set_option linter.unusedVariables false
set_option linter.unusedSimpArgs false
def zej (w : World) (S : Nat → Prop) (t : Tr) (id : Int) (e : Ending) (w' : World) : Prop :=
 ∃ v, e = .returned (.tuple #[v, .bool (yI id (spF 1 (zl t))).isSome]) ∧ zH w' (fun x => zK w' x ∧ (S x ∨ w.heap.size ≤ x)) v (((yI id (spF 1 (zl t))).map zR).getD zbN) ∧ Below w.heap.size w w'
def Qx (t : Tr) (ka : Option Addr) (n cap : Nat) (id : Int) (B : Nat) : List Obj :=
 [.cells #[.int .i64 t.id, .int .i64 t.kind, .string t.text, .slice ka n cap] 27, .cells #[.int .i64 id] 3, .cells #[.int .i64 0, .int .i64 0, .string ⟨#[]⟩, .slice none 0 0] 27, .cells #[.bool false] 4,
  .cells #[.int .i64 t.id, .int .i64 t.kind, .string t.text, .slice ka n cap] 27, .cells #[.slice (some ⟨B + 1 + 1 + 1 + 1, 0, none⟩) 1 1] 25]
def Jg (w W : World) (id : Int) (pre : List Sp) (_ : Nat → Prop) (V : World) : Prop := Below w.heap.size w V ∧ W.heap.size ≤ V.heap.size ∧ (∀ x, x < W.heap.size → V.heap[x]? = W.heap[x]?) ∧ ∀ x ∈ pre, x.2.1.1 ≠ id
def Jh (w W : World) (S : Nat → Prop) (t : Tr) (id : Int) (T : Nat → Prop) (V : World) : Prop := Below w.heap.size w V ∧ W.heap.size ≤ V.heap.size ∧ ∃ x v c3, yI id (spF 1 (zl t)) = some x ∧ v = .agg #[.int .i64 x.2.1.1, .int .i64 x.2.1.2.1, .string x.2.1.2.2, c3] ∧ V.heap[w.heap.size + 2]? = some (.cells #[.int .i64 x.2.1.1, .int .i64 x.2.1.2.1, .string x.2.1.2.2, c3] 27 (0, 0)) ∧ V.heap[w.heap.size + 3]? = some (.cells #[.bool true] 4 (0, 0)) ∧ zH V (fun y => XT T V y ∧ (S y ∨ w.heap.size + 4 ≤ y)) v (zR x)
theorem za8 {W V V' : World} {T : Nat → Prop} (hs : W.heap.size ≤ V.heap.size) (hT : ∀ x, T x → W.heap.size ≤ x) (ht : zk V V' (fun x => T x ∨ (W.heap.size ≤ x ∧ zS V x))) (x : Nat) (hx : x < W.heap.size) : V'.heap[x]? = V.heap[x]? :=
 ht.block x (by omega) (fun h => by
  rcases h with h | h
  · have := hT x h; omega
  · omega)
theorem Jg.turn {w W V V' : World} {id : Int} {pre : List Sp} {T T' : Nat → Prop} (hw : w.heap.size ≤ W.heap.size) (h : Jg w W id pre T V) (hT : ∀ x, T x → W.heap.size ≤ x) (ht : zk V V' (fun x => T x ∨ (W.heap.size ≤ x ∧ zS V x))) : Jg w W id pre T' V' := by
 obtain ⟨h1, h2, h3, h4⟩ := h
 have hk := za8 h2 hT ht
 exact ⟨⟨ht.os.trans h1.os, ht.tape.trans h1.tape, ht.output.trans h1.output, Nat.le_trans h1.size ht.size, fun x hx => (hk x (by omega)).trans (h1.block x hx)⟩, Nat.le_trans h2 ht.size, fun x hx => (hk x hx).trans (h3 x hx), h4⟩
theorem Jh.turn {w W V V' : World} {S : Nat → Prop} {t : Tr} {id : Int} {T T' : Nat → Prop} (hw : w.heap.size + 4 ≤ W.heap.size) (h : Jh w W S t id T V) (hT : ∀ x, T x → W.heap.size ≤ x) (ht : zk V V' (fun x => T x ∨ (W.heap.size ≤ x ∧ zS V x))) (hwd : ve T T' V V') : Jh w W S t id T' V' := by
 obtain ⟨h1, h2, x, v, c3, hf, hv, q1, q2, q3⟩ := h
 have hk := za8 h2 hT ht
 refine ⟨⟨ht.os.trans h1.os, ht.tape.trans h1.tape, ht.output.trans h1.output, Nat.le_trans h1.size ht.size, fun x hx => (hk x (by omega)).trans (h1.block x hx)⟩, Nat.le_trans h2 ht.size, x, v, c3, hf, hv, (hk _ (by omega)).trans q1, (hk _ (by omega)).trans q2, q3.kept fun y hy => ?_⟩
 have := zc6 ht hwd y hy.1
 exact ⟨⟨this.1, hy.2⟩, this.2⟩
theorem zeZ {w W V V1 V3 : World} {S T : Nat → Prop} {t : Tr} {id : Int} {pre : List Sp} {x : Sp} {kb : Option Addr} {kc : Nat} {aa : Act} (hW1 : W.heap.size ≤ V1.heap.size) (hW : W.heap.size = w.heap.size + 6) (hS : ∀ x, S x → x < w.heap.size) (hb : Below w.heap.size w V1) (hT : ∀ x, T x → x < V.heap.size ∧ W.heap.size + 2 ≤ x) (hV : V.heap.size ≤ V1.heap.size) (hVe : V1.heap.size = V.heap.size) (hb3 : Below V1.drew.heap.size V1.drew V3)
 (h2 : V3.heap[w.heap.size + 1 + 1]? = some (.cells #[.int .i64 0, .int .i64 0, .string ⟨#[]⟩, .slice none 0 0] 27 (0, 0))) (h3 : V3.heap[w.heap.size + 1 + 1 + 1]? = some (.cells #[.bool false] 4 (0, 0)))
 (hc : foLen (zR x).kids ≤ kc) (hk : zC V3 (fun y => zK V3 y ∧ ((S y ∨ y = w.heap.size + 4) ∨ V1.drew.heap.size ≤ y)) (zR x).kids kb) (hf : yI id (spF 1 (zl t)) = some x) :
 Qc W.heap.size T (fun x => S x ∨ x = w.heap.size + 4) (Jg w W id) (fun c T V => c = .ret ∧ Jh w W S t id T V) pre V1 .ret aa (((((V3.setCell ⟨w.heap.size + 1 + 1, 0, none⟩ (.int .i64 (zR x).id)).setCell ⟨w.heap.size + 1 + 1, 1, none⟩ (.int .i64 (zR x).kind)).setCell ⟨w.heap.size + 1 + 1, 2, none⟩ (.string (zR x).text)).setCell ⟨w.heap.size + 1 + 1, 3, none⟩ (.slice kb (foLen (zR x).kids) kc)).setCell ⟨w.heap.size + 1 + 1 + 1, 0, none⟩ (.bool true)) := by
 have g1 := heap_setCell_same V3 (w.heap.size + 1 + 1) 0 _ _ (.int .i64 (zR x).id) h2
 have g2 := heap_setCell_same _ (w.heap.size + 1 + 1) 1 _ _ (.int .i64 (zR x).kind) g1
 have g3 := heap_setCell_same _ (w.heap.size + 1 + 1) 2 _ _ (.string (zR x).text) g2
 have g4 := heap_setCell_same _ (w.heap.size + 1 + 1) 3 _ _ (.slice kb (foLen (zR x).kids) kc) g3
 have k4 : ∀ y, y ≠ w.heap.size + 1 + 1 → ((((V3.setCell ⟨w.heap.size + 1 + 1, 0, none⟩ (.int .i64 (zR x).id)).setCell ⟨w.heap.size + 1 + 1, 1, none⟩ (.int .i64 (zR x).kind)).setCell ⟨w.heap.size + 1 + 1, 2, none⟩ (.string (zR x).text)).setCell ⟨w.heap.size + 1 + 1, 3, none⟩ (.slice kb (foLen (zR x).kids) kc)).heap[y]? = V3.heap[y]? := fun y hy => by
  rw [Below.heap_setCell _ _ _ _ hy, Below.heap_setCell _ _ _ _ hy, Below.heap_setCell _ _ _ _ hy, Below.heap_setCell _ _ _ _ hy]
 have ho : ((((V3.setCell ⟨w.heap.size + 1 + 1, 0, none⟩ (.int .i64 (zR x).id)).setCell ⟨w.heap.size + 1 + 1, 1, none⟩ (.int .i64 (zR x).kind)).setCell ⟨w.heap.size + 1 + 1, 2, none⟩ (.string (zR x).text)).setCell ⟨w.heap.size + 1 + 1, 3, none⟩ (.slice kb (foLen (zR x).kids) kc)).os = V3.os ∧ ((((V3.setCell ⟨w.heap.size + 1 + 1, 0, none⟩ (.int .i64 (zR x).id)).setCell ⟨w.heap.size + 1 + 1, 1, none⟩ (.int .i64 (zR x).kind)).setCell ⟨w.heap.size + 1 + 1, 2, none⟩ (.string (zR x).text)).setCell ⟨w.heap.size + 1 + 1, 3, none⟩ (.slice kb (foLen (zR x).kids) kc)).tape = V3.tape ∧ ((((V3.setCell ⟨w.heap.size + 1 + 1, 0, none⟩ (.int .i64 (zR x).id)).setCell ⟨w.heap.size + 1 + 1, 1, none⟩ (.int .i64 (zR x).kind)).setCell ⟨w.heap.size + 1 + 1, 2, none⟩ (.string (zR x).text)).setCell ⟨w.heap.size + 1 + 1, 3, none⟩ (.slice kb (foLen (zR x).kids) kc)).output = V3.output ∧ ((((V3.setCell ⟨w.heap.size + 1 + 1, 0, none⟩ (.int .i64 (zR x).id)).setCell ⟨w.heap.size + 1 + 1, 1, none⟩ (.int .i64 (zR x).kind)).setCell ⟨w.heap.size + 1 + 1, 2, none⟩ (.string (zR x).text)).setCell ⟨w.heap.size + 1 + 1, 3, none⟩ (.slice kb (foLen (zR x).kids) kc)).heap.size = V3.heap.size := by
  refine ⟨?_, ?_, ?_, ?_⟩ <;> simp [World.setCell]
 revert k4 g4 ho
 generalize ((((V3.setCell ⟨w.heap.size + 1 + 1, 0, none⟩ (.int .i64 (zR x).id)).setCell ⟨w.heap.size + 1 + 1, 1, none⟩ (.int .i64 (zR x).kind)).setCell ⟨w.heap.size + 1 + 1, 2, none⟩ (.string (zR x).text)).setCell ⟨w.heap.size + 1 + 1, 3, none⟩ (.slice kb (foLen (zR x).kids) kc)) = V4
 rintro g4 k4 ⟨o1, o2, o3, o4⟩
 have hs3 : V1.heap.size ≤ V3.heap.size := hb3.size
 have h3' := (k4 (w.heap.size + 1 + 1 + 1) (by omega)).trans h3
 have g5 := heap_setCell_same V4 (w.heap.size + 1 + 1 + 1) 0 _ _ (.bool true) h3'
 have hsz : (V4.setCell ⟨w.heap.size + 1 + 1 + 1, 0, none⟩ (.bool true)).heap.size = V3.heap.size := by simp [World.setCell]; exact o4
 have kk : ∀ y, y ≠ w.heap.size + 1 + 1 → y ≠ w.heap.size + 1 + 1 + 1 → (V4.setCell ⟨w.heap.size + 1 + 1 + 1, 0, none⟩ (.bool true)).heap[y]? = V3.heap[y]? := fun y a b => (Below.heap_setCell _ _ _ _ b).trans (k4 y a)
 have kv : ∀ y, y < V1.heap.size → V3.heap[y]? = V1.heap[y]? := fun y hy => hb3.block y hy
 refine ⟨⟨by omega, fun y o hy hyo _ => ?_⟩, ⟨by omega, fun y hy => ?_⟩, fun y hy => ?_, .inr (.inl ⟨rfl, rfl, ⟨?_, ?_, ?_, by have := hb.size; omega, fun y hy => ?_⟩, by omega, x, _, _, hf, rfl, ?_, ?_, kb, kc, rfl, hc, hk.kept fun y hy => ?_⟩)⟩
 · have := lt_of_heap hyo
   rw [kk y (by omega) (by omega), kv y this]; exact hyo
 · have := hT y hy
   rw [kk y (by omega) (by omega), kv y (by omega)]
 · have : y < V1.heap.size ∧ y ≠ w.heap.size + 1 + 1 ∧ y ≠ w.heap.size + 1 + 1 + 1 := by
    rcases hy with hy | hy
    · have := hS y hy; omega
    · omega
   rw [kk y this.2.1 this.2.2, kv y this.1]
 · exact o1.trans (hb3.os.trans hb.os)
 · exact o2.trans (hb3.tape.trans hb.tape)
 · exact o3.trans (hb3.output.trans hb.output)
 · rw [kk y (by omega) (by omega), kv y (by omega)]; exact hb.block y hy
 · rw [Below.heap_setCell _ _ _ _ (show w.heap.size + 2 ≠ w.heap.size + 1 + 1 + 1 by omega), g4]; simp [zR]
 · rw [g5]; simp
 · obtain ⟨⟨cs, ty, fr, hcy⟩, hy⟩ := hy
   have hyl := lt_of_heap hcy
   have hsd : V1.drew.heap.size = V1.heap.size := rfl
   have hne : y ≠ w.heap.size + 1 + 1 ∧ y ≠ w.heap.size + 1 + 1 + 1 ∧ ¬ T y ∧ (S y ∨ w.heap.size + 4 ≤ y) := by
    rcases hy with (hy | hy) | hy
    · have := hS y hy
      exact ⟨by omega, by omega, fun h => by have := hT y h; omega, Or.inl hy⟩
    · exact ⟨by omega, by omega, fun h => by have := hT y h; omega, Or.inr (by omega)⟩
    · exact ⟨by omega, by omega, fun h => by have := hT y h; omega, Or.inr (by omega)⟩
   exact ⟨⟨⟨⟨cs, ty, fr, (kk y hne.1 hne.2.1).trans hcy⟩, hne.2.2.1⟩, hne.2.2.2⟩, kk y hne.1 hne.2.1⟩
theorem ze1 {V : World} {R1 R2 : Nat} {cs : Array Value} {v0 u0 u1 u2 u3 bv : Value} (hne : R1 ≠ R2) (h2 : V.heap[R1]? = some (.cells cs 27 (0, 0))) (hcs : cs.size = 4) (h3 : V.heap[R2]? = some (.cells #[v0] 4 (0, 0))) :
 ∃ V5, V5 = (((((V.setCell ⟨R1, 0, none⟩ u0).setCell ⟨R1, 1, none⟩ u1).setCell ⟨R1, 2, none⟩ u2).setCell ⟨R1, 3, none⟩ u3).setCell ⟨R2, 0, none⟩ bv) ∧ V5.heap[R1]? = some (.cells #[u0, u1, u2, u3] 27 (0, 0)) ∧ V5.heap[R2]? = some (.cells #[bv] 4 (0, 0)) ∧ (∀ y, y ≠ R1 → y ≠ R2 → V5.heap[y]? = V.heap[y]?) ∧ V5.os = V.os ∧ V5.tape = V.tape ∧ V5.output = V.output ∧ V5.heap.size = V.heap.size := by
 obtain ⟨c0, c1, c2, c3, rfl⟩ : ∃ c0 c1 c2 c3, cs = #[c0, c1, c2, c3] := by
  match cs, hcs with
  | ⟨[c0, c1, c2, c3]⟩, _ => exact ⟨c0, c1, c2, c3, rfl⟩
 refine ⟨_, rfl, ?_, ?_, fun y a b => ?_, ?_, ?_, ?_, ?_⟩
 · rw [Below.heap_setCell _ _ _ _ hne]
   have g1 := heap_setCell_same V R1 0 _ _ u0 h2
   have g2 := heap_setCell_same _ R1 1 _ _ u1 g1
   have g3 := heap_setCell_same _ R1 2 _ _ u2 g2
   rw [heap_setCell_same _ R1 3 _ _ u3 g3]; simp
 · have h3' : ((((V.setCell ⟨R1, 0, none⟩ u0).setCell ⟨R1, 1, none⟩ u1).setCell ⟨R1, 2, none⟩ u2).setCell ⟨R1, 3, none⟩ u3).heap[R2]? = some (.cells #[v0] 4 (0, 0)) := by
    rw [Below.heap_setCell _ _ _ _ hne.symm, Below.heap_setCell _ _ _ _ hne.symm, Below.heap_setCell _ _ _ _ hne.symm, Below.heap_setCell _ _ _ _ hne.symm]; exact h3
   rw [heap_setCell_same _ R2 0 _ _ bv h3']; simp
 · rw [Below.heap_setCell _ _ _ _ b, Below.heap_setCell _ _ _ _ a, Below.heap_setCell _ _ _ _ a, Below.heap_setCell _ _ _ _ a, Below.heap_setCell _ _ _ _ a]
 all_goals simp [World.setCell]
theorem zdz {w V : World} {S : Nat → Prop} {t : Tr} {id : Int} {D : Nat} (h2 : V.heap[w.heap.size + 1 + 1]? = some (.cells #[.int .i64 0, .int .i64 0, .string ⟨#[]⟩, .slice none 0 0] 27 (0, 0))) (h3 : V.heap[w.heap.size + 1 + 1 + 1]? = some (.cells #[.bool false] 4 (0, 0))) (hf : yI id (spF 1 (zl t)) = none) (hb : Below w.heap.size w V) (hK : V.heap[D]? = some (.deferred (some []))) (hD : w.heap.size + 4 ≤ D) :
 ∃ V5, V5 = (((((V.setCell ⟨w.heap.size + 1 + 1, 0, none⟩ (.int .i64 0)).setCell ⟨w.heap.size + 1 + 1, 1, none⟩ (.int .i64 0)).setCell ⟨w.heap.size + 1 + 1, 2, none⟩ (.string ⟨#[]⟩)).setCell ⟨w.heap.size + 1 + 1, 3, none⟩ (.slice none 0 0)).setCell ⟨w.heap.size + 1 + 1 + 1, 0, none⟩ (.bool false)) ∧ V5.heap[D]? = some (.deferred (some [])) ∧
  (V5.putObj D (.deferred none)).heap[w.heap.size + 1 + 1]? = some (.cells #[.int .i64 0, .int .i64 0, .string ⟨#[]⟩, .slice none 0 0] 27 (0, 0)) ∧ (V5.putObj D (.deferred none)).cell? ⟨w.heap.size + 1 + 1 + 1, 0, none⟩ = some (.bool false) ∧
  zej w S t id (.returned (.tuple #[.agg #[.int .i64 0, .int .i64 0, .string ⟨#[]⟩, .slice none 0 0], .bool false])) (V5.putObj D (.deferred none)) := by
 obtain ⟨V5, e, g1, g2, g3, o1, o2, o3, o4⟩ := ze1 (u0 := .int .i64 0) (u1 := .int .i64 0) (u2 := .string ⟨#[]⟩) (u3 := .slice none 0 0) (bv := .bool false) (by omega) h2 rfl h3
 have g2' : (V5.putObj D (.deferred none)).heap[w.heap.size + 1 + 1 + 1]? = some (.cells #[.bool false] 4 (0, 0)) := (World.putObj_heap_other (by omega)).trans g2
 refine ⟨V5, e, (g3 D (by omega) (by omega)).trans hK, (World.putObj_heap_other (by omega)).trans g1, by rw [cell_of_row _ _ 0 _ _ _ g2']; rfl, _, by rw [hf]; rfl, ?_, ⟨o1.trans hb.os, o2.trans hb.tape, o3.trans hb.output, by have := hb.size; simp [World.putObj]; omega, fun y hy => by rw [World.putObj_heap_other (by omega), g3 y (by omega) (by omega)]; exact hb.block y hy⟩⟩
 rw [hf]
 exact ⟨none, 0, rfl, Nat.le_refl _, True.intro⟩
theorem zd6 (w : World) (S : Nat → Prop) (nv : Value) (t : Tr) (id : Int) (hS : ∀ x, S x → zK w x) (ht : zH w S nv t) (hsz : zg t.kids + 1 ≤ 500000) : Calls Try.prog 31 #[nv, .int .i64 id] w (zej w S t id) := by
 obtain ⟨ka, cap, rfl, hcap, hk⟩ := ht
 obtain ⟨n, hn⟩ : ∃ n, n = foLen t.kids := ⟨_, rfl⟩
 rw [← hn]
 have hal := zi (Qx t ka n cap id w.heap.size) w
 have hab := zm (Qx t ka n cap id w.heap.size) w
 have has := zx (Qx t ka n cap id w.heap.size) w
 have HA := hH (aN hab (aN (hal 0 _ rfl) (aN (hal 1 _ rfl) (aN (hal 2 _ rfl) (aN (hal 3 _ rfl) (aN (hal 4 _ rfl) (aN (hal 5 _ rfl) has)))))))
 have H := hH (aN hS (aN hcap (aN hk (aN hsz hn))))
 clear hS hcap hk hsz hn hal hab has
 refine (callsIn_wide (n := 9)).1 ?_
 refine callsIn_of_wp_marks Try.func31 rfl trivial ?_ rfl
 simp only [Try.ntmps31, List.size_toArray, List.length_cons, List.length_nil, Nat.reduceAdd, Nat.reduceSub, Array.replicate_succ, Array.replicate_zero, List.push_toArray, List.append_toArray, List.nil_append, List.cons_append]
 gi_wp2_with (refine ⟨trivial, ?_⟩; gi_at_call 48; refine (callsIn_wide.2 (Y4 _ _ _ _)).mono ?_; rintro e w' ⟨rfl, rfl⟩)
 change Code.wpIn _ _ _ _ _ _ (zq w (Qx t ka n cap id w.heap.size))
 generalize hW : zq w (Qx t ka n cap id w.heap.size) = W at HA ⊢
 clear hW
 obtain ⟨k0, k1, k2, k3, k4, k5, k6, k7⟩ := HA.out
 have k7' : W.heap.size = w.heap.size + 6 := k7
 have hSl : ∀ x, S x → x < w.heap.size := fun x hx => (H.out.1 x hx).lt
 have hroot := jE (fun x hx => k0.block x (hSl x hx)) H.out.2.1 H.out.2.2.1 (by rw [← H.out.2.2.2.2]; exact k5)
 refine ZB (by omega) rfl ⟨1, some ⟨w.heap.size + 1 + 1 + 1 + 1, 0, none⟩, 1, zl t⟩ rfl (by simp [zl]) (by simp [zl, foLen]) (by rw [zI]; have := H.out.2.2.2.1; omega) (by rw [cell_of_row _ _ 0 _ _ _ k6]; rfl) rfl (fun x => S x ∨ x = w.heap.size + 4) (fun x hx => by rcases hx with hx | hx; have := hSl x hx; omega; omega) hroot
  (Jg w W id) (fun c T V => c = .ret ∧ Jh w W S t id T V) (fun h hT ht _ => h.turn (by omega) hT ht) (fun h hT ht hwd => ⟨h.1, h.2.turn (by omega) hT ht hwd⟩) ⟨k0, Nat.le_refl _, fun _ _ => rfl, fun x hx => by simp at hx⟩ ?round ?done ?stop
 case done =>
  rintro D T V hD hI hK
  have h2 := (hI.2.2.1 (w.heap.size + 1 + 1) (by omega)).trans k3
  have h3 := (hI.2.2.1 (w.heap.size + 1 + 1 + 1) (by omega)).trans k4
  have z0 : V.cell? ⟨w.heap.size + 1 + 1, 0, none⟩ = some (.int .i64 0) := by rw [cell_of_row _ _ 0 _ _ _ h2]; rfl
  have z1 : V.cell? ⟨w.heap.size + 1 + 1, 1, none⟩ = some (.int .i64 0) := by rw [cell_of_row _ _ 1 _ _ _ h2]; rfl
  have z2 : V.cell? ⟨w.heap.size + 1 + 1, 2, none⟩ = some (.string ⟨#[]⟩) := by rw [cell_of_row _ _ 2 _ _ _ h2]; rfl
  have z3 : V.cell? ⟨w.heap.size + 1 + 1, 3, none⟩ = some (.slice none 0 0) := by rw [cell_of_row _ _ 3 _ _ _ h2]; rfl
  have zf : ∀ j, V.frozen? ⟨w.heap.size + 1 + 1, j, none⟩ = false := fun j => frozen_of_row _ _ j _ _ h2
  have zb : V.cell? ⟨w.heap.size + 1 + 1 + 1, 0, none⟩ = some (.bool false) := by rw [cell_of_row _ _ 0 _ _ _ h3]; rfl
  have zbf : ∀ j, V.frozen? ⟨w.heap.size + 1 + 1 + 1, j, none⟩ = false := fun j => frozen_of_row _ _ j _ _ h3
  have hn0 := Zk hI.2.2.2
  have HE := hH (aN h2 (aN h3 (aN hn0 (aN hI.1 hK))))
  clear h2 h3 hn0 hI HA H k0 k1 k2 k3 k4 k5 k6 k7 hSl hroot
  gi_wp2
  obtain ⟨q1, q2, q3, q4, q5⟩ := HE.out
  obtain ⟨V5, ev5, r1, r2, r3, r4⟩ := zdz (S := S) q1 q2 q3 q4 q5 (by omega)
  rw [← ev5]
  refine ⟨by simp, .inl ⟨_, _, rfl, run_takeDeferred r1, ?_⟩⟩
  exact ⟨_, Zc rfl _ _ (w.heap.size + 1 + 1) (w.heap.size + 1 + 1 + 1) 27 _ _ _ false rfl r2 Try.underlying27 rfl (by kernel_rfl) rfl r3 (fun _ => by kernel_rfl), r4⟩
 case stop =>
  rintro D c T V hD ⟨rfl, h1, h2, x, v, c3, hf, rfl, q1, q2, q3⟩ hK
  have hb2 : Below w.heap.size w (V.putObj D (.deferred none)) := ⟨h1.os, h1.tape, h1.output, by have := h1.size; simp [World.putObj]; exact this, fun y hy => by rw [World.putObj_heap_other (by omega)]; exact h1.block y hy⟩
  have e1 : (V.putObj D (.deferred none)).heap[w.heap.size + 1 + 1]? = some (.cells #[.int .i64 x.2.1.1, .int .i64 x.2.1.2.1, .string x.2.1.2.2, c3] 27 (0, 0)) := (World.putObj_heap_other (by omega)).trans q1
  have e2 : (V.putObj D (.deferred none)).heap[w.heap.size + 1 + 1 + 1]? = some (.cells #[.bool true] 4 (0, 0)) := (World.putObj_heap_other (by omega)).trans q2
  have e3 : (V.putObj D (.deferred none)).cell? ⟨w.heap.size + 1 + 1 + 1, 0, none⟩ = some (.bool true) := by rw [cell_of_row _ _ 0 _ _ _ e2]; rfl
  have hend : zej w S t id (.returned (.tuple #[.agg #[.int .i64 x.2.1.1, .int .i64 x.2.1.2.1, .string x.2.1.2.2, c3], .bool true])) (V.putObj D (.deferred none)) := by
   refine ⟨_, by rw [hf]; rfl, ?_, hb2⟩
   rw [hf]
   exact q3.kept fun y hy => by
    obtain ⟨⟨⟨cs, ty, fr, hc⟩, _⟩, hs⟩ := hy
    have hyD : y ≠ D := fun e => by rw [e, hK] at hc; cases hc
    exact ⟨⟨⟨cs, ty, fr, (World.putObj_heap_other hyD).trans hc⟩, hs.imp (fun h => h) (fun h => by omega)⟩, World.putObj_heap_other hyD⟩
  have HE := hH (aN e1 (aN e3 hend))
  clear e1 e2 e3 hend hb2 q1 q2 q3 hf h1 h2 HA H k0 k1 k2 k3 k4 k5 k6 k7 hSl hroot
  gi_wp2
  refine ⟨by simp, .inl ⟨_, _, rfl, run_takeDeferred hK, ?_⟩⟩
  exact ⟨_, Zc rfl _ _ (w.heap.size + 1 + 1) (w.heap.size + 1 + 1 + 1) 27 _ _ _ true rfl HE.out.1 Try.underlying27 rfl (by kernel_rfl) rfl HE.out.2.1 (fun _ => by kernel_rfl), HE.out.2.2⟩
 case round =>
  rintro l hl T pre rest d key k V b off kcc ka2 hT hV htot hb d0 d1 d2 d3 d4 dk hR K hK
  obtain ⟨n2, hn2⟩ : ∃ n2, n2 = foLen k := ⟨_, rfl⟩
  rw [← hn2] at d3 d4
  have hbl : b < W.heap.size := by rcases hb with hb | hb; have := hSl b hb; omega; omega
  have HR := hH (aN hR (aN hT (aN hV (aN htot (aN hb (aN dk (aN hn2 (aN hl d4))))))))
  have HK := hH hK
  have HC := hH (aN d0 (aN d1 (aN d2 d3)))
  clear hR hT hV htot hb dk hn2 hl d4 hK d0 d1 d2 d3 k0 k1 k2 k3 k4 k5 k6 k7 hroot
  gi_wp2
  refine HK.out _ fun V1 hV1 => ?_
  clear HK
  obtain ⟨o', ev, o, ho, hoc⟩ := hV1
  have hV1s : ∀ x, x < W.heap.size → V1.heap[x]? = V.heap[x]? := fun x hx => by rw [ev]; exact World.putObj_heap_other (by have := HR.out.2.2.2.2.2.2.2.1; omega)
  have e0 : V1.cell? ⟨b, off, none⟩ = some (.int .i64 key.1) := (World.cell?_of_block (hV1s b hbl)).trans HC.out.1
  have e1 : V1.cell? ⟨b, off + 1, none⟩ = some (.int .i64 key.2.1) := (World.cell?_of_block (hV1s b hbl)).trans HC.out.2.1
  have e2 : V1.cell? ⟨b, off + 2, none⟩ = some (.string key.2.2) := (World.cell?_of_block (hV1s b hbl)).trans HC.out.2.2.1
  have e3 : V1.cell? ⟨b, off + 3, none⟩ = some (.slice ka2 n2 kcc) := (World.cell?_of_block (hV1s b hbl)).trans HC.out.2.2.2
  have i0 : V1.cell? ⟨w.heap.size + 1, 0, none⟩ = some (.int .i64 id) := by rw [cell_of_row _ _ 0 _ _ _ ((hV1s _ (by omega)).trans ((HR.out.1.2.2.1 _ (by omega)).trans HA.out.2.2.1))]; rfl
  have HE0 := hH (aN e0 (aN e1 (aN e2 (aN e3 i0))))
  have HV1 := hH (aN ev (aN ho (aN hoc hV1s)))
  clear ev ho hoc hV1s
  obtain ⟨SX, hSX⟩ : ∃ SX : World → Prop, SX = fun X => X.cell? ⟨b, off, none⟩ = some (.int .i64 key.1) ∧ X.cell? ⟨w.heap.size + 1, 0, none⟩ = some (.int .i64 id) := ⟨_, rfl⟩
  have HSx : ∀ X, SX X → X.cell? ⟨b, off, none⟩ = some (.int .i64 key.1) ∧ X.cell? ⟨w.heap.size + 1, 0, none⟩ = some (.int .i64 id) := fun X h => by rw [hSX] at h; exact h
  have hS0 : SX V1.drew := by rw [hSX]; exact ⟨e0, i0⟩
  clear hSX e0 e1 e2 e3 i0
  gi_wp2
  refine vG (S := SX) (by kernel_rfl) (Y8 (by kernel_rfl)) ?_
  have hHeld := hS0
  clear hS0
  refine ze (i := 0) (oi := _) (v := .pointer (some ⟨b, off, none⟩)) rfl (by kernel_rfl) (by kernel_rfl) (by kernel_rfl) (fun _ _ _ h => h) (Or.inl ⟨by rfl, ?_⟩) hHeld ?_
  · clear hHeld; intro X hSw; obtain ⟨s0, s1⟩ := HSx X hSw; clear hSw; go_simp
  simp only [Act.put, pg]
  refine ze (i := 1) (oi := _) (v := .pointer (some ⟨b, off, none⟩)) rfl (by kernel_rfl) (by kernel_rfl) (by kernel_rfl) (fun _ _ _ h => h) (Or.inl ⟨by rfl, ?_⟩) hHeld ?_
  · clear hHeld; intro X hSw; obtain ⟨s0, s1⟩ := HSx X hSw; clear hSw; go_simp
  simp only [Act.put, pg]
  refine ze (i := 2) (oi := _) (v := .pointer (some ⟨b, off, none⟩)) rfl (by kernel_rfl) (by kernel_rfl) (by kernel_rfl) (fun _ _ _ h => h) (Or.inl ⟨by rfl, ?_⟩) hHeld ?_
  · clear hHeld; intro X hSw; obtain ⟨s0, s1⟩ := HSx X hSw; clear hSw; go_simp
  simp only [Act.put, pg]
  refine ze (i := 3) (oi := _) (v := .int .i64 key.1) rfl (by kernel_rfl) (by kernel_rfl) (by kernel_rfl) (fun _ _ _ h => h) (Or.inl ⟨by rfl, ?_⟩) hHeld ?_
  · clear hHeld; intro X hSw; obtain ⟨s0, s1⟩ := HSx X hSw; clear hSw; go_simp
  simp only [Act.put, pg]
  refine ze (i := 4) (oi := _) (v := .int .i64 id) rfl (by kernel_rfl) (by kernel_rfl) (by kernel_rfl) (fun _ _ _ h => h) (Or.inl ⟨by rfl, ?_⟩) hHeld ?_
  · clear hHeld; intro X hSw; obtain ⟨s0, s1⟩ := HSx X hSw; clear hSw; go_simp
  simp only [Act.put, pg]
  refine ze (i := 5) (oi := _) (v := .bool (key.1 == id)) rfl (by kernel_rfl) (by kernel_rfl) (by kernel_rfl) (fun _ _ _ h => h) (Or.inl ⟨by rfl, ?_⟩) hHeld ?_
  · clear hHeld; intro X hSw; obtain ⟨s0, s1⟩ := HSx X hSw; clear hSw; go_simp
  simp only [Act.put, pg]
  refine zY (by kernel_rfl) ?_ _
  clear hHeld HSx
  obtain ⟨ev, ho, hoc, hV1s⟩ := HV1.out
  have hsz1 : V1.heap.size = V.heap.size := by rw [ev]; simp [World.putObj]
  have hbl1 : Below w.heap.size w V1 := by
   have h2 := HR.out.1.1
   rw [ev]
   exact ⟨h2.os, h2.tape, h2.output, by have := h2.size; simp [World.putObj]; exact this, fun x hx => by rw [World.putObj_heap_other (by have := HR.out.2.2.2.2.2.2.2.1; omega)]; exact h2.block x hx⟩
  have hWk : ∀ x, x < W.heap.size → V1.heap[x]? = W.heap[x]? := fun x hx => (hV1s x hx).trans (HR.out.1.2.2.1 x hx)
  by_cases heq : key.1 = id
  · have hbq : (key.1 == id) = true := by simpa using heq
    rw [hbq]
    have hSc : ∀ x, (S x ∨ x = w.heap.size + 4) → zK V1.drew x := fun x hx => by
     rcases hx with hx | hx
     · obtain ⟨cs, ty, fr, hc⟩ := H.out.1 x hx
       have := hSl x hx
       exact ⟨cs, ty, fr, (hWk x (by omega)).trans ((HA.out.1.block x this).trans hc)⟩
     · rw [hx]; exact ⟨_, _, _, (hWk _ (by omega)).trans HA.out.2.2.2.2.2.1⟩
    have hcp := qF V1.drew (fun x => S x ∨ x = w.heap.size + 4) (.agg #[.int .i64 key.1, .int .i64 key.2.1, .string key.2.2, .slice ka2 n2 kcc]) (zR (d, key, k)) hSc ⟨ka2, kcc, by simp only [zR]; rw [HR.out.2.2.2.2.2.2.1], by have := HR.out.2.2.2.2.2.2.2.2; have h7 := HR.out.2.2.2.2.2.2.1; simp only [zR]; omega, HR.out.2.2.2.2.2.1.kept (w' := V1.drew) fun x hx => ⟨hx, show V1.heap[x]? = V.heap[x]? from hV1s x (by rcases hx with hx | hx; have := hSl x hx; omega; omega)⟩⟩ (by
     have h5 := Yw 1 (zl t) (d, key, k) (by rw [HR.out.2.2.2.1]; simp)
     rw [zI] at h5; have := H.out.2.2.2.1; simp only [zR] at *; omega)
    have hz : ∀ V3, Below V1.drew.heap.size V1.drew V3 → V3.heap[w.heap.size + 1 + 1]? = some (.cells #[.int .i64 0, .int .i64 0, .string ⟨#[]⟩, .slice none 0 0] 27 (0, 0)) ∧ V3.heap[w.heap.size + 1 + 1 + 1]? = some (.cells #[.bool false] 4 (0, 0)) := fun V3 hb3 => by
     have hsv : W.heap.size ≤ V1.heap.size := by have := HR.out.2.2.1; omega
     exact ⟨(hb3.block (w.heap.size + 1 + 1) (show w.heap.size + 1 + 1 < V1.heap.size by omega)).trans ((hWk _ (by omega)).trans HA.out.2.2.2.1), (hb3.block (w.heap.size + 1 + 1 + 1) (show w.heap.size + 1 + 1 + 1 < V1.heap.size by omega)).trans ((hWk _ (by omega)).trans HA.out.2.2.2.2.1)⟩
    have hz2 : ∀ V3, Below V1.drew.heap.size V1.drew V3 → V3.cell? ⟨w.heap.size + 1 + 1, 0, none⟩ = some (.int .i64 0) ∧ V3.cell? ⟨w.heap.size + 1 + 1, 1, none⟩ = some (.int .i64 0) ∧ V3.cell? ⟨w.heap.size + 1 + 1, 2, none⟩ = some (.string ⟨#[]⟩) ∧ V3.cell? ⟨w.heap.size + 1 + 1, 3, none⟩ = some (.slice none 0 0) ∧ (∀ j, V3.frozen? ⟨w.heap.size + 1 + 1, j, none⟩ = false) ∧ V3.cell? ⟨w.heap.size + 1 + 1 + 1, 0, none⟩ = some (.bool false) ∧ (∀ j, V3.frozen? ⟨w.heap.size + 1 + 1 + 1, j, none⟩ = false) := fun V3 hb3 => by
     obtain ⟨h1, h2⟩ := hz V3 hb3
     exact ⟨by rw [cell_of_row _ _ 0 _ _ _ h1]; rfl, by rw [cell_of_row _ _ 1 _ _ _ h1]; rfl, by rw [cell_of_row _ _ 2 _ _ _ h1]; rfl, by rw [cell_of_row _ _ 3 _ _ _ h1]; rfl, fun j => frozen_of_row _ _ j _ _ h1, by rw [cell_of_row _ _ 0 _ _ _ h2]; rfl, fun j => frozen_of_row _ _ j _ _ h2⟩
    have HZ := hH (aN hz hz2)
    obtain ⟨e0, e1, e2, e3, _⟩ := HE0.out
    have HX := hH (aN hbl1 (aN hWk hsz1))
    have HEQ := hH heq
    have HCP := hH hcp
    clear hcp hSc hz hz2 hbl1 hWk ev ho hoc hV1s hsz1 hbq heq HE0
    gi_wp2_with (refine ⟨trivial, ?_⟩; gi_at_call 40; refine (CallsIn.inRound _ (callsIn_wide.2 HCP.out)).mono ?_; rintro e V3 ⟨v, rfl, ⟨kb, kcc3, rfl, hkc3, hkb3⟩, hb3⟩; obtain ⟨z0, z1, z2, z3, zf, zb, zbf⟩ := HZ.out.2 V3 hb3; have HV3 := hH (aN hkc3 (aN hkb3 hb3)); clear hkc3 hkb3 hb3)
    exact zeZ (W := W) (by have := HX.out.2.2; have := HR.out.2.2.1; omega) (by omega) hSl HX.out.1 HR.out.2.1 (by have := HX.out.2.2; have := HR.out.2.2.1; omega) HX.out.2.2 HV3.out.2.2 (HZ.out.1 V3 HV3.out.2.2).1 (HZ.out.1 V3 HV3.out.2.2).2 HV3.out.1 HV3.out.2.1 (by rw [HR.out.2.2.2.1]; exact Zl HR.out.1.2.2.2 HEQ.out)
  · have hbq : (key.1 == id) = false := by simpa using heq
    rw [hbq]
    have hend : ∀ aa : Act, Qc W.heap.size T (fun x => S x ∨ x = w.heap.size + 4) (Jg w W id) (fun c T V => c = .ret ∧ Jh w W S t id T V) (pre ++ [(d, key, k)]) V1 .normal aa V1.drew := fun aa =>
     ⟨⟨Nat.le_refl _, fun x o _ h _ => h⟩, ⟨Nat.le_refl _, fun x _ => rfl⟩, fun x _ => rfl, .inl ⟨rfl, ⟨hbl1.os, hbl1.tape, hbl1.output, hbl1.size, hbl1.block⟩, by show W.heap.size ≤ V1.heap.size; have := HR.out.2.2.1; omega, hWk, fun x hx => by
       rcases List.mem_append.1 hx with hx | hx
       · exact HR.out.1.2.2.2 x hx
       · rw [List.mem_singleton] at hx; subst hx; exact heq⟩⟩
    have HE := hH hend
    clear hend hWk hbl1 hsz1 ev ho hoc hV1s HE0 heq
    gi_wp2
    exact HE.out _
end Go.Proofs.Ytgkmmnihaiopaaa
