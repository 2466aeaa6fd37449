/-
  .
-/
import Derived.Test.YtonapijgfalpaaaJInvCQw
import Derived.Test.YtonapijgfalpaaaJEachCQw
import Derived.Deep.Cut
import Derived.Deep.RegionHeld
import Derived.Test.YtonapijgfalpaaaJPgQw
set_option linter.unusedVariables false
set_option linter.unusedSimpArgs false
namespace Go.Proofs.Ytonapijgfalpaaa
open Go.RowKit Go.Shelf
def goA (t : Tr) : List Sf → Option Tr
 | [] => some t
 | s :: l => if (s.on t).2 = 0 then goA (s.on t).1 l else none
def backsA (t : Tr) : List Sf → List Sf
 | [] => []
 | s :: l => s.inv t :: backsA (s.on t).1 l
theorem goA_snoc : ∀ {l : List Sf} {t x : Tr} {s : Sf}, goA t l = some x → (s.on x).2 = 0 → goA t (l ++ [s]) = some (s.on x).1
 | [], t, x, s, h, hs => by cases h; simp [goA, hs]
 | r :: l, t, x, s, h, hs => by
   rw [goA] at h
   split at h
   · rename_i h0
     rw [List.cons_append, goA, if_pos h0]
     exact goA_snoc h hs
   · cases h
theorem goA_stop : ∀ {l : List Sf} {k : Nat} {t x : Tr} {s : Sf}, goA t (l.take k) = some x → l[k]? = some s → (s.on x).2 ≠ 0 → goA t l = none
 | [], k, t, x, s, _, hs, _ => by simp at hs
 | r :: l, 0, t, x, s, h, hs, hn => by
   simp at hs; subst hs
   rw [List.take_zero] at h; cases h
   rw [goA, if_neg hn]
 | r :: l, k + 1, t, x, s, h, hs, hn => by
   rw [List.take_succ_cons, goA] at h
   split at h
   · rename_i h0
     rw [goA, if_pos h0]
     exact goA_stop h (by simpa using hs) hn
   · cases h
theorem backsA_snoc : ∀ {l : List Sf} {t x : Tr} (s : Sf), goA t l = some x → backsA t (l ++ [s]) = backsA t l ++ [s.inv x]
 | [], t, x, s, h => by cases h; rfl
 | r :: l, t, x, s, h => by
   rw [goA] at h
   split at h
   · rw [List.cons_append, backsA, backsA, List.cons_append, backsA_snoc s h]
   · cases h
theorem backsA_len : ∀ (l : List Sf) (t : Tr), (backsA t l).length = l.length
 | [], _ => rfl
 | s :: l, t => by simp [backsA, backsA_len l]
theorem on_size (s : Sf) (t : Tr) (h : (s.on t).2 = 0) : foSize (s.on t).1.kids ≤ foSize t.kids + insN s := by
 have hx := (stepK_fx (op := s.op) (id := s.id) (par := s.par) (at_ := s.at_) (tx := s.tx) (x := s.sub) (t := t) (y := (s.on t).1) (by unfold Sf.on at h ⊢; exact Prod.ext rfl h)).1
 unfold insN
 cases hx with
 | ins ho h => have := h (fun _ => true); rw [cntQ_all, cntQ_all, cntQ_all] at this; rw [if_pos ho]; omega
 | del ho q v hq hv h => have := h (fun _ => true); rw [cntQ_all, cntQ_all, cntQ_all] at this; omega
 | mov ho h => have := h (fun _ => true); rw [cntQ_all, cntQ_all] at this; omega
 | wri ho q u hq hu h =>
   have := h (fun _ => true)
   rw [cntQ_all, cntQ_all] at this
   simp only [oneP, if_true] at this
   omega
structure WayA (n : Nat) (t : Tr) : Prop where
 size : foSize t.kids + 1 ≤ 250 + n
 ok : okF (spF 1 (rootF t))
theorem wayA_on {n : Nat} {t : Tr} {s : Sf} (hs : StepFit s) (h : WayA n t) (h0 : (s.on t).2 = 0) : WayA (n + insN s) (s.on t).1 := by
 have hx := stepK_fx (op := s.op) (id := s.id) (par := s.par) (at_ := s.at_) (tx := s.tx) (x := s.sub) (t := t) (y := (s.on t).1) (by unfold Sf.on at h0 ⊢; exact Prod.ext rfl h0)
 exact ⟨by have := on_size s t h0; have := h.size; omega, hx.1.ok h.ok hs.ok hs.tx⟩
theorem okF_ids {t : Tr} (h : okF (spF 1 (rootF t))) : ∀ i ∈ idT t, (Lit.int .i64 i).wf = true := fun i hi => by
 have hz : cntQ (isId i) t ≠ 0 := by
  rw [cntQ_id]
  intro h0
  have h1 := (cnt_mem i (rootF t)).1
  rw [cnt_root] at h1
  have h2 : i ∈ idsF (rootF t) := by
   rw [rootF, idsF_node]
   rw [idT] at hi
   rcases List.mem_cons.1 hi with rfl | hi
   · exact List.mem_cons_self ..
   · have e : idF t.kids = idsF t.kids := idF_eq t.kids
     rw [e] at hi
     exact List.mem_cons_of_mem _ (List.mem_append_left _ hi)
  have := h1 h2
  omega
 obtain ⟨y, hy, hp⟩ := (cntQ_mem (isId i) t).2 (by omega)
 have h3 := (h y hy).2
 simp only [isId, decide_eq_true_eq] at hp
 rw [← hp]; exact h3
theorem fit_ok {s : Sf} (h : StepFit s) : SfOk s := ⟨h.op, okF_ids h.ok, by have := h.size; omega⟩
def FIb (Y0 X : World) (q : Nat) : Prop := Y0.heap.size ≤ q ∧ q < X.heap.size + 7
def KeptI (Y0 X : World) (BB : Nat) (V : World) : Prop := Below Y0.heap.size Y0 V ∧ X.heap.size ≤ V.heap.size ∧ ∀ q, q < X.heap.size → q ≠ BB → V.heap[q]? = X.heap[q]?
def InJ (Y0 X : World) (BB : Nat) (t : Tr) (l : List Sf) (k : Nat) (v : NV) (V : World) : Prop := KeptI Y0 X BB V ∧ ∃ x ba bc ys, goA t (l.take k) = some x ∧ WayA (insSum (l.take k)) x ∧ BacksAt V (FIb Y0 X) Y0.heap.size BB ba bc (backsA t (l.take k)) ys ∧ (∀ q, blkA ba q → X.heap.size + 7 ≤ q) ∧ IsN V (Ex (FIb Y0 X) ba) v x
def InX (Y0 X : World) (BB : Nat) (t : Tr) (l : List Sf) (k : Nat) (v : NV) (n : Int) (V : World) : Prop := KeptI Y0 X BB V ∧ goA t l = none ∧ ∃ ba m bc, V.heap[BB]? = some (.cells #[.slice ba m bc] 25 (0, 0))
theorem KeptI.own {Y0 X : World} {BB : Nat} {V V' : World} (h : KeptI Y0 X BB V) (hY : Y0.heap.size ≤ X.heap.size) (ht : Touched V V' (fun x => X.heap.size ≤ x ∧ x < X.heap.size + 7)) : KeptI Y0 X BB V' := by
 obtain ⟨h1, h2, h3⟩ := h
 exact ⟨⟨ht.os.trans h1.os, ht.tape.trans h1.tape, ht.output.trans h1.output, Nat.le_trans h1.size ht.size, fun q hq => (ht.block q (Nat.lt_of_lt_of_le hq h1.size) (by omega)).trans (h1.block q hq)⟩, Nat.le_trans h2 ht.size, fun q hq hn => (ht.block q (by omega) (by omega)).trans (h3 q hq hn)⟩
theorem doN_inv {Y0 X : World} {BB : Nat} {t : Tr} {rs : List RH} (hY : Below Y0.heap.size Y0 X) (hB : Y0.heap.size ≤ BB ∧ BB < X.heap.size) (h : ∀ x ∈ flat rs, LiesS Y0 x ∧ StepFit x.s) (hI : ∀ x ∈ flat rs, InvFn x.s) (ho : okSet (steps (flat rs)) = true) : DoN Try.prog 192 #[.pointer (some ⟨BB, 0, none⟩)] X.heap.size (fun q => q < X.heap.size ∧ q ≠ BB) (flat rs) (InJ Y0 X BB t (steps (flat rs))) (InX Y0 X BB t (steps (flat rs))) := by
 rw [okSet_iff] at ho
 refine ⟨enters_of Try.func192 (by kernel_rfl) rfl, ?_, ?_, ?_⟩
 · rintro k v V V' ⟨h1, x, ba, bc, ys, h2, h3, h4, h5, h6, h7, h8, h9, h10⟩ ht
   refine ⟨h1.own hY.size ht, x, ba, bc, ys, h2, h3, h4.kept ht.size (fun q hq hn => ht.block q hq ?_), h5, h6, h7, h8, h9, h10.1, h10.2.kept fun q hq => ⟨⟨Nat.lt_of_lt_of_le hq.1 ht.size, hq.2⟩, ht.block q hq.1 (fun hn => hq.2 (Or.inl ⟨by have := hY.size; omega, hn.2⟩))⟩⟩
   rintro ⟨a1, a2⟩
   rcases hn with hn | hn | hn
   · omega
   · have := h5 q hn; omega
   · exact hn (Or.inl ⟨by have := hY.size; omega, a2⟩)
 · rintro k v n V V' ⟨h1, h2, ba, m, bc, h3⟩ ht
   exact ⟨h1.own hY.size ht, h2, ba, m, bc, (ht.block _ (lt_of_heap h3) (by omega)).trans h3⟩
 · rintro k x v W hx hW ⟨hk, y, ba, bc, ys, hy, hwy, hbk, hba, h4, h5, h6, h7, h8⟩
   obtain ⟨hl, hf⟩ := h x (List.mem_of_getElem? hx)
   have hxs := steps_at hx
   have hkl := (List.getElem?_eq_some_iff.1 hxs).1
   have hq := insSum_take_succ hxs
   have hq2 := insSum_take_le (steps (flat rs)) k
   have hcl := invc_any W Y0 (FIb Y0 X) Y0.heap.size BB y x v.a ba v.n v.c bc _ ys (fun q hq => by have := hq.2; omega) ⟨hB.1, by omega⟩ hbk (by rw [backsA_len, List.length_take]; omega) h7 h8 (LiesI.n hl (Below.refl _ _) (fun q hq => by
    rcases hq with hq | hq
    · exact hq.1
    · have := hba q hq; have := hY.size; omega)) hk.1 (by have := hwy.size; omega) (okF_ids hwy.ok) (fit_ok hf) (hI x (List.mem_of_getElem? hx))
   rw [show v.v = .agg #[.int .i64 y.id, .int .i64 y.kind, .string y.text, .slice v.a v.n v.c] by rw [NV.v, h4, h5, h6]]
   refine hcl.mono ?_
   rintro e W' ⟨v', rfl, hT, hyes, hno⟩
   have hkeep : ∀ q, ((q < X.heap.size ∧ q ≠ BB) ∨ (X.heap.size ≤ q ∧ q < X.heap.size + 7)) → W'.heap[q]? = W.heap[q]? := fun q hq => hT.block q (by omega) (fun hn => by
    rcases hn with hn | hn
    · omega
    · have := hba q hn; omega)
   have hKW : KeptI Y0 X BB W' := ⟨⟨hT.os.trans hk.1.os, hT.tape.trans hk.1.tape, hT.output.trans hk.1.output, Nat.le_trans hk.1.size hT.size, fun q hq => (hkeep q (Or.inl (by have := hY.size; omega))).trans (hk.1.block q hq)⟩, Nat.le_trans hk.2.1 hT.size, fun q hq hn => (hkeep q (Or.inl ⟨hq, hn⟩)).trans (hk.2.2 q hq hn)⟩
   refine ⟨v', _, rfl, hT.size, hkeep, fun hm => ?_, fun hm => ?_⟩
   · obtain ⟨ba', bc', ys', k1, k2, k3⟩ := hyes hm
     refine ⟨hKW, _, ba', bc', ys', ?_, ?_, ?_, fun q hq => ?_, k3⟩
     · rw [List.take_add_one, hxs]; exact goA_snoc hy hm
     · rw [hq]; exact wayA_on hf hwy hm
     · rw [List.take_add_one, hxs]
       show BacksAt _ _ _ _ _ _ (backsA t ((steps (flat rs)).take k ++ [x.s])) _
       rw [backsA_snoc _ hy]; exact k1
     · rcases k2 q hq with h | h
       · exact hba q h
       · omega
   · exact ⟨hKW, goA_stop hy hxs hm, ba, _, bc, ((hno hm).block _ (lt_of_heap hbk.box)).trans hbk.box⟩
def InvDone (Y0 : World) (G : Nat → Prop) (BB : Nat) (t : Tr) (l : List Sf) (n : Int) (W : World) : Prop := (n = 0 ∧ ∃ x ba bc ys, goA t l = some x ∧ BacksAt W G Y0.heap.size BB ba bc (backsA t l) ys) ∨ (n ≠ 0 ∧ goA t l = none ∧ ∃ ba m bc, W.heap[BB]? = some (.cells #[.slice ba m bc] 25 (0, 0)))
theorem invFold {Y0 X : World} {BB NB R : Nat} {t : Tr} {ta la : Option Addr} {tn tc c : Nat} {vs : List SV} (hY : Below Y0.heap.size Y0 X) (hB : Y0.heap.size ≤ BB ∧ BB < X.heap.size) (hNB : BB ≠ NB) (hR : BB ≠ R) (hrow : Row Y0 la vs) (hI : ∀ x ∈ vs, InvFn x.s) (ho : okSet (steps vs) = true) (h1 : X.heap[NB]? = some (.cells #[.slice (some ⟨R, 0, none⟩) 1 1] 195 (0, 0))) (h2 : X.heap[R]? = some (.cells #[.slice la vs.length c] 25 (0, 0))) (hbb : X.heap[BB]? = some (.cells #[.slice none 0 0] 25 (0, 0))) (htn : tn = foLen t.kids) (hw : Way t) (hlt : LiesI Y0 t.kids ta tc) :
 Calls Try.prog 131 #[.agg #[.int .i64 t.id, .int .i64 t.kind, .string t.text, .slice ta tn tc], .func (.func 172) #[] #[.pointer (some ⟨NB, 0, none⟩)], .func (.func 192) #[] #[.pointer (some ⟨BB, 0, none⟩)]] X fun e W => ∃ (v : NV) (k : Nat) (n : Int), e = .returned (.tuple #[v.v, .int .i64 (k : Int), .int .i64 n]) ∧ KeptI Y0 X BB W ∧ InvDone Y0 (fun q => Y0.heap.size ≤ q ∧ q < X.heap.size) BB t (steps vs) n W := by
 have hD := doN_inv (t := t) (rs := [⟨la, c, vs⟩]) hY hB (fun x hx => by rw [flat_one] at hx; exact ⟨hrow.lies x hx, hrow.fit x hx⟩) (fun x hx => by rw [flat_one] at hx; exact hI x hx) (by rw [flat_one]; exact ho)
 have hJ : RowsJ X NB R [⟨la, c, vs⟩] (fun q => q < X.heap.size ∧ q ≠ BB) := ⟨h1, h2, ⟨lt_of_heap h1, fun e => hNB e.symm⟩, ⟨lt_of_heap h2, fun e => hR e.symm⟩, fun _ hy => hy.1, fun i r hr => by
  have : r = ⟨la, c, vs⟩ := by
   cases i with
   | zero => simp at hr; exact hr.symm
   | succ i => simp at hr
  subst this
  exact hrow.cells.kept fun y hy => ⟨⟨Nat.lt_of_lt_of_le hy hY.size, by omega⟩, hY.block y hy⟩⟩
 have hf := foldN_any X NB R ⟨t.id, t.kind, t.text, ta, tn, tc⟩ hD hJ (by simp) (fun r hr => by rw [List.mem_singleton] at hr; subst hr; exact hrow.len) (by rw [flat_one]; have := hrow.len; omega) ⟨⟨hY, Nat.le_refl _, fun _ _ _ => rfl⟩, t, none, 0, [], rfl, ⟨by have := hw.size; simp [insSum]; omega, hw.ok⟩, ⟨hbb, World.ownsRow_nil _ _ _ _, rfl, hY.size⟩, fun q hq => (by obtain ⟨d, e, _⟩ := hq; cases e), rfl, rfl, rfl, htn, LiesI.n hlt hY (fun q hq => by
  rcases hq with hq | hq
  · exact hq.1
  · obtain ⟨d, e, _⟩ := hq; cases e)⟩
 rw [flat_one] at hf
 refine hf.mono ?_
 rintro e W ⟨k, v, n, rfl, hh⟩
 rcases hh with ⟨rfl, rfl, hk, x, ba, bc, ys, h3, h4, h5, h6, _⟩ | ⟨hn, hk, h3, h4, h5⟩
 · have e1 : (steps vs).take vs.length = steps vs := by rw [List.take_of_length_le (by rw [steps_len]; exact Nat.le_refl _)]
   rw [e1] at h3 h5
   exact ⟨v, _, 0, rfl, hk, .inl ⟨rfl, x, ba, bc, ys, h3, h5.weak fun q hq => ⟨hq.1, by have := hq.2; omega⟩⟩⟩
 · exact ⟨v, _, n, rfl, h3, .inr ⟨hn, h4, h5⟩⟩
def treesK (g : Gr) (t : Tr) : List Sf → List Tr
 | [] => []
 | s :: l => if (doK g (s.on t)).2 = 0 then (doK g (s.on t)).1 :: treesK g (doK g (s.on t)).1 l else []
theorem treesK_snoc {g : Gr} : ∀ {l : List Sf} {t x : Tr} {s : Sf}, goT g t l = some x → (doK g (s.on x)).2 = 0 → treesK g t (l ++ [s]) = treesK g t l ++ [(doK g (s.on x)).1]
 | [], t, x, s, h, hs => by cases h; simp [treesK, hs]
 | r :: l, t, x, s, h, hs => by
   rw [goT] at h
   split at h
   · rename_i h0
     rw [List.cons_append, treesK, treesK, if_pos h0, if_pos h0, List.cons_append, treesK_snoc h hs]
   · cases h
theorem treesK_stop {g : Gr} : ∀ {l : List Sf} {k : Nat} {t x : Tr} {s : Sf}, goT g t (l.take k) = some x → l[k]? = some s → (doK g (s.on x)).2 ≠ 0 → treesK g t l = treesK g t (l.take k)
 | [], k, t, x, s, _, hs, _ => by simp at hs
 | r :: l, 0, t, x, s, h, hs, hn => by
   simp at hs; subst hs
   rw [List.take_zero] at h ⊢; cases h
   show treesK g t (r :: l) = []
   rw [treesK, if_neg hn]
 | r :: l, k + 1, t, x, s, h, hs, hn => by
   rw [List.take_succ_cons, goT] at h
   split at h
   · rename_i h0
     rw [List.take_succ_cons, treesK, treesK, if_pos h0, if_pos h0, treesK_stop h (by simpa using hs) hn]
   · cases h
theorem treesK_le (g : Gr) : ∀ (l : List Sf) (t : Tr), (treesK g t l).length ≤ l.length
 | [], t => by simp [treesK]
 | s :: l, t => by
   rw [treesK]
   split
   · have := treesK_le g l (doK g (s.on t)).1; simp; omega
   · simp
theorem treesK_at {g : Gr} : ∀ {l : List Sf} {t y : Tr} {k : Nat}, (treesK g t l)[k]? = some y → goT g t (l.take (k + 1)) = some y
 | [], t, y, k, h => by simp [treesK] at h
 | s :: l, t, y, k, h => by
   rw [treesK] at h
   split at h
   · rename_i h0
     rw [List.take_succ_cons, goT, if_pos h0]
     cases k with
     | zero => simp at h; rw [List.take_zero, ← h]; rfl
     | succ k => exact treesK_at (by simpa using h)
   · simp at h
theorem TreesAt.weak {w : World} {F F' : Nat → Prop} {base BB : Nat} {ba : Option Addr} {bc : Nat} {bs : List Tr} {ys : List Value} (h : TreesAt w F' base BB ba bc bs ys) (hF : ∀ q, F q → F' q) : TreesAt w F base BB ba bc bs ys :=
 ⟨h.box, h.row, h.lies.kept fun f a c hl => hl.weak fun q hq => hq.imp (hF q) (fun h => h), h.base⟩
def EJ (Y0 X : World) (BB : Nat) (g : Gr) (t : Tr) (l : List Sf) (k : Nat) (v : NV) (V : World) : Prop := KeptI Y0 X BB V ∧ ∃ x ba bc ys, goT g t (l.take k) = some x ∧ Way x ∧ TreesAt V (FIb Y0 X) Y0.heap.size BB ba bc (treesK g t (l.take k)) ys ∧ (∀ q, blkA ba q → X.heap.size + 7 ≤ q) ∧ IsN V (Ex (FIb Y0 X) ba) v x
def EX (Y0 X : World) (BB : Nat) (g : Gr) (t : Tr) (l : List Sf) (k : Nat) (v : NV) (n : Int) (V : World) : Prop := KeptI Y0 X BB V ∧ ∃ ba bc ys, TreesAt V (FIb Y0 X) Y0.heap.size BB ba bc (treesK g t l) ys ∧ (∀ q, blkA ba q → X.heap.size + 7 ≤ q)
theorem TreesAt.own {Y0 X V V' : World} {BB : Nat} {ba : Option Addr} {bc : Nat} {bs : List Tr} {ys : List Value} (h : TreesAt V (FIb Y0 X) Y0.heap.size BB ba bc bs ys) (hY : Y0.heap.size ≤ X.heap.size) (hB : BB < X.heap.size) (hba : ∀ q, blkA ba q → X.heap.size + 7 ≤ q) (ht : Touched V V' (fun x => X.heap.size ≤ x ∧ x < X.heap.size + 7)) : TreesAt V' (FIb Y0 X) Y0.heap.size BB ba bc bs ys :=
 h.kept ht.size fun q hq hn => ht.block q hq (by
  rintro ⟨a1, a2⟩
  rcases hn with hn | hn | hn
  · omega
  · have := hba q hn; omega
  · exact hn (Or.inl ⟨by omega, a2⟩))
theorem doN_each {Y0 X : World} {BB GB : Nat} {g : Gr} {ga : Option Addr} {gc : Nat} {t : Tr} {rs : List RH} (hY : Below Y0.heap.size Y0 X) (hB : Y0.heap.size ≤ BB ∧ BB < X.heap.size) (hGB : GB ≠ BB) (hgb : X.heap[GB]? = some (.cells #[.slice ga g.kinds.length gc, .int .i64 g.root] 55 (0, 0))) (hg : ∀ Y, Below Y0.heap.size Y0 Y → GrV Y (.agg #[.slice ga g.kinds.length gc, .int .i64 g.root]) g) (hfew : g.few) (h : ∀ x ∈ flat rs, LiesS Y0 x ∧ StepFit x.s) (ho : okSet (steps (flat rs)) = true) : DoN Try.prog 133 #[.pointer (some ⟨GB, 0, none⟩), .pointer (some ⟨BB, 0, none⟩)] X.heap.size (fun q => q < X.heap.size ∧ q ≠ BB) (flat rs) (EJ Y0 X BB g t (steps (flat rs))) (EX Y0 X BB g t (steps (flat rs))) := by
 rw [okSet_iff] at ho
 refine ⟨enters_of Try.func133 (by kernel_rfl) rfl, ?_, ?_, ?_⟩
 · rintro k v V V' ⟨h1, x, ba, bc, ys, h2, h3, h4, h5, h6, h7, h8, h9, h10⟩ ht
   exact ⟨h1.own hY.size ht, x, ba, bc, ys, h2, h3, h4.own hY.size hB.2 h5 ht, h5, h6, h7, h8, h9, h10.1, h10.2.kept fun q hq => ⟨⟨Nat.lt_of_lt_of_le hq.1 ht.size, hq.2⟩, ht.block q hq.1 (fun hn => hq.2 (Or.inl ⟨by have := hY.size; omega, hn.2⟩))⟩⟩
 · rintro k v n V V' ⟨h1, ba, bc, ys, h2, h3⟩ ht
   exact ⟨h1.own hY.size ht, ba, bc, ys, h2.own hY.size hB.2 h3 ht, h3⟩
 · rintro k x v W hx hW ⟨hk, y, ba, bc, ys, hy, hwy, hbk, hba, h4, h5, h6, h7, h8⟩
   obtain ⟨hl, hf⟩ := h x (List.mem_of_getElem? hx)
   have hxs := steps_at hx
   have hkl := (List.getElem?_eq_some_iff.1 hxs).1
   have hgW : GramAt W GB g ga gc := ⟨(hk.2.2 GB (lt_of_heap hgb) hGB).trans hgb, fun Z hZ => hg Z (hk.1.trans (hZ.mono hk.1.size)), hfew⟩
   have hle := treesK_le g ((steps (flat rs)).take k) t
   rw [List.length_take] at hle
   have hcl := each1_any W Y0 (FIb Y0 X) Y0.heap.size BB GB g ga gc y x v.a ba v.n v.c bc _ ys (fun q hq => by have := hq.2; omega) ⟨hB.1, by omega⟩ hgW hbk (by omega) h7 h8 (LiesI.n hl (Below.refl _ _) (fun q hq => by
    rcases hq with hq | hq
    · exact hq.1
    · have := hba q hq; have := hY.size; omega)) hk.1 hwy hf
   rw [show v.v = .agg #[.int .i64 y.id, .int .i64 y.kind, .string y.text, .slice v.a v.n v.c] by rw [NV.v, h4, h5, h6]]
   refine hcl.mono ?_
   rintro e W' ⟨v', rfl, hT, hyes, hno⟩
   have hkeep : ∀ q, ((q < X.heap.size ∧ q ≠ BB) ∨ (X.heap.size ≤ q ∧ q < X.heap.size + 7)) → W'.heap[q]? = W.heap[q]? := fun q hq => hT.block q (by omega) (fun hn => by
    rcases hn with hn | hn
    · omega
    · have := hba q hn; omega)
   have hKW : KeptI Y0 X BB W' := ⟨⟨hT.os.trans hk.1.os, hT.tape.trans hk.1.tape, hT.output.trans hk.1.output, Nat.le_trans hk.1.size hT.size, fun q hq => (hkeep q (Or.inl (by have := hY.size; omega))).trans (hk.1.block q hq)⟩, Nat.le_trans hk.2.1 hT.size, fun q hq hn => (hkeep q (Or.inl ⟨hq, hn⟩)).trans (hk.2.2 q hq hn)⟩
   refine ⟨v', _, rfl, hT.size, hkeep, fun hm => ?_, fun hm => ?_⟩
   · obtain ⟨ba', bc', ys', k1, k2, k3⟩ := hyes hm
     refine ⟨hKW, _, ba', bc', ys', ?_, way_do hf hwy hm, ?_, fun q hq => ?_, k3⟩
     · rw [List.take_add_one, hxs]; exact goT_snoc hy hm
     · rw [List.take_add_one, hxs]
       show TreesAt _ _ _ _ _ _ (treesK g t ((steps (flat rs)).take k ++ [x.s])) _
       rw [treesK_snoc hy hm]; exact k1
     · rcases k2 q hq with h | h
       · exact hba q h
       · omega
   · exact ⟨hKW, ba, bc, ys, by rw [treesK_stop hy hxs hm]; exact hbk.on (hno hm), hba⟩
theorem eachFold {Y0 X : World} {BB GB NB R : Nat} {g : Gr} {ga : Option Addr} {gc : Nat} {t : Tr} {ta la : Option Addr} {tn tc c : Nat} {vs : List SV} (hY : Below Y0.heap.size Y0 X) (hB : Y0.heap.size ≤ BB ∧ BB < X.heap.size) (hGB : GB ≠ BB) (hgb : X.heap[GB]? = some (.cells #[.slice ga g.kinds.length gc, .int .i64 g.root] 55 (0, 0))) (hg : ∀ Y, Below Y0.heap.size Y0 Y → GrV Y (.agg #[.slice ga g.kinds.length gc, .int .i64 g.root]) g) (hfew : g.few) (hNB : BB ≠ NB) (hR : BB ≠ R) (hrow : Row Y0 la vs) (ho : okSet (steps vs) = true) (h1 : X.heap[NB]? = some (.cells #[.slice (some ⟨R, 0, none⟩) 1 1] 195 (0, 0))) (h2 : X.heap[R]? = some (.cells #[.slice la vs.length c] 25 (0, 0))) (hbb : X.heap[BB]? = some (.cells #[.slice none 0 0] 22 (0, 0))) (htn : tn = foLen t.kids) (hw : Way t) (hlt : LiesI Y0 t.kids ta tc) :
 Calls Try.prog 131 #[.agg #[.int .i64 t.id, .int .i64 t.kind, .string t.text, .slice ta tn tc], .func (.func 172) #[] #[.pointer (some ⟨NB, 0, none⟩)], .func (.func 133) #[] #[.pointer (some ⟨GB, 0, none⟩), .pointer (some ⟨BB, 0, none⟩)]] X fun e W => ∃ (v : NV) (k : Nat) (n : Int), e = .returned (.tuple #[v.v, .int .i64 (k : Int), .int .i64 n]) ∧ KeptI Y0 X BB W ∧ ∃ ba bc ys, TreesAt W (fun q => Y0.heap.size ≤ q ∧ q < X.heap.size) Y0.heap.size BB ba bc (treesK g t (steps vs)) ys ∧ ∀ q, blkA ba q → X.heap.size ≤ q := by
 have hD := doN_each (t := t) (rs := [⟨la, c, vs⟩]) hY hB hGB hgb hg hfew (fun x hx => by rw [flat_one] at hx; exact ⟨hrow.lies x hx, hrow.fit x hx⟩) (by rw [flat_one]; exact ho)
 have hJ : RowsJ X NB R [⟨la, c, vs⟩] (fun q => q < X.heap.size ∧ q ≠ BB) := ⟨h1, h2, ⟨lt_of_heap h1, fun e => hNB e.symm⟩, ⟨lt_of_heap h2, fun e => hR e.symm⟩, fun _ hy => hy.1, fun i r hr => by
  have : r = ⟨la, c, vs⟩ := by
   cases i with
   | zero => simp at hr; exact hr.symm
   | succ i => simp at hr
  subst this
  exact hrow.cells.kept fun y hy => ⟨⟨Nat.lt_of_lt_of_le hy hY.size, by omega⟩, hY.block y hy⟩⟩
 have hf := foldN_any X NB R ⟨t.id, t.kind, t.text, ta, tn, tc⟩ hD hJ (by simp) (fun r hr => by rw [List.mem_singleton] at hr; subst hr; exact hrow.len) (by rw [flat_one]; have := hrow.len; omega) ⟨⟨hY, Nat.le_refl _, fun _ _ _ => rfl⟩, t, none, 0, [], rfl, hw, ⟨hbb, World.ownsRow_nil _ _ _ _, rfl, hY.size⟩, fun q hq => (by obtain ⟨d, e, _⟩ := hq; cases e), rfl, rfl, rfl, htn, LiesI.n hlt hY (fun q hq => by
  rcases hq with hq | hq
  · exact hq.1
  · obtain ⟨d, e, _⟩ := hq; cases e)⟩
 rw [flat_one] at hf
 refine hf.mono ?_
 rintro e W ⟨k, v, n, rfl, hh⟩
 rcases hh with ⟨rfl, rfl, hk, x, ba, bc, ys, h3, h4, h5, h6, _⟩ | ⟨hn, hk, h3, ba, bc, ys, h4, h5⟩
 · have e1 : (steps vs).take vs.length = steps vs := by rw [List.take_of_length_le (by rw [steps_len]; exact Nat.le_refl _)]
   rw [e1] at h3 h5
   exact ⟨v, _, 0, rfl, hk, ba, bc, ys, h5.weak (fun q hq => ⟨hq.1, by have := hq.2; omega⟩), fun q hq => by have := h6 q hq; omega⟩
 · exact ⟨v, _, n, rfl, h3, ba, bc, ys, h4.weak (fun q hq => ⟨hq.1, by have := hq.2; omega⟩), fun q hq => by have := h5 q hq; omega⟩
def treesS (g : Gr) (t : Tr) (l : List Sf) : List Tr := if okSet l = true then treesK g t l else []
def EachO (Y0 : World) (g : Gr) (t : Tr) (l : List Sf) (X : World) (e : Ending) (W : World) : Prop := ∃ BB ba bc ys, e = .returned (.func (.func 134) #[] #[.pointer (some ⟨BB, 0, none⟩)]) ∧ Below X.heap.size X W ∧ X.heap.size ≤ BB ∧ TreesAt W (fun q => Y0.heap.size ≤ q ∧ q < X.heap.size + 3) Y0.heap.size BB ba bc (treesS g t l) ys ∧ ∀ q, blkA ba q → X.heap.size ≤ q
set_option maxRecDepth 100000 in
set_option maxHeartbeats 8000000 in
theorem Each_any (Y0 w : World) (g : Gr) (t : Tr) (ga ta la : Option Addr) (gn gc tn tc n c : Nat) (vs : List SV) (hY : Below Y0.heap.size Y0 w) (hgn : gn = g.kinds.length) (hg : ∀ Y, Below Y0.heap.size Y0 Y → GrV Y (.agg #[.slice ga g.kinds.length gc, .int .i64 g.root]) g) (hf : g.few) (htn : tn = foLen t.kids) (ht : LiesI Y0 t.kids ta tc) (hw : Way t) (hn : n = vs.length) (h : Row Y0 la vs) :
 Calls Try.prog 84 #[.agg #[.slice ga gn gc, .int .i64 g.root], .agg #[.int .i64 t.id, .int .i64 t.kind, .string t.text, .slice ta tn tc], .slice la n c] w (EachO Y0 g t (steps vs) w) := by
 obtain ⟨B, hB⟩ : ∃ B, B = allocs w [.cells #[.slice ga gn gc, .int .i64 g.root] 55, .cells #[.int .i64 t.id, .int .i64 t.kind, .string t.text, .slice ta tn tc] 24, .cells #[.slice none 0 0] 22] := ⟨_, rfl⟩
 have hb : Below w.heap.size w B := by rw [hB]; exact allocs_below _ _
 have hsz : B.heap.size = w.heap.size + 3 := by rw [hB]; exact allocs_size _ _
 have e0 : B.heap[w.heap.size]? = some (.cells #[.slice ga gn gc, .int .i64 g.root] 55 (0, 0)) := by rw [hB]; exact allocs_at _ _ 0 _ rfl
 have e1 : B.heap[w.heap.size + 1]? = some (.cells #[.int .i64 t.id, .int .i64 t.kind, .string t.text, .slice ta tn tc] 24 (0, 0)) := by rw [hB]; exact allocs_at _ _ 1 _ rfl
 have e2 : B.heap[w.heap.size + 1 + 1]? = some (.cells #[.slice none 0 0] 22 (0, 0)) := by rw [hB]; exact allocs_at _ _ 2 _ rfl
 have hck := Check_any B la n c vs hn (h.on (hY.trans (hb.mono hY.size)))
 have HCK := Lib.hid hck
 have HT := Lib.hid (And.intro htn (And.intro ht (And.intro hw (And.intro hn h))))
 have HB := Lib.hid (And.intro hb (And.intro hsz (And.intro e1 e2)))
 have HG := Lib.hid (And.intro hgn (And.intro hg (And.intro hf e0)))
 have HBE := Lib.hid hB
 have HYY := Lib.hid hY
 obtain ⟨m, hm⟩ : ∃ m, m = chkN (steps vs) := ⟨_, rfl⟩
 rw [← hm] at HCK
 have HM := Lib.hid hm
 clear hY hb hsz e0 e1 e2 hck hB hm htn ht hw hn h hg hf hgn
 go_enter Try.func84, Try.ntmps84
 go_wp2_with fail
 change Calls _ _ _ (allocs w [.cells #[.slice ga gn gc, .int .i64 g.root] 55, .cells #[.int .i64 t.id, .int .i64 t.kind, .string t.text, .slice ta tn tc] 24, .cells #[.slice none 0 0] 22]) _
 rw [← HBE.out]
 clear HBE
 refine HCK.out.mono ?_
 rintro e W1 ⟨rfl, hb1⟩
 have HB1 := Lib.hid hb1
 clear hb1 HCK
 obtain ⟨BB, hBB⟩ : ∃ BB, BB = w.heap.size + 1 + 1 := ⟨_, rfl⟩
 have hbw1 : Below w.heap.size w W1 := HB.out.1.trans (HB1.out.mono HB.out.1.size)
 have e0 := (HB1.out.block _ (lt_of_heap HG.out.2.2.2)).trans HG.out.2.2.2
 have e1 := (HB1.out.block _ (lt_of_heap HB.out.2.2.1)).trans HB.out.2.2.1
 have e2 := (HB1.out.block _ (lt_of_heap HB.out.2.2.2)).trans HB.out.2.2.2
 rw [← hBB] at e2 ⊢
 have HE := Lib.hid (And.intro hbw1 (And.intro e1 (And.intro e2 (And.intro hBB (And.intro (show W1.heap.size ≥ w.heap.size + 3 by have := HB1.out.size; have := HB.out.2.1; omega) e0)))))
 by_cases hm0 : m = 0
 · have ho : okSet (steps vs) = true := by
    have := HM.out
    rw [hm0, chkN] at this
    by_cases h : okSet (steps vs) = true
    · exact h
    · rw [if_neg h] at this; cases this
   have HO := Lib.hid ho
   subst hm0
   clear ho
   have hnc : ∀ X, Touched W1 X (fun y => y = BB) → X.cell? ⟨w.heap.size + 1, 0, none⟩ = some (.int .i64 t.id) ∧ X.cell? ⟨w.heap.size + 1, 1, none⟩ = some (.int .i64 t.kind) ∧ X.cell? ⟨w.heap.size + 1, 2, none⟩ = some (.string t.text) ∧ X.cell? ⟨w.heap.size + 1, 3, none⟩ = some (.slice ta tn tc) := fun X hX => box4 ((hX.block _ (lt_of_heap e1) (by omega)).trans e1)
   have HNC := Lib.hid hnc
   clear hnc e0 e1 e2 hbw1 hBB
   go_upto_region 3 with fail
   refine wp_region_held_drew (S := fun X => Touched W1 X (fun y => y = BB)) (by kernel_rfl) (Touched.refl _ _).drew (fun hHeld => ?_)
   refine tkH (i := 0) (.agg #[.int .i64 t.id, .int .i64 t.kind, .string t.text, .slice ta tn tc]) rfl (Or.inl ⟨by rfl, ?_⟩) (by assumption) ?_
   · clear hHeld; intro X hSw; obtain ⟨n0, n1, n2, n3⟩ := HNC.out X hSw; clear hSw; go_simp
   simp only [Act.put, pg]
   refine tkH (i := 1) (.slice la n c) rfl (Or.inl ⟨by rfl, ?_⟩) (by assumption) ?_
   · clear hHeld; intro X hSw; obtain ⟨n0, n1, n2, n3⟩ := HNC.out X hSw; clear hSw; go_simp
   simp only [Act.put, pg]
   refine tkH (i := 4) (.func (.func 133) #[] #[.pointer (some ⟨w.heap.size, 0, none⟩), .pointer (some ⟨BB, 0, none⟩)]) rfl (Or.inl ⟨by rfl, ?_⟩) (by assumption) ?_
   · clear hHeld; intro X hSw; obtain ⟨n0, n1, n2, n3⟩ := HNC.out X hSw; clear hSw; go_simp
   simp only [Act.put, pg]
   refine wpAnyH_ready (rs := [2]) (by kernel_rfl) (by simp) ?_
   refine AllReadyH.cons (o := _) rfl (fun K hK => ?_) AllReadyH.nil
   rw [if_pos (by rfl)]
   simp only [pg3]
   have HK := Lib.hid hK
   have HS := Lib.hid hHeld
   clear hK hHeld
   go_wp2_with fail
   obtain ⟨WA, hWA⟩ : ∃ WA, WA = (World.alloc W1 (.cells #[.slice la n c] 25)).drew := ⟨_, rfl⟩
   rw [← hWA]
   have hba : Below W1.heap.size W1 WA := by rw [hWA]; exact below_drewN (box_below _ _) 1
   have hsa : WA.heap.size = W1.heap.size + 1 := by rw [hWA]; exact World.size_alloc _ _
   have hra : WA.heap[W1.heap.size]? = some (.cells #[.slice la n c] 25 (0, 0)) := by rw [hWA]; exact heap_alloc_new W1 _
   refine HK.out _ _ ⟨hba.os, hba.tape, hba.output, hba.size, fun y h1 _ => hba.block y h1⟩ (fun hHeld => ?_)
   have HA := Lib.hid (And.intro hba (And.intro hsa hra))
   obtain ⟨R, hR⟩ : ∃ R, R = W1.heap.size := ⟨_, rfl⟩
   rw [← hR]
   have HR := Lib.hid hR
   clear HK HS hWA hba hsa hra hR
   refine wpAnyH_ready (rs := [3]) (by kernel_rfl) (by simp) ?_
   refine AllReadyH.cons (o := _) rfl (fun K hK => ?_) AllReadyH.nil
   rw [if_pos (by rfl)]
   simp only [pg3]
   have HK := Lib.hid hK
   have HS := Lib.hid hHeld
   clear hK hHeld
   go_wp2_with (go_at_call 129; refine (joined_fn _ _ _ _).mono ?_; rintro e w4 ⟨rfl, hw4⟩)
   have hb4 : Below WA.heap.size WA w4 := by rw [← hw4]; exact box_below _ _
   have hn4 : w4.heap[WA.heap.size]? = some (.cells #[.slice (some ⟨R, 0, none⟩) 1 1] 195 (0, 0)) := by rw [← hw4]; exact heap_alloc_new _ _
   have hbw4 : Below W1.heap.size W1 w4 := HA.out.1.trans (hb4.mono HA.out.1.size)
   have hr4 : w4.heap[R]? = some (.cells #[.slice la vs.length c] 25 (0, 0)) := by rw [HR.out, ← HT.out.2.2.2.1]; exact (hb4.block _ (by have := HA.out.2.1; omega)).trans HA.out.2.2
   have hbz : Below w.heap.size w w4 := HE.out.1.trans (hbw4.mono HE.out.1.size)
   have hB4 := (hbw4.block _ (lt_of_heap HE.out.2.2.1)).trans HE.out.2.2.1
   have hG4 := (hbw4.block _ (lt_of_heap HE.out.2.2.2.2.2)).trans HE.out.2.2.2.2.2
   rw [HG.out.1] at hG4
   have hs4 := hbw4.size
   have hfo := eachFold (BB := BB) (GB := w.heap.size) (NB := WA.heap.size) (R := R) (g := g) (t := t) (c := c) (HYY.out.trans (hbz.mono HYY.out.size)) ⟨by have := HE.out.2.2.2.1; have := HYY.out.size; omega, lt_of_heap hB4⟩ (by have := HE.out.2.2.2.1; omega) hG4 HG.out.2.1 HG.out.2.2.1 (by have := HE.out.2.2.2.1; have := HE.out.2.2.2.2.1; have := HA.out.2.1; omega) (by have := HE.out.2.2.2.1; have := HE.out.2.2.2.2.1; have := HR.out; omega) HT.out.2.2.2.2 HO.out hn4 hr4 hB4 HT.out.1 HT.out.2.2.1 HT.out.2.1
   have HFO := Lib.hid hfo
   have HB4 := Lib.hid (And.intro hbw4 hbz)
   have HS4 := Lib.hid (show w.heap.size + 3 ≤ w4.heap.size by have := HE.out.2.2.2.2.1; omega)
   have HBL := Lib.hid (lt_of_heap hB4)
   obtain ⟨NB, hNB⟩ : ∃ NB, NB = WA.heap.size := ⟨_, rfl⟩
   rw [← hNB] at HFO ⊢
   refine HK.out _ _ ⟨hbw4.os, hbw4.tape, hbw4.output, hbw4.size, fun y h1 _ => hbw4.block y h1⟩ (fun hHeld => ?_)
   clear HK HS hfo hbz hr4 hbw4 hn4 hb4 hw4 hNB hB4 hG4 hs4
   refine wpAnyH_ready (rs := [5]) (by kernel_rfl) (by simp) ?_
   refine AllReadyH.cons (o := _) rfl (fun K hK => ?_) AllReadyH.nil
   rw [if_pos (by rfl)]
   simp only [pg3]
   have HK := Lib.hid hK
   have HS := Lib.hid hHeld
   clear hK hHeld
   go_wp2_with (go_at_call 131; refine HFO.out.mono ?_; rintro e w5 ⟨v, k, r, rfl, hk5, ht5⟩)
   have hY1 := HYY.out.trans (HE.out.1.mono HYY.out.size)
   have hTo : Touched W1 w5 (fun y => y = BB) := ⟨hk5.1.os.trans hY1.os.symm, hk5.1.tape.trans hY1.tape.symm, hk5.1.output.trans hY1.output.symm, Nat.le_trans HB4.out.1.size hk5.2.1, fun y h1 h2 => (hk5.2.2 y (Nat.lt_of_lt_of_le h1 HB4.out.1.size) h2).trans (HB4.out.1.block y h1)⟩
   have hb5 : Below w.heap.size w w5 := ⟨hTo.os.trans HE.out.1.os, hTo.tape.trans HE.out.1.tape, hTo.output.trans HE.out.1.output, Nat.le_trans HE.out.1.size hTo.size, fun y hy => (hTo.block y (Nat.lt_of_lt_of_le hy HE.out.1.size) (by have := HE.out.2.2.2.1; omega)).trans (HE.out.1.block y hy)⟩
   have H5 := Lib.hid (And.intro hb5 (And.intro ht5 True.intro))
   refine HK.out _ _ hTo (fun hHeld => ?_)
   clear HK HS hk5 ht5 hTo hY1 hb5
   refine wpAnyH_done (by kernel_rfl) ?_ _
   clear hHeld
   go_wp2_with fail
   go_ret
   obtain ⟨hb5, ⟨ba, bc, ys, h5, h6⟩, h7⟩ := H5.out
   exact ⟨BB, ba, bc, ys, rfl, hb5, by have := HE.out.2.2.2.1; omega, by rw [treesS, if_pos HO.out]; exact h5.weak (fun q hq => ⟨hq.1, by have := hq.2; have := HS4.out; omega⟩), fun q hq => by have := h6 q hq; have := HS4.out; omega⟩
 · have ho : ¬ okSet (steps vs) = true := fun h => hm0 (by rw [HM.out, chkN, if_pos h])
   have hmb : (m == 0) = false := by simpa using hm0
   have HO := Lib.hid ho
   clear e0 e1 e2 hbw1 hBB ho
   go_wp2_with fail
   go_ret
   exact ⟨BB, none, 0, [], rfl, HE.out.1, by have := HE.out.2.2.2.1; omega, by rw [treesS, if_neg HO.out]; exact ⟨HE.out.2.2.1, World.ownsRow_nil _ _ _ _, rfl, Nat.le_trans HYY.out.size HE.out.1.size⟩, fun q hq => by obtain ⟨d, e, _⟩ := hq; cases e⟩
end Go.Proofs.Ytonapijgfalpaaa
