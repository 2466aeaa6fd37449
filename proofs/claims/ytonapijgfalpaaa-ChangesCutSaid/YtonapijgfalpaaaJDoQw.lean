/-
  .
-/
import Derived.Test.YtonapijgfalpaaaKPathQw
import Derived.Test.YtonapijgfalpaaaILawRQw
import Derived.Test.YtonapijgfalpaaaKDoQw
import Derived.Test.YtonapijgfalpaaaKPlacePQw
import Derived.Deep.Cut
set_option linter.unusedVariables false
set_option linter.unusedSimpArgs false
namespace Go.Proofs.Ytonapijgfalpaaa
open Go.RowKit Go.Shelf
attribute [local go_sem] Oper.semAt_some
structure SV where
 s : Sf
 a : Option Addr
 c : Nat
def SV.v (x : SV) : Value := .agg #[.int .i8 x.s.op, .int .i64 x.s.id, .int .i64 x.s.par, .int .i64 x.s.at_, .string x.s.tx, .int .i64 x.s.sub.id, .int .i64 x.s.sub.kind, .string x.s.sub.text, .slice x.a (foLen x.s.sub.kids) x.c]
def RowV (w : World) (S : Nat → Prop) (a : Option Addr) (vs : List SV) : Prop := ∀ (k : Nat) (x : SV), vs[k]? = some x → ∃ b off, a = some ⟨b, off, none⟩ ∧ S b ∧ ∀ (j : Nat) (u : Value), (stepC x.s x.a x.c)[j]? = some u → w.cell? ⟨b, off + k * 9 + j, none⟩ = some u
theorem RowV.kept {w w' : World} {S S' : Nat → Prop} {a : Option Addr} {vs : List SV} (h : RowV w S a vs) (hS : ∀ y, S y → S' y ∧ w'.heap[y]? = w.heap[y]?) : RowV w' S' a vs := fun k x hx => by
 obtain ⟨b, off, e, hb, hc⟩ := h k x hx
 exact ⟨b, off, e, (hS b hb).1, fun j u hj => (World.cell?_of_block (a := ⟨b, off + k * 9 + j, none⟩) (hS b hb).2).trans (hc j u hj)⟩
structure RH where
 a : Option Addr
 c : Nat
 vs : List SV
def RH.v (r : RH) : Value := .slice r.a r.vs.length r.c
def flat : List RH → List SV
 | [] => []
 | r :: l => r.vs ++ flat l
def offs : List RH → Nat → Nat
 | _, 0 => 0
 | [], _ + 1 => 0
 | r :: l, i + 1 => r.vs.length + offs l i
theorem offs_succ : ∀ (l : List RH) (i : Nat) (r : RH), l[i]? = some r → offs l (i + 1) = offs l i + r.vs.length
 | [], _, _, h => by simp at h
 | r :: l, 0, r', h => by simp at h; subst h; cases l <;> simp [offs]
 | r :: l, i + 1, r', h => by
   have := offs_succ l i r' (by simpa using h)
   simp only [offs, this]; omega
theorem offs_end : ∀ l : List RH, offs l l.length = (flat l).length
 | [] => rfl
 | r :: l => by simp [offs, flat, offs_end l]
theorem flat_at : ∀ (l : List RH) (i j : Nat) (r : RH) (x : SV), l[i]? = some r → r.vs[j]? = some x → (flat l)[offs l i + j]? = some x
 | [], _, _, _, _, h, _ => by simp at h
 | r :: l, 0, j, r', x, h, hx => by
   simp at h; subst h
   rw [offs, Nat.zero_add, flat, List.getElem?_append_left (List.getElem?_eq_some_iff.1 hx).1]; exact hx
 | r :: l, i + 1, j, r', x, h, hx => by
   have := flat_at l i j r' x (by simpa using h) hx
   rw [flat, offs, List.getElem?_append_right (by omega), show r.vs.length + offs l i + j - r.vs.length = offs l i + j by omega]; exact this
def RowsJ (w : World) (NB R : Nat) (rs : List RH) (S : Nat → Prop) : Prop := w.heap[NB]? = some (.cells #[.slice (some ⟨R, 0, none⟩) rs.length rs.length] 195 (0, 0)) ∧ w.heap[R]? = some (.cells (rs.map RH.v).toArray 25 (0, 0)) ∧ S NB ∧ S R ∧ (∀ y, S y → y < w.heap.size) ∧ ∀ (i : Nat) (r : RH), rs[i]? = some r → RowV w S r.a r.vs
theorem RowsJ.kept {w w' : World} {NB R : Nat} {rs : List RH} {S : Nat → Prop} (h : RowsJ w NB R rs S) (hs : w.heap.size ≤ w'.heap.size) (hk : ∀ y, S y → w'.heap[y]? = w.heap[y]?) : RowsJ w' NB R rs S := by
 obtain ⟨h1, h2, h3, h4, h5, h6⟩ := h
 exact ⟨(hk NB h3).trans h1, (hk R h4).trans h2, h3, h4, fun y hy => Nat.lt_of_lt_of_le (h5 y hy) hs, fun i r hr => (h6 i r hr).kept fun y hy => ⟨hy, hk y hy⟩⟩
def BodyJ (P : Program) (m l : Nat) (S : Nat → Prop) (tl : List SV) (J : Nat → World → Prop) (Jx : World → Prop) : Prop :=
 ∀ (k : Nat) (x : SV) (w : World), tl[k]? = some x → (∀ y, S y → y < w.heap.size) → J k w → YieldAt Fence.wide m P l #[x.v] w fun e w' => w.heap.size ≤ w'.heap.size ∧ (∀ y, S y → w'.heap[y]? = w.heap[y]?) ∧ ((e = .returned (.bool true) ∧ J (k + 1) w') ∨ (e = .returned (.bool false) ∧ Jx w'))
def SEndJ (tl : List SV) (J : Nat → World → Prop) (Jx : World → Prop) (e : Ending) (V : World) : Prop := (∃ v, e = .returned v) ∧ (J tl.length V ∨ Jx V)
def SInvJ (NB R : Nat) (rs : List RH) (S : Nat → Prop) (J : Nat → World → Prop) (k : Nat) (wr : World) : Prop := RowsJ wr NB R rs S ∧ J k wr
theorem SEndJ.mk0 {tl : List SV} {J : Nat → World → Prop} {Jx : World → Prop} {V : World} {k : Nat} {v : Value} (h : J k V) (hk : k = tl.length) : SEndJ tl J Jx (.returned v) V := ⟨⟨v, rfl⟩, Or.inl (hk ▸ h)⟩
theorem SEndJ.mkx {tl : List SV} {J : Nat → World → Prop} {Jx : World → Prop} {V : World} {v : Value} (h : Jx V) : SEndJ tl J Jx (.returned v) V := ⟨⟨v, rfl⟩, Or.inr h⟩
theorem touched_new (V : World) (o : Obj) : Touched V (V.alloc o) (fun _ => False) := (Touched.refl V _).alloc _
set_option maxRecDepth 100000 in
set_option maxHeartbeats 8000000 in
theorem joined1_any {m l : Nat} {S : Nat → Prop} {rs : List RH} {J : Nat → World → Prop} {Jx : World → Prop} (hB : BodyJ Try.prog m l S (flat rs) J Jx) (hJ : ∀ {k : Nat} {V V' : World}, J k V → Touched V V' (fun _ => False) → J k V') (W : World) (NB R : Nat) (hI : RowsJ W NB R rs S) (hn : rs.length ≤ 1000000) (hm : ∀ r ∈ rs, r.vs.length ≤ 1000000) (h0 : J 0 W) :
 Calls Try.prog 172 #[.func (.yield l) #[] #[], .pointer (some ⟨NB, 0, none⟩)] W (SEndJ (flat rs) J Jx) := by
 have HST : Hid (SInvJ NB R rs S J (offs rs 0) W) := Lib.hid ⟨hI, by simpa [offs] using h0⟩
 obtain ⟨n, hn'⟩ : ∃ n, n = rs.length := ⟨_, rfl⟩
 have h1 := hI.1
 rw [← hn'] at hn h1
 have c0 : W.cell? ⟨NB, 0, none⟩ = some (.slice (some ⟨R, 0, none⟩) n n) := by rw [cell_of_row _ _ 0 _ _ _ h1]; rfl
 have HN := Lib.hid hn'
 have HM := Lib.hid hm
 have HJ : Hid (∀ {k : Nat} {V V' : World}, J k V → Touched V V' (fun _ => False) → J k V') := Lib.hid hJ
 clear h0 h1 hn' hm hI hJ
 refine (callsIn_wide (n := 6)).1 ?_
 refine callsIn_of_wp Try.func172 rfl trivial ?_ rfl
 simp only [Try.ntmps172, List.size_toArray, List.length_cons, List.length_nil, Nat.reduceAdd, Nat.reduceSub, Array.replicate_succ, Array.replicate_zero, List.push_toArray, List.append_toArray, List.nil_append, List.cons_append]
 gi_wp2
 gi_loopw [9] (fun i wr => ∃ k : Nat, i = .int .i64 (k : Int) ∧ k ≤ n ∧ Hid (SInvJ NB R rs S J (offs rs k) wr)) (fun i _ => n - (intOf i).toNat)
 case atStart => exact ⟨0, rfl, Nat.zero_le _, HST⟩
 case round =>
  obtain ⟨k, rfl, hkn, hh⟩ := hrel
  clear HST c0
  by_cases hlt : k < n
  · obtain ⟨r, hr⟩ : ∃ r, rs[k]? = some r := ⟨_, List.getElem?_eq_getElem (by rw [← HN.out]; exact hlt)⟩
    obtain ⟨mm, hmm⟩ : ∃ mm, mm = r.vs.length := ⟨_, rfl⟩
    have hm1 : mm ≤ 1000000 := by rw [hmm]; exact HM.out r (List.mem_of_getElem? hr)
    obtain ⟨ra, hra⟩ : ∃ ra, ra = r.a := ⟨_, rfl⟩
    obtain ⟨rc, hrc⟩ : ∃ rc, rc = r.c := ⟨_, rfl⟩
    have hki : (k : Int) < (n : Int) := by omega
    have d0 : wr.cell? ⟨R, k, none⟩ = some (.slice ra mm rc) := by
     rw [cell_of_row _ _ k _ _ _ hh.out.1.2.1, hra, hmm, hrc]
     simp [List.getElem?_map, hr, RH.v]
    have HR := Lib.hid (And.intro hr (And.intro hmm hra))
    have HH := hh
    obtain ⟨wo, hwo⟩ : ∃ wo, wo = wr := ⟨_, rfl⟩
    subst hwo
    clear hr hmm hra hrc hh
    gi_wp2
    clear d0
    gi_loopw [15] (fun i wr => ∃ j : Nat, i = .int .i64 (j : Int) ∧ j ≤ mm ∧ Hid (SInvJ NB R rs S J (offs rs k + j) wr)) (fun i _ => mm - (intOf i).toNat)
    case atStart => exact ⟨0, rfl, Nat.zero_le _, HH⟩
    case round =>
     obtain ⟨j, rfl, hjm, hh⟩ := hrel
     clear HH
     by_cases hjl : j < mm
     · have hji : (j : Int) < (mm : Int) := by omega
       obtain ⟨x, hx⟩ : ∃ x, r.vs[j]? = some x := ⟨_, List.getElem?_eq_getElem (by rw [← HR.out.2.1]; exact hjl)⟩
       obtain ⟨b, off, ea, hSb, hcs⟩ := hh.out.1.2.2.2.2.2 k r HR.out.1 j x hx
       have hra : ra = some ⟨b, off, none⟩ := HR.out.2.2.trans ea
       subst hra
       obtain ⟨sn, hsn⟩ : ∃ sn, sn = foLen x.s.sub.kids := ⟨_, rfl⟩
       have HX : Hid (.agg #[.int .i8 x.s.op, .int .i64 x.s.id, .int .i64 x.s.par, .int .i64 x.s.at_, .string x.s.tx, .int .i64 x.s.sub.id, .int .i64 x.s.sub.kind, .string x.s.sub.text, .slice x.a sn x.c] = x.v) := Lib.hid (by rw [hsn]; rfl)
       have d0 : wr.cell? ⟨b, off + j * 9, none⟩ = some (.int .i8 x.s.op) := hcs 0 _ rfl
       have d1 : wr.cell? ⟨b, off + j * 9 + 1, none⟩ = some (.int .i64 x.s.id) := hcs 1 _ rfl
       have d2 : wr.cell? ⟨b, off + j * 9 + 2, none⟩ = some (.int .i64 x.s.par) := hcs 2 _ rfl
       have d3 : wr.cell? ⟨b, off + j * 9 + 3, none⟩ = some (.int .i64 x.s.at_) := hcs 3 _ rfl
       have d4 : wr.cell? ⟨b, off + j * 9 + 4, none⟩ = some (.string x.s.tx) := hcs 4 _ rfl
       have d5 : wr.cell? ⟨b, off + j * 9 + 5, none⟩ = some (.int .i64 x.s.sub.id) := hcs 5 _ rfl
       have d6 : wr.cell? ⟨b, off + j * 9 + 6, none⟩ = some (.int .i64 x.s.sub.kind) := hcs 6 _ rfl
       have d7 : wr.cell? ⟨b, off + j * 9 + 7, none⟩ = some (.string x.s.sub.text) := hcs 7 _ rfl
       have d8 : wr.cell? ⟨b, off + j * 9 + 8, none⟩ = some (.slice x.a sn x.c) := by rw [hsn]; exact hcs 8 _ rfl
       have hVI : SInvJ NB R rs S J (offs rs k + j) (wr.alloc (.cells #[.int .i8 x.s.op, .int .i64 x.s.id, .int .i64 x.s.par, .int .i64 x.s.at_, .string x.s.tx, .int .i64 x.s.sub.id, .int .i64 x.s.sub.kind, .string x.s.sub.text, .slice x.a sn x.c] 47)) :=
        ⟨hh.out.1.kept (by simp) (fun y hy => Below.heap_alloc _ _ _ (hh.out.1.2.2.2.2.1 y hy)), HJ.out hh.out.2 (touched_new _ _)⟩
       obtain ⟨fn, tmps, assign, body, hy, hR⟩ := YieldAt.anyDepthW 5 (hB (offs rs k + j) x _ (flat_at rs k j r x HR.out.1 hx) hVI.1.2.2.2.2.1 hVI.2)
       rw [← HX.out] at hy
       have hcell := box9 (heap_alloc_new wr (.cells #[.int .i8 x.s.op, .int .i64 x.s.id, .int .i64 x.s.par, .int .i64 x.s.at_, .string x.s.tx, .int .i64 x.s.sub.id, .int .i64 x.s.sub.kind, .string x.s.sub.text, .slice x.a sn x.c] 47))
       obtain ⟨e0, e1, e2, e3, e4, e5, e6, e7, e8⟩ := hcell
       have HVI := Lib.hid hVI
       have HRR := Lib.hid hR
       have HJN := Lib.hid (And.intro hjm hjl)
       have hjw : IntKind.i64.wrap ((j : Int) + 1) = (j : Int) + 1 := IntWalk.i64_in _ (by omega)
       clear hx ea hSb hcs hsn hh hVI hR hjm
       gi_wp2
       refine HRR.out.mono ?_
       clear HRR hy d0 d1 d2 d3 d4 d5 d6 d7 d8 e0 e1 e2 e3 e4 e5 e6 e7 e8
       rintro e w2 ⟨hs2, hk2, (⟨rfl, hJ4⟩ | ⟨rfl, hJ4⟩)⟩
       · have HNX : Hid (SInvJ NB R rs S J (offs rs k + (j + 1)) w2) := Lib.hid ⟨HVI.out.1.kept hs2 hk2, hJ4⟩
         clear hs2 hk2 hJ4 HVI
         gi_wp2
         refine ⟨⟨j + 1, by push_cast; rfl, by have := HJN.out; omega, HNX⟩, by have := HJN.out; simp [intOf]; omega⟩
       · have HE := Lib.hid (SEndJ.mkx (tl := flat rs) (J := J) (v := .tuple #[]) hJ4)
         clear hs2 hk2 hJ4 HVI
         gi_wp2
         go_end0
         exact HE.out
     · have hjn : ¬ (j : Int) < (mm : Int) := by omega
       have hjm2 : j = mm := by omega
       have HNX : Hid (SInvJ NB R rs S J (offs rs (k + 1)) wr) := Lib.hid (by rw [offs_succ rs k r HR.out.1, ← HR.out.2.1, ← hjm2]; exact hh.out)
       have hkw : IntKind.i64.wrap ((k : Int) + 1) = (k : Int) + 1 := IntWalk.i64_in _ (by omega)
       have HKN := Lib.hid (And.intro hkn hlt)
       clear hh hjm hjm2 hjl hkn hlt
       gi_wp2
       refine ⟨⟨k + 1, by push_cast; rfl, by have := HKN.out; omega, HNX⟩, by have := HKN.out; simp [intOf]; omega⟩
  · have hkl : ¬ (k : Int) < (n : Int) := by omega
    have HE := Lib.hid (SEndJ.mk0 (tl := flat rs) (Jx := Jx) (v := .tuple #[]) hh.out.2 (by rw [← offs_end]; congr 1; have := HN.out; omega))
    clear hh hkn hlt
    gi_wp2
    go_end0
    exact HE.out
def LeftJ (B : Nat) (S : Nat → Prop) (I : Nat → World → Prop) (Ix : Code → World → Prop) (k : Nat) (W : World) (e : Exit) (_ : Act) (V : World) : Prop :=
 W.heap.size ≤ V.heap.size ∧ (∀ y, (y = B ∨ y = B + 1 ∨ S y) → V.heap[y]? = W.heap[y]?) ∧ ((e = .normal ∧ I (k + 1) V) ∨ (e = .ret ∧ Ix .ret V) ∨ ∃ id, e = .exit id ∧ Ix (.exit id) V)
set_option maxRecDepth 100000 in
theorem range_joined {n : Nat} {g : Operand} {ps : Array Tmp} {assign body : Code} {Q : Exit → Act → World → Prop} {a : Act} {w : World} (h1 : 1 ≤ n) {NB : Nat} (hg : a.eval g = .func (.func 172) #[] #[.pointer (some ⟨NB, 0, none⟩)])
 (R : Nat) (rs : List RH) (S : Nat → Prop) (hids : RowsJ w NB R rs S) (hn : rs.length ≤ 1000000) (hm : ∀ r ∈ rs, r.vs.length ≤ 1000000) (hps : ps.size = 1)
 (I : Nat → World → Prop) (Ix : Code → World → Prop)
 (hI : ∀ {k : Nat} {V V' : World}, I k V → Touched V V' (fun x => x = w.heap.size + 1) → I k V')
 (hIx : ∀ {c : Code} {V V' : World}, Ix c V → Touched V V' (fun x => x = w.heap.size + 1) → Ix c V')
 (h0 : I 0 w)
 (hround : ∀ (l : Nat), l = w.heap.size + 1 → ∀ (k : Nat) (x : SV) (V : World), w.heap.size + 2 ≤ V.heap.size → (flat rs)[k]? = some x → I k V →
   ∀ (K : Act → World → Prop), (∀ a₁ V0, Touched V V0 (fun _ => False) → (∀ V', (∃ o', V' = V0.putObj l o' ∧ ∃ o, V0.heap[l]? = some o ∧ o.isCells = false) → body.wpIn (Fence.wide.inRound l) (n - 1 - 1) Try.prog (LeftJ w.heap.size S I Ix k V') a₁ V') → K a₁ V0) →
    assign.wpIn (Fence.wide.inRound l) (n - 1 - 1) Try.prog (Exit.then K (fun _ _ _ => False)) { tmps := (ps.zip #[x.v]).foldl (fun t (p, v) => t.setIfInBounds p v) a.tmps, defers := [] } V)
 (hdone : ∀ (D : Nat) (V : World), D = w.heap.size → I (flat rs).length V → V.heap[D]? = some (.deferred (some [])) → Q .normal { a with defers := { target := .collected D, args := #[] } :: a.defers } V)
 (hstop : ∀ (D : Nat) (c : Code) (V : World), D = w.heap.size → Ix c V → V.heap[D]? = some (.deferred (some [])) → c.wpIn Fence.wide n Try.prog Q { a with defers := { target := .collected D, args := #[] } :: a.defers } V) :
 (Code.rangeFunc g ps assign body).wpIn Fence.wide n Try.prog Q a w := by
 obtain ⟨B, hB⟩ : ∃ B, w.heap.size = B := ⟨_, rfl⟩
 have hSB : ∀ y, S y → y < B := fun y hy => by have := hids.2.2.2.2.1 y hy; omega
 simp only [hB] at hI hIx hround hdone hstop h0
 refine wpIn_rangeFunc fun fn hfn => ?_
 obtain ⟨rec, hrec⟩ : ∃ rec : LoopState → Option Code → Loop, rec = fun st pe => { state := st, pending := pe, fn, tmps := a.tmps, params := ps, assign, body, defers := B } := ⟨_, rfl⟩
 obtain ⟨W1, hW1⟩ : ∃ W1, W1 = (w.alloc (.deferred (some []))).alloc (.loop (rec .ready none)) := ⟨_, rfl⟩
 have hsz1 : W1.heap.size = B + 2 := by rw [hW1]; simp [hB]
 have hblk : ∀ x, x < B → W1.heap[x]? = w.heap[x]? := fun x hx => by rw [hW1, Below.heap_alloc _ _ _ (by simp; omega), Below.heap_alloc _ _ _ (by omega)]
 have hbk : Book B (rec .ready none) W1 := by
  rw [hW1, ← hB]
  refine ⟨?_, (Below.heap_alloc _ _ _ (by simp)).trans (World.alloc_heap_new w _)⟩
  have := World.alloc_heap_new (w.alloc (.deferred (some []))) (.loop (rec .ready none))
  rwa [World.size_alloc] at this
 have hb1 : Touched w W1 (fun _ => False) := by rw [hW1]; exact ((Touched.refl w _).alloc _).alloc _
 have hI1 : I 0 W1 := hI h0 (hb1.mono (fun _ h => h.elim))
 refine ⟨B + 1, [{ target := .collected B, args := #[] }], W1, { target := .fn (.func 172) #[.pointer (some ⟨NB, 0, none⟩)], args := #[.func (.yield (B + 1)) #[] #[]] }, W1, 172, #[.func (.yield (B + 1)) #[] #[]] ++ #[.pointer (some ⟨NB, 0, none⟩)], W1, ?_, ?_, ?_, ?_, fun _ => h1, ?_⟩
 · rw [hW1, hrec, ← hB]; exact run_enterLoop_outer _ _ _ _ _
 · simp only [resolve, hg]
   simp [go_sem]
 · intro f' hf'; simp [Target.leads] at hf'; subst hf'; exact trivial
 · simp [invoke, go_sem]
 · obtain ⟨J, hJ⟩ : ∃ J : Nat → World → Prop, J = fun k V => I k V ∧ Book B (rec .ready none) V := ⟨_, rfl⟩
   obtain ⟨Jx, hJx⟩ : ∃ Jx : World → Prop, Jx = fun V => ∃ c, Ix c V ∧ Book B (rec .done (some c)) V := ⟨_, rfl⟩
   have hbody : BodyJ Try.prog (n - 1 - 1) (B + 1) S (flat rs) J Jx := by
    subst hJ hJx
    rintro k x V hx hS ⟨j1, j2⟩
    have hr := hround (B + 1) rfl k x V (by have := lt_of_heap j2.1; omega) hx j1
    have hSl : ∀ y, S y → y ≠ B + 1 := fun y hy => by have := hSB y hy; omega
    have hy := run_yield (P := Try.prog) (args := #[x.v]) j2.1 (by rw [hrec]; exact hps.symm)
    rw [hrec] at hy
    refine ⟨fn, _, assign, body, hy, roundIn_of_wpIn hfn (hr _ fun a₁ V0 h0 hb => ?_)⟩
    have j3 : Book B (rec .ready none) V0 := ⟨(h0.block _ (lt_of_heap j2.1) (fun h => h)).trans j2.1, (h0.block _ (lt_of_heap j2.2) (fun h => h)).trans j2.2⟩
    refine ⟨_, run_beginRound j3.1 (by rw [hrec]), ?_⟩
    have hb2 : Book B { rec .ready none with state := .busy } (V0.putObj (B + 1) (.loop { rec .ready none with state := .busy })) := j3.put
    refine wpIn_mono (hb _ ⟨_, rfl, _, j3.1, rfl⟩) ?_
    rintro e3 a3 U ⟨hkU, hkS, hp⟩
    have hb3 : Book B { rec .ready none with state := .busy } U := ⟨(hkS _ (Or.inr (Or.inl rfl))).trans hb2.1, (hkS _ (Or.inl rfl)).trans hb2.2⟩
    have fin := fun jump => run_endRound (P := Try.prog) jump hb3.1
    rw [hrec] at fin hb3
    have hUs : V.heap.size ≤ U.heap.size := by have := hkU; have := h0.size; simp [World.putObj] at *; omega
    have hsz : ∀ o', V.heap.size ≤ (U.putObj (B + 1) o').heap.size := fun o' => by simp [World.putObj]; exact hUs
    have hallS : ∀ o' y, S y → (U.putObj (B + 1) o').heap[y]? = V.heap[y]? := fun o' y hy => by
     rw [World.putObj_heap_other (hSl y hy), hkS y (Or.inr (Or.inr hy)), World.putObj_heap_other (hSl y hy), h0.block y (hS y hy) (fun h => h)]
    have htp : ∀ o', Touched U (U.putObj (B + 1) o') (fun x => x = B + 1) := fun o' => touched_put o' hb3.1
    rcases hp with ⟨rfl, hi3⟩ | ⟨rfl, hi3⟩ | ⟨id, rfl, hi3⟩
    · refine ⟨_, _, fin none, hsz _, hallS _, .inl ⟨rfl, hI hi3 (htp _), ?_⟩⟩
      rw [hrec]; exact hb3.put
    · refine ⟨_, _, fin (some .ret), hsz _, hallS _, .inr ⟨rfl, .ret, hIx hi3 (htp _), ?_⟩⟩
      rw [hrec]; exact hb3.put
    · refine ⟨_, _, fin (some (.exit id)), hsz _, hallS _, .inr ⟨rfl, .exit id, hIx hi3 (htp _), ?_⟩⟩
      rw [hrec]; exact hb3.put
   have hstart : J 0 W1 := by rw [hJ]; exact ⟨hI1, hbk⟩
   refine (callsIn_wide.2 (joined1_any hbody (fun {k V V1} j hb => by rw [hJ] at j ⊢; exact ⟨hI j.1 (hb.mono (fun _ h => h.elim)), (hb.block _ (lt_of_heap j.2.1) (fun h => h)).trans j.2.1, (hb.block _ (lt_of_heap j.2.2) (fun h => h)).trans j.2.2⟩) W1 NB R (hids.kept hb1.size (fun y hy => hblk y (hSB y hy))) hn hm hstart)).mono ?_
   rintro e W2 ⟨⟨v, rfl⟩, hj | hj⟩
   · rw [hJ] at hj
     obtain ⟨hi, hb⟩ := hj
     have := run_endLoop (P := Try.prog) hb.1 (by rw [hrec]; simp)
     rw [hrec] at this
     refine ⟨none, _, this, hdone B _ rfl (hI hi (touched_put _ hb.1)) ((World.putObj_heap_other (by omega)).trans hb.2)⟩
   · rw [hJx] at hj
     obtain ⟨c, hi, hb⟩ := hj
     have := run_endLoop (P := Try.prog) hb.1 (by rw [hrec]; simp)
     rw [hrec] at this
     exact ⟨some c, _, this, hstop B c _ rfl (hIx hi (touched_put _ hb.1)) ((World.putObj_heap_other (by omega)).trans hb.2)⟩
set_option maxRecDepth 100000 in
theorem joined_fn (w : World) (R n c : Nat) : Calls Try.prog 129 #[.slice (some ⟨R, 0, none⟩) n c] w fun e w' => e = .returned (.func (.func 172) #[] #[.pointer (some ⟨w.heap.size, 0, none⟩)]) ∧ w.alloc (.cells #[.slice (some ⟨R, 0, none⟩) n c] 195) = w' := by
 have hmf : ∀ W : World, (Instr.makeFunc (.func 172) #[] #[.pointer (some ⟨w.heap.size, 0, none⟩)]).run Try.prog W = .ok (.func (.func 172) #[] #[.pointer (some ⟨w.heap.size, 0, none⟩)]) W := fun _ => rfl
 go_enter Try.func129, Try.ntmps129
 go_wp2_with fail
 go_ret
 exact ⟨rfl, rfl⟩
end Go.Proofs.Ytonapijgfalpaaa
namespace Go.Proofs.Ytonapijgfalpaaa
open Go.RowKit Go.Shelf
theorem bad_nodup {g : Gr} : ∀ (L : List Sp) (ids : List Int) (i : Nat), badAt g ids i L = none → (L.map fun x => x.2.1.1).Nodup ∧ ∀ x ∈ L, x.2.1.1 ∉ ids
 | [], ids, i, _ => ⟨List.nodup_nil, fun x h => by cases h⟩
 | x :: r, ids, i, h => by
   rw [badAt] at h
   split at h
   · cases h
   · rename_i ha
     obtain ⟨h1, h2⟩ := bad_nodup r _ _ h
     have hx : x.2.1.1 ∉ ids := fun hm => by
      apply ha
      have hany : ids.any (· == x.2.1.1) = true := List.any_eq_true.2 ⟨_, hm, by simp⟩
      unfold atB
      rw [show (trOf x).id = x.2.1.1 from rfl, hany]
      simp
     refine ⟨?_, fun y hy => ?_⟩
     · rw [List.map_cons, List.nodup_cons]
       refine ⟨fun hm => ?_, h1⟩
       obtain ⟨y, hy, e⟩ := List.mem_map.1 hm
       exact h2 y hy (by rw [e]; simp)
     · rcases List.mem_cons.1 hy with rfl | hy
       · exact hx
       · exact fun hm => h2 y hy (List.mem_append_left _ hm)
theorem tree_dist {g : Gr} {t : Tr} (h : (treeR g t).2 = 0) : DistT t ∧ foSize t.kids + 1 ≤ 200 := by
 unfold treeR at h
 split at h
 · exact absurd h (by decide)
 · unfold subR at h
   split at h
   · split at h
     · exact absurd h (by decide)
     · rename_i hs
       unfold faultR at h
       split at h
       · exact absurd (show (70 : Int) = 0 from h) (by decide)
       · rename_i hb
         exact ⟨(bad_nodup _ _ _ hb).1, by omega⟩
   · exact absurd h (by decide)
def goT (g : Gr) (t : Tr) : List Sf → Option Tr
 | [] => some t
 | s :: l => if (doK g (s.on t)).2 = 0 then goT g (doK g (s.on t)).1 l else none
theorem goT_append (g : Gr) : ∀ (a b : List Sf) (t : Tr), goT g t (a ++ b) = (goT g t a).bind fun x => goT g x b
 | [], b, t => rfl
 | s :: a, b, t => by
   rw [List.cons_append, goT, goT]
   split
   · exact goT_append g a b _
   · rfl
theorem goT_snoc {g : Gr} {t x : Tr} {l : List Sf} {s : Sf} (h : goT g t l = some x) (hs : (doK g (s.on x)).2 = 0) : goT g t (l ++ [s]) = some (doK g (s.on x)).1 := by
 rw [goT_append, h]
 show goT g x [s] = _
 rw [goT, if_pos hs]; rfl
def foldK (g : Gr) : Tr → List Sf → Tr × Nat × Int
 | t, [] => (t, 0, 0)
 | t, s :: l => if (doK g (s.on t)).2 = 0 then ((foldK g (doK g (s.on t)).1 l).1, (foldK g (doK g (s.on t)).1 l).2.1 + 1, (foldK g (doK g (s.on t)).1 l).2.2) else (t, 0, (doK g (s.on t)).2)
theorem foldK_all {g : Gr} : ∀ {l : List Sf} {t x : Tr}, goT g t l = some x → foldK g t l = (x, l.length, 0)
 | [], t, x, h => by cases h; rfl
 | s :: l, t, x, h => by
   rw [goT] at h
   split at h
   · rename_i h0
     rw [foldK, if_pos h0, foldK_all h]; rfl
   · cases h
theorem foldK_stop {g : Gr} : ∀ {l : List Sf} {k : Nat} {t x : Tr} {s : Sf} {n : Int}, goT g t (l.take k) = some x → l[k]? = some s → (doK g (s.on x)).2 = n → n ≠ 0 → foldK g t l = (x, k, n)
 | [], k, t, x, s, n, _, hs, _, _ => by simp at hs
 | r :: l, 0, t, x, s, n, h, hs, hn, h0 => by
   simp at hs; subst hs
   rw [List.take_zero] at h; cases h
   rw [foldK, if_neg (by rw [hn]; exact h0), hn]
 | r :: l, k + 1, t, x, s, n, h, hs, hn, h0 => by
   rw [List.take_succ_cons, goT] at h
   split at h
   · rename_i hr
     rw [foldK, if_pos hr, foldK_stop h (by simpa using hs) hn h0]
   · cases h
theorem foldK_go {g : Gr} : ∀ {l : List Sf} {t : Tr}, (foldK g t l).2.2 = 0 → goT g t l = some (foldK g t l).1 ∧ (foldK g t l).2.1 = l.length
 | [], t, _ => ⟨rfl, rfl⟩
 | s :: l, t, h => by
   rw [foldK] at h ⊢
   rw [goT]
   split at h
   · rename_i h0
     rw [if_pos h0, if_pos h0]
     have := foldK_go (g := g) (l := l) h
     exact ⟨this.1, by simp [this.2]⟩
   · rename_i h0; exact absurd h h0
theorem goT_take {g : Gr} : ∀ {l : List Sf} {t y : Tr} (k : Nat), goT g t l = some y → ∃ x, goT g t (l.take k) = some x
 | l, t, y, k, h => by
   rw [← List.take_append_drop k l, goT_append] at h
   cases hx : goT g t (l.take k) with
   | none => rw [hx] at h; cases h
   | some x => exact ⟨x, rfl⟩
def insN (s : Sf) : Nat := if s.op = 1 then foSize s.sub.kids + 1 else 0
def insSum : List Sf → Nat
 | [] => 0
 | s :: l => insN s + insSum l
theorem insSum_append : ∀ a b : List Sf, insSum (a ++ b) = insSum a + insSum b
 | [], b => by simp [insSum]
 | s :: a, b => by rw [List.cons_append, insSum, insSum, insSum_append a b]; omega
def okSet (l : List Sf) : Bool := decide (l.length ≤ 60) && decide (insSum l ≤ 200)
theorem okSet_iff (l : List Sf) : okSet l = true ↔ l.length ≤ 60 ∧ insSum l ≤ 200 := by simp [okSet]
theorem okSet_left {a b : List Sf} (h : okSet (a ++ b) = true) : okSet a = true ∧ okSet b = true := by
 rw [okSet_iff] at h
 rw [okSet_iff, okSet_iff]
 rw [insSum_append, List.length_append] at h
 omega
theorem okSet_take {l : List Sf} (k : Nat) (h : okSet l = true) : okSet (l.take k) = true := by
 rw [← List.take_append_drop k l] at h
 exact (okSet_left h).1
def apK (g : Gr) (t : Tr) (l : List Sf) : Tr × Nat × Int := if okSet l = true then (if (foldK g t l).2.2 = 0 then (foldK g t l).1 else t, (foldK g t l).2.1, (foldK g t l).2.2) else (zeroK, 0, 3)
structure Way (t : Tr) : Prop where
 size : foSize t.kids + 1 ≤ 250
 ok : okF (spF 1 (rootF t))
structure StepFit (s : Sf) : Prop where
 op : (Lit.int .i8 s.op).wf = true
 size : foSize s.sub.kids + 1 ≤ 250
 ok : okF (spF 1 (rootF s.sub))
 tx : (s.tx.size : Int) ≤ 9223372036854775807
theorem way_do {g : Gr} {t : Tr} {s : Sf} (hs : StepFit s) (h : Way t) (h0 : (doK g (s.on t)).2 = 0) : Way (doK g (s.on t)).1 := by
 unfold doK at h0 ⊢
 split at h0
 · rename_i h1
   split at h0
   · rename_i h2
     rw [if_pos h1, if_pos h2]
     have hx := stepK_fx (op := s.op) (id := s.id) (par := s.par) (at_ := s.at_) (tx := s.tx) (x := s.sub) (t := t) (y := (s.on t).1) (by unfold Sf.on; exact Prod.ext rfl h1)
     exact ⟨by have := (tree_dist h2).2; show foSize (s.on t).1.kids + 1 ≤ 250; omega, hx.1.ok h.ok hs.ok hs.tx⟩
   · rename_i h2; exact absurd h0 h2
 · rename_i h1; exact absurd h0 h1
theorem way_go {g : Gr} : ∀ {l : List Sf} {t x : Tr}, (∀ s ∈ l, StepFit s) → Way t → goT g t l = some x → Way x
 | [], t, x, _, h, e => by cases e; exact h
 | s :: l, t, x, hl, h, e => by
   rw [goT] at e
   split at e
   · rename_i h0
     exact way_go (fun r hr => hl r (List.mem_cons_of_mem _ hr)) (way_do (hl s (List.mem_cons_self ..)) h h0) e
   · cases e
set_option maxRecDepth 100000 in
set_option maxHeartbeats 8000000 in
theorem doc_any (w : World) (S Sx : Nat → Prop) (ga : Option Addr) (gc GB : Nat) (nv : Value) (g : Gr) (t x : Tr) (op id par at_ : Int) (tx : ByteArray) (sa : Option Addr) (sn sc : Nat) (hgb : w.heap[GB]? = some (.cells #[.slice ga g.kinds.length gc, .int .i64 g.root] 55 (0, 0))) (hg : ∀ X, Below w.heap.size w X → GrV X (.agg #[.slice ga g.kinds.length gc, .int .i64 g.root]) g) (hf : g.few) (hS : ∀ y, S y → y < w.heap.size) (hSx : ∀ y, Sx y → y < w.heap.size) (ht : TrAt w S nv t) (hx : TrAt w Sx (.agg #[.int .i64 x.id, .int .i64 x.kind, .string x.text, .slice sa sn sc]) x) (hsz : foSize t.kids + 1 ≤ 2000) (hxz : foSize x.kids + 1 ≤ 2000) (hop : (Lit.int .i8 op).wf = true) (hok : okF (spF 1 (rootF t))) (hxk : okF (spF 1 (rootF x))) (htx : (tx.size : Int) ≤ 9223372036854775807) :
 Calls Try.prog 132 #[nv, .agg #[.int .i8 op, .int .i64 id, .int .i64 par, .int .i64 at_, .string tx, .int .i64 x.id, .int .i64 x.kind, .string x.text, .slice sa sn sc], .pointer (some ⟨GB, 0, none⟩)] w (ApplyC w (fun y => S y ∨ Sx y) (doK g (stepK op id par at_ tx x t))) := by
 obtain ⟨gn, hgn⟩ : ∃ gn, gn = g.kinds.length := ⟨_, rfl⟩
 obtain ⟨ka, tc, rfl, hcap, hk⟩ := ht
 obtain ⟨nk, hnk⟩ : ∃ nk, nk = foLen t.kids := ⟨_, rfl⟩
 rw [← hnk]
 rw [← hgn] at hgb hg
 obtain ⟨B, hB⟩ : ∃ B, B = allocs w [.cells #[.int .i64 t.id, .int .i64 t.kind, .string t.text, .slice ka nk tc] 24, .cells #[.int .i8 op, .int .i64 id, .int .i64 par, .int .i64 at_, .string tx, .int .i64 x.id, .int .i64 x.kind, .string x.text, .slice sa sn sc] 47, .cells #[.int .i64 0, .int .i64 0, .string ⟨#[]⟩, .slice none 0 0] 24] := ⟨_, rfl⟩
 have hb : Below w.heap.size w B := by rw [hB]; exact allocs_below _ _
 have hs : B.heap.size = w.heap.size + 3 := by rw [hB]; exact allocs_size _ _
 have ht0 : B.heap[w.heap.size]? = some (.cells #[.int .i64 t.id, .int .i64 t.kind, .string t.text, .slice ka nk tc] 24 (0, 0)) := by rw [hB]; exact allocs_at _ _ 0 _ rfl
 have hs0 : B.heap[w.heap.size + 1]? = some (.cells #[.int .i8 op, .int .i64 id, .int .i64 par, .int .i64 at_, .string tx, .int .i64 x.id, .int .i64 x.kind, .string x.text, .slice sa sn sc] 47 (0, 0)) := by rw [hB]; exact allocs_at _ _ 1 _ rfl
 have hr0 : B.heap[w.heap.size + 1 + 1]? = some (.cells #[.int .i64 0, .int .i64 0, .string ⟨#[]⟩, .slice none 0 0] 24 (0, 0)) := by rw [hB]; exact allocs_at _ _ 2 _ rfl
 have hgB := (hb.block _ (lt_of_heap hgb)).trans hgb
 have hdo := do_any B S Sx (.agg #[.slice ga gn gc, .int .i64 g.root]) (.agg #[.int .i64 t.id, .int .i64 t.kind, .string t.text, .slice ka nk tc]) g t x op id par at_ tx sa sn sc (hg B hb) hf (fun y hy => Nat.lt_of_lt_of_le (hS y hy) hb.size) (fun y hy => Nat.lt_of_lt_of_le (hSx y hy) hb.size) ⟨ka, tc, by rw [hnk], hcap, hk.below hb hS⟩ (hx.kept fun y hy => ⟨hy, hb.block y (hSx y hy)⟩) hsz hxz hop hok hxk htx
 obtain ⟨r, hr⟩ : ∃ r, r = doK g (stepK op id par at_ tx x t) := ⟨_, rfl⟩
 rw [← hr] at hdo ⊢
 obtain ⟨y, hy⟩ : ∃ y, y = applyR r := ⟨_, rfl⟩
 obtain ⟨yn, hyn⟩ : ∃ yn, yn = foLen y.kids := ⟨_, rfl⟩
 obtain ⟨ye, hye⟩ : ∃ ye, ye = r.2 := ⟨_, rfl⟩
 have HDO := Lib.hid hdo
 have HY := Lib.hid (And.intro hy (And.intro hyn hye))
 have HB := Lib.hid (And.intro hb (And.intro hs hr0))
 have HBE := Lib.hid hB
 have HSS := Lib.hid (And.intro hS hSx)
 obtain ⟨g0, g1⟩ : B.cell? ⟨GB, 0, none⟩ = some (.slice ga gn gc) ∧ B.cell? ⟨GB, 1, none⟩ = some (.int .i64 g.root) := ⟨by rw [cell_of_row _ _ 0 _ _ _ hgB]; rfl, by rw [cell_of_row _ _ 1 _ _ _ hgB]; rfl⟩
 obtain ⟨n0, n1, n2, n3⟩ := box4 ht0
 obtain ⟨m0, m1, m2, m3, m4, m5, m6, m7, m8⟩ := box9 hs0
 clear hdo hb hs ht0 hs0 hr0 hB hS hSx hk hcap hgn hnk hsz hxz hop hok hxk htx hx hr hy hyn hye hgb hg hf hgB
 go_enter Try.func132, Try.ntmps132
 go_upto_region 1 with fail
 change Code.wp _ _ _ _ (allocs w [.cells #[.int .i64 t.id, .int .i64 t.kind, .string t.text, .slice ka nk tc] 24, .cells #[.int .i8 op, .int .i64 id, .int .i64 par, .int .i64 at_, .string tx, .int .i64 x.id, .int .i64 x.kind, .string x.text, .slice sa sn sc] 47, .cells #[.int .i64 0, .int .i64 0, .string ⟨#[]⟩, .slice none 0 0] 24])
 rw [← HBE.out]
 go_wp2_with fail
 clear g0 g1 n0 n1 n2 n3 m0 m1 m2 m3 m4 m5 m6 m7 m8
 refine HDO.out.mono ?_
 rintro e W5 ⟨_, rfl, ⟨yb, yc, rfl, hyc, hyk⟩, hb5⟩
 rw [← HY.out.1] at hyc hyk ⊢
 rw [← HY.out.2.1] at hyc ⊢
 rw [← HY.out.2.2]
 have hr5 := (hb5.block _ (lt_of_heap HB.out.2.2)).trans HB.out.2.2
 have hbz : Below w.heap.size w W5 := HB.out.1.trans (hb5.mono HB.out.1.size)
 obtain ⟨z0, z1, z2, z3⟩ := box4 hr5
 have zf : ∀ j, W5.frozen? ⟨w.heap.size + 1 + 1, j, none⟩ = false := fun j => frozen_of_row _ _ j _ _ hr5
 obtain ⟨V, hV, r1, r2, r3, r4, r5, r6⟩ := four_set (u0 := .int .i64 y.id) (u1 := .int .i64 y.kind) (u2 := .string y.text) (u3 := .slice yb yn yc) hr5
 have hokV : FoAt V (fun z => CellsB V z ∧ ((S z ∨ Sx z) ∨ w.heap.size ≤ z)) y.kids yb := hyk.kept fun z hz => by
  obtain ⟨⟨cs, ty, fr, hcz⟩, hz2⟩ := hz
  have h1 := HB.out.2.1
  have hlt := lt_of_heap hcz
  have hne : z ≠ w.heap.size + 1 + 1 := fun e => by
   rcases hz2 with (h | h) | h
   · have := HSS.out.1 z h; omega
   · have := HSS.out.2 z h; omega
   · omega
  have e1 : V.heap[z]? = W5.heap[z]? := r2 z hne
  exact ⟨⟨⟨cs, ty, fr, e1.trans hcz⟩, hz2.imp (fun h => h) (fun h => by omega)⟩, e1⟩
 have HE := Lib.hid (And.intro hbz (And.intro hV (And.intro r1 (And.intro r2 (And.intro r3 (And.intro r4 (And.intro r5 (And.intro r6 (And.intro hokV hyc)))))))))
 clear hbz hr5 hV r1 r2 r3 r4 r5 r6 hokV hyc hyk hb5
 go_wp2_with fail
 rw [← HE.out.2.1]
 obtain ⟨hbz, hV, r1, r2, r3, r4, r5, r6, hokV, hyc⟩ := HE.out
 exact apply_end (p := 5) (u := 6) rfl rfl (g := w.heap.size + 1 + 1) (y := y) ⟨r3.trans hbz.os, r4.trans hbz.tape, r5.trans hbz.output, by rw [r6]; exact hbz.size, fun k hk => (r2 k (by omega)).trans (hbz.block k hk)⟩ r1 HY.out.2.1 (by rw [← HY.out.2.1]; exact hyc) hokV HY.out.1.symm rfl (by rw [← HY.out.2.2]; rfl)
theorem doN {E : Nat → Prop} {X0 X : World} {g : Gr} {t : Tr} {x : SV} {ga ta : Option Addr} {gc GB tn tc : Nat} (hE : ∀ q, E q → q < X.heap.size) (hgb : X.heap[GB]? = some (.cells #[.slice ga g.kinds.length gc, .int .i64 g.root] 55 (0, 0))) (hg : ∀ Y, Below X.heap.size X Y → GrV Y (.agg #[.slice ga g.kinds.length gc, .int .i64 g.root]) g) (hf : g.few) (h0 : LiesN X E t.kids ta tc) (h1 : LiesN X0 E x.s.sub.kids x.a x.c) (b1 : Below X0.heap.size X0 X) (hw : Way t) (hs : StepFit x.s) (htn : tn = foLen t.kids) :
 Calls Try.prog 132 #[.agg #[.int .i64 t.id, .int .i64 t.kind, .string t.text, .slice ta tn tc], x.v, .pointer (some ⟨GB, 0, none⟩)] X (TreeN E (applyR (doK g (x.s.on t))) (doK g (x.s.on t)).2 X) := by
 subst htn
 refine (doc_any X _ _ ga gc GB _ g t x.s.sub x.s.op x.s.id x.s.par x.s.at_ x.s.tx x.a (foLen x.s.sub.kids) x.c hgb hg hf (fun y hy => hy.1) (fun y hy => Nat.lt_of_lt_of_le hy.1 b1.size) (h0.at (Below.refl _ _)) ⟨x.a, x.c, rfl, h1.1, h1.2.kept fun q hq => ⟨hq, b1.block q hq.1⟩⟩ (by have := hw.size; omega) (by have := hs.size; omega) hs.op hw.ok hs.ok hs.tx).mono ?_
 rintro e W ⟨v, rfl, ⟨va, vc, rfl, hc, hf⟩, hb⟩
 refine ⟨va, vc, rfl, ⟨hc, hf.kept fun q hq => ⟨⟨hq.1.lt, fun he => ?_⟩, rfl⟩⟩, hb⟩
 rcases hq.2 with (h | h) | h
 · exact h.2 he
 · exact h.2 he
 · have := hE q he; omega
end Go.Proofs.Ytonapijgfalpaaa
