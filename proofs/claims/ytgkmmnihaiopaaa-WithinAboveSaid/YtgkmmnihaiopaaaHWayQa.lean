/-
  .
-/
import Derived.Test.YtgkmmnihaiopaaaHRangeQa
import Derived.Test.YtgkmmnihaiopaaaRWalkNQa
import Derived.Test.YtgkmmnihaiopaaaJPgQa
set_option maxRecDepth 100000
set_option maxHeartbeats 40000000
namespace Go.Proofs.Ytgkmmnihaiopaaa
open Go.RowKit Go.Shelf
attribute [local go_sem] Oper.semAt_some
set_option linter.unusedVariables false
set_option linter.unusedSimpArgs false
structure Yz (w' : World) (S : Nat → Prop) (t : Tr) (id : Int) (rv : Value) (L : List Fr) : Prop where
 rows : yE w' rv L
 ok : ∀ y ∈ L, y.ok
 lies : ∀ y ∈ L, zC w' S y.f y.a ∧ foLen y.f ≤ y.cap
 chain : yZ (zl t) L
 is : (L = [] ∧ fpi id 0 (zl t) = none) ∨ (L ≠ [] ∧ fpi id 0 (zl t) = some (places L))
 few : L.length ≤ zg t.kids + 2
 sl : ∀ y, S y → y < w'.heap.size
def zg3 (w : World) (S : Nat → Prop) (t : Tr) (id : Int) (e : Ending) (w' : World) : Prop := ∃ rv L, e = .returned rv ∧ Yz w' (fun y => (S y ∨ w.heap.size ≤ y) ∧ y < w'.heap.size) t id rv L ∧ Below w.heap.size w w' ∧ ∀ g, rv.ownBlock = some g → w.heap.size ≤ g
theorem Zb {P : Program} {fn : Func} {p : Tmp} {tb : TypeId} (h : fn.results = #[.cell p tb]) (tmps : Array Value) (w : World) (g : Nat) (v : Value) (hp : tmps.getD p undef = .pointer (some ⟨g, 0, none⟩)) (hc : w.cell? ⟨g, 0, none⟩ = some v) (hb : ∀ w, (isAgg tb).run P w = .ok false w) :
 (results fn tmps).run P w = .ok v w := by
 have hp' : tmps[p]?.getD undef = .pointer (some ⟨g, 0, none⟩) := by simpa using hp
 have hl : (loadVar tb ⟨g, 0, none⟩).run P w = .ok v w := by simp [go_sem, hc, hb, Result.andThen]
 simp [results, h, hp', asAddr, hl]
def zbM (t : Tr) (ka : Option Addr) (n cap : Nat) (id : Int) : List Obj :=
 [.cells #[.int .i64 t.id, .int .i64 t.kind, .string t.text, .slice ka n cap] 27, .cells #[.int .i64 id] 3, .cells #[.slice none 0 0] 165, .cells #[.int .i64 t.id, .int .i64 t.kind, .string t.text, .slice ka n cap] 27]
def zax (w W : World) (t : Tr) (id : Int) (T : Nat → Prop) (L : List Fr) (V : World) : Prop := zdq id L = fpi id 0 (zl t) ∧ Below w.heap.size w V ∧ (∀ x, T x → W.heap.size ≤ x) ∧ W.heap.size ≤ V.heap.size ∧ ∀ x, x < W.heap.size → V.heap[x]? = W.heap[x]?
def zdg (w W : World) (S : Nat → Prop) (t : Tr) (id : Int) (T : Nat → Prop) (V : World) : Prop := Below w.heap.size w V ∧ W.heap.size ≤ V.heap.size ∧ ∃ rv L, V.heap[w.heap.size + 2]? = some (.cells #[rv] 165 (0, 0)) ∧ qx V (fun y => S y ∨ y = W.heap.size + 2) t T rv L ∧ L ≠ [] ∧ fpi id 0 (zl t) = some (places L)
theorem zax.turn {w W V V' : World} {t : Tr} {id : Int} {T T' : Nat → Prop} {L : List Fr} (hw : w.heap.size ≤ W.heap.size) (h : zax w W t id T L V) (ht : zk V V' (fun x => T x ∨ (W.heap.size ≤ x ∧ zS V x))) (hwd : ve T T' V V') : zax w W t id T' L V' := by
 obtain ⟨h1, h2, h3, h4, h5⟩ := h
 have hk : ∀ x, x < W.heap.size → V'.heap[x]? = V.heap[x]? := fun x hx => ht.block x (by omega) (fun h => by
  rcases h with h | h
  · have := h3 x h; omega
  · omega)
 exact ⟨h1, ⟨ht.os.trans h2.os, ht.tape.trans h2.tape, ht.output.trans h2.output, Nat.le_trans h2.size ht.size, fun x hx => (hk x (by omega)).trans (h2.block x hx)⟩, fun x hx => (hwd x hx).elim (h3 x) (fun h => by omega), Nat.le_trans h4 ht.size, fun x hx => (hk x hx).trans (h5 x hx)⟩
theorem zdg.put {w W V : World} {S : Nat → Prop} {t : Tr} {id : Int} {T : Nat → Prop} (hw : w.heap.size + 3 ≤ W.heap.size) (hS : ∀ y, S y → y < W.heap.size) (o o' : Loop) (h : zdg w W S t id T V) (hT : ∀ x, T x → W.heap.size + 2 ≤ x) : zdg w W S t id T (V.putObj (W.heap.size + 1) (.loop o')) := by
 obtain ⟨h1, h2, rv, L, h3, h4, h5, h6⟩ := h
 have hs : (V.putObj (W.heap.size + 1) (.loop o')).heap.size = V.heap.size := by simp [World.putObj]
 have hk : ∀ x, x ≠ W.heap.size + 1 → (V.putObj (W.heap.size + 1) (.loop o')).heap[x]? = V.heap[x]? := fun x hx => World.putObj_heap_other hx
 refine ⟨⟨h1.os, h1.tape, h1.output, by have := h1.size; omega, fun x hx => (hk x (by omega)).trans (h1.block x hx)⟩, by omega, rv, L, (hk _ (by omega)).trans h3, h4.kept (by omega) (fun y hy => hk y (by have := hT y hy; omega)) (fun y hy => hk y (by
  rcases hy with hy | hy
  · have := hS y hy; omega
  · omega)), h5, h6⟩
theorem zgI {w W V V1 V3 : World} {S T : Nat → Prop} {t : Tr} {id : Int} {rv : Value} {x : Fr} {r : List Fr} {u : Tr} {aa : Act} {o : Obj} (hwW : w.heap.size ≤ W.heap.size) (hf : qx V (fun y => S y ∨ y = W.heap.size + 2) t T rv (x :: r)) (hu : zz x.f x.p.toNat = some u) (hI : zax w W t id T (x :: r) V) (hne : ¬ u.id = id) (hT : ∀ y, T y → W.heap.size + 2 ≤ y) (ev : V1 = V.putObj (W.heap.size + 1) o) (hb : Below V1.heap.size V1 V3) :
 zes W.heap.size T (fun y => S y ∨ y = W.heap.size + 2) (zax w W t id) (fun c T V => c = .ret ∧ zdg w W S t id T V) x r u V1 .normal aa V3 := by
 have hs1 : V1.heap.size = V.heap.size := by rw [ev]; simp [World.putObj]
 have hs3 := hb.size
 obtain ⟨h1, h2, h3, h4, h5⟩ := hI
 have hk : ∀ y, y < V.heap.size → y ≠ W.heap.size + 1 → V3.heap[y]? = V.heap[y]? := fun y hy hn => by rw [hb.block y (by omega), ev, World.putObj_heap_other hn]
 have hpos : ∀ y ∈ x :: r, 0 ≤ y.p := fun y hy => (hf.ok y hy).1
 refine ⟨⟨hs3, fun y o hy ho _ => (hb.block y (lt_of_heap ho)).trans ho⟩, ⟨hs3, fun y hy => hb.block y (by have := (hf.apart y hy).1; omega)⟩, fun y hy => hb.block y (by have := hf.sl y hy; omega), .inl ⟨rfl, fun a c => ⟨?_, ⟨hb.os.trans (by rw [ev]; exact h2.os), hb.tape.trans (by rw [ev]; exact h2.tape), hb.output.trans (by rw [ev]; exact h2.output), by have := h2.size; omega, fun y hy => (hk y (by have := h2.size; omega) (by omega)).trans (h2.block y hy)⟩, h3, by omega, fun y hy => (hk y (by omega) (by omega)).trans (h5 y hy)⟩⟩⟩
 rw [Yq id _ (fun y hy => by
  rcases List.mem_cons.1 hy with rfl | hy
  · simp
  · have := hpos y hy; omega), ← zgB (hf.ok x (by simp)) hu hne]
 exact h1
theorem zeb {w W V V1 V3 : World} {S T : Nat → Prop} {t : Tr} {id : Int} {rv : Value} {x : Fr} {r : List Fr} {u : Tr} {aa : Act} {o : Obj} (hwW : w.heap.size + 3 ≤ W.heap.size) (hf : qx V (fun y => S y ∨ y = W.heap.size + 2) t T rv (x :: r)) (hS : ∀ y, S y → y < w.heap.size) (hu : zz x.f x.p.toNat = some u) (hI : zax w W t id T (x :: r) V) (heq : u.id = id) (hT : ∀ y, T y → W.heap.size + 2 ≤ y) (ev : V1 = V.putObj (W.heap.size + 1) o) (hb : Below V1.heap.size V1 V3) {v0 : Value} (hc : W.heap[w.heap.size + 2]? = some (.cells #[v0] 165 (0, 0))) :
 zes W.heap.size T (fun y => S y ∨ y = W.heap.size + 2) (zax w W t id) (fun c T V => c = .ret ∧ zdg w W S t id T V) x r u V1 .ret aa (V3.setCell ⟨w.heap.size + 1 + 1, 0, none⟩ rv) := by
 have hs1 : V1.heap.size = V.heap.size := by rw [ev]; simp [World.putObj]
 have hs3 := hb.size
 obtain ⟨h1, h2, h3, h4, h5⟩ := hI
 have hb2 : ∀ y, y ≠ w.heap.size + 2 → (V3.setCell ⟨w.heap.size + 1 + 1, 0, none⟩ rv).heap[y]? = V3.heap[y]? := fun y hy => Below.heap_setCell _ _ _ _ hy
 have hk : ∀ y, y < V.heap.size → y ≠ W.heap.size + 1 → V3.heap[y]? = V.heap[y]? := fun y hy hn => by rw [hb.block y (by omega), ev, World.putObj_heap_other hn]
 have hsz : (V3.setCell ⟨w.heap.size + 1 + 1, 0, none⟩ rv).heap.size = V3.heap.size := by simp [World.setCell]
 have hT1 : ∀ y, T y → y ≠ w.heap.size + 2 ∧ y ≠ W.heap.size + 1 ∧ y < V.heap.size := fun y hy => by have := hT y hy; have := (hf.apart y hy).1; omega
 have hS1 : ∀ y, (S y ∨ y = W.heap.size + 2) → y ≠ w.heap.size + 2 ∧ y ≠ W.heap.size + 1 ∧ y < V.heap.size := fun y hy => by
  have := hf.sl y hy
  rcases hy with hy | hy
  · have := hS y hy; omega
  · omega
 have hc3 : V3.heap[w.heap.size + 2]? = some (.cells #[v0] 165 (0, 0)) := by rw [hk _ (by omega) (by omega), h5 _ (by omega)]; exact hc
 refine ⟨⟨by omega, fun y o hy ho _ => (hb2 y (by omega)).trans ((hb.block y (lt_of_heap ho)).trans ho)⟩, ⟨by omega, fun y hy => (hb2 y (hT1 y hy).1).trans (hb.block y (by have := (hT1 y hy).2.2; omega))⟩, fun y hy => (hb2 y (hS1 y hy).1).trans (hb.block y (by have := (hS1 y hy).2.2; omega)), .inr (.inl ⟨rfl, rfl, ⟨?_, ?_, ?_, by have := h2.size; omega, fun y hy => (hb2 y (by omega)).trans ((hk y (by have := h2.size; omega) (by omega)).trans (h2.block y hy))⟩, by omega, rv, x :: r, ?_, hf.kept (by omega) (fun y hy => (hb2 y (hT1 y hy).1).trans (hk y (hT1 y hy).2.2 (hT1 y hy).2.1)) (fun y hy => (hb2 y (hS1 y hy).1).trans (hk y (hS1 y hy).2.2 (hS1 y hy).2.1)), by simp, ?_⟩)⟩
 · show V3.os = _; rw [hb.os, ev]; exact h2.os
 · show V3.tape = _; rw [hb.tape, ev]; exact h2.tape
 · show V3.output = _; rw [hb.output, ev]; exact h2.output
 · have := heap_setCell_same V3 (w.heap.size + 2) 0 _ _ rv hc3
   rw [show w.heap.size + 1 + 1 = w.heap.size + 2 from rfl, this]; simp
 · rw [← h1]; exact zeR (hf.ok x (by simp)) hu heq
theorem zc4 (w : World) (S : Nat → Prop) (nv : Value) (t : Tr) (id : Int) (hS : ∀ x, S x → x < w.heap.size) (ht : zH w S nv t) (hsz : zg t.kids ≤ 400000) : Calls Try.prog 109 #[nv, .int .i64 id] w (zg3 w S t id) := by
 obtain ⟨ka, cap, rfl, hcap, hk⟩ := ht
 obtain ⟨n, hn⟩ : ∃ n, n = foLen t.kids := ⟨_, rfl⟩
 rw [← hn]
 have h0 := zi (zbM t ka n cap id) w
 have hb0 := zm (zbM t ka n cap id) w
 have hs0 := zx (zbM t ka n cap id) w
 have HA := hH (aN hb0 (aN (h0 1 _ rfl) (aN (h0 2 _ rfl) (aN (h0 3 _ rfl) hs0))))
 have H := hH (aN hS (aN hcap (aN hk (aN hsz hn))))
 clear hS hcap hk hsz hn h0 hb0 hs0
 refine (callsIn_wide (n := 8)).1 ?_
 refine callsIn_of_wp_marks Try.func109 rfl trivial ?_ rfl
 simp only [Try.ntmps109, List.size_toArray, List.length_cons, List.length_nil, Nat.reduceAdd, Nat.reduceSub, Array.replicate_succ, Array.replicate_zero, List.push_toArray, List.append_toArray, List.nil_append, List.cons_append]
 gi_wp2_with (refine ⟨trivial, ?_⟩; gi_at_call 122; refine (callsIn_wide.2 (zf7 _ _ _ _ _ _ _)).mono ?_; rintro e w' ⟨rfl, rfl⟩)
 change Code.wpIn _ _ _ _ _ _ (zq w (zbM t ka n cap id))
 generalize hW : zq w (zbM t ka n cap id) = W at HA ⊢
 clear hW
 obtain ⟨k0, k1, k2, k3, k4⟩ := HA.out
 have k4' : W.heap.size = w.heap.size + 4 := k4
 have hSl := H.out.1
 have hSW : ∀ y, S y → y < W.heap.size := fun y hy => by have := hSl y hy; omega
 have hkW : zC W S t.kids ka := H.out.2.2.1.kept fun y hy => ⟨hy, k0.block y (hSl y hy)⟩
 have k3' : W.heap[w.heap.size + 3]? = some (.cells #[.int .i64 t.id, .int .i64 t.kind, .string t.text, .slice ka (foLen t.kids) cap] 27 (0, 0)) := by rw [← H.out.2.2.2.2]; exact k3
 refine zcs (by omega) rfl t ka cap S hSW hkW H.out.2.1 H.out.2.2.2.1 k3' rfl
  (zax w W t id) (fun c T V => c = .ret ∧ zdg w W S t id T V) (fun h ht hwd => h.turn (by omega) ht hwd) (fun o o' h hT ho => ⟨h.1, h.2.put (by omega) hSW o o' hT⟩)
  ⟨?_, k0, fun _ h => h.elim, Nat.le_refl _, fun _ _ => rfl⟩ ?round ?done ?stop
 · rw [Yq id _ (fun y hy => by rw [List.mem_singleton] at hy; subst hy; simp), Q3]
   show (match fpi id 0 (zo 0 (zl t)) with | some q => some (places [] ++ q) | none => none) = _
   rw [qC]
   cases fpi id 0 (zl t) <;> rfl
 case done =>
  rintro D T V hD hI hK
  have hd := (hI.2.2.2.2 (w.heap.size + 2) (by omega)).trans k2
  have c0 : V.cell? ⟨w.heap.size + 1 + 1, 0, none⟩ = some (.slice none 0 0) := by rw [cell_of_row _ _ 0 _ _ _ hd]; rfl
  have cf : V.frozen? ⟨w.heap.size + 1 + 1, 0, none⟩ = false := frozen_of_row _ _ 0 _ _ hd
  have HE := hH (aN hI (aN hd (aN hD hK)))
  clear hI hd hK HA H k0 k1 k2 k3 k3' k4 hSW hkW
  gi_wp2
  obtain ⟨hI, hd, hD, hK⟩ := HE.out
  have hne : D ≠ w.heap.size + 1 + 1 := by omega
  refine ⟨by simp, .inl ⟨_, _, rfl, run_takeDeferred ((Below.heap_setCell V ⟨w.heap.size + 1 + 1, 0, none⟩ _ _ hne).trans hK), ?_⟩⟩
  have hg : ((V.setCell ⟨w.heap.size + 1 + 1, 0, none⟩ (.slice none 0 0)).putObj D (.deferred none)).cell? ⟨w.heap.size + 1 + 1, 0, none⟩ = some (.slice none 0 0) := by
   rw [World.cell?_of_block (w := V.setCell ⟨w.heap.size + 1 + 1, 0, none⟩ (.slice none 0 0)) (World.putObj_heap_other (Ne.symm hne))]
   exact World.cell?_setCell_same' V _ _ (by rw [c0]; rfl)
  refine ⟨_, Zb rfl _ _ (w.heap.size + 1 + 1) _ rfl hg (fun _ => by kernel_rfl), _, [], rfl, ⟨World.ownsRow_nil _ _ _ _, fun _ h => (by cases h), fun _ h => (by cases h), trivial, Or.inl ⟨rfl, hI.1.symm⟩, by simp, fun y hy => hy.2⟩, ⟨hI.2.1.os, hI.2.1.tape, hI.2.1.output, by have := hI.2.1.size; simp [World.putObj, World.setCell]; exact this, fun y hy => ?_⟩, fun g hg => (by cases hg)⟩
  rw [World.putObj_heap_other (by omega), Below.heap_setCell _ _ _ _ (by simp only; omega)]
  exact hI.2.1.block y hy
 case stop =>
  rintro D c T V hD hT ⟨rfl, h1, h2, rv, L, h3, h4, h5, h6⟩ hK
  have c0 : (V.putObj D (.deferred none)).cell? ⟨w.heap.size + 1 + 1, 0, none⟩ = some rv := by
   rw [World.cell?_of_block (World.putObj_heap_other (by simp only; omega)), cell_of_row _ _ 0 _ _ _ h3]; rfl
  have hend : zg3 w S t id (.returned rv) (V.putObj D (.deferred none)) := by
   have hs : (V.putObj D (.deferred none)).heap.size = V.heap.size := by simp [World.putObj]
   have hf := h4.kept (w' := V.putObj D (.deferred none)) (by omega) (fun y hy => World.putObj_heap_other (by have := hT y hy; omega)) (fun y hy => World.putObj_heap_other (by
    rcases hy with hy | hy
    · have := hSl y hy; omega
    · omega))
   refine ⟨rv, L, rfl, ⟨hf.rows, hf.ok, fun y hy => ⟨(hf.lies y hy).1.kept fun z hz => ⟨⟨hz.imp (fun h => h) (fun e => by omega), hf.sl z hz⟩, rfl⟩, (hf.lies y hy).2⟩, hf.chain, Or.inr ⟨h5, h6⟩, by have := hf.few; omega, fun y hy => hy.2⟩, ⟨h1.os, h1.tape, h1.output, by have := h1.size; omega, fun y hy => ?_⟩, fun g hg => by have := hT g (hf.own g hg); omega⟩
   rw [World.putObj_heap_other (by omega)]
   exact h1.block y hy
  have HE := hH (aN c0 hend)
  clear c0 hend h1 h2 h3 h4 h5 h6 HA H k0 k1 k2 k3 k3' k4 hSl hSW hkW
  gi_wp2
  refine ⟨by simp, .inl ⟨_, _, rfl, run_takeDeferred hK, ?_⟩⟩
  exact ⟨_, Zb rfl _ _ (w.heap.size + 1 + 1) _ rfl HE.out.1 (fun _ => by kernel_rfl), HE.out.2⟩
 case round =>
  rintro l hl T rv x r u V hT hV hf hu hI K hK
  obtain ⟨g, rc, k, p, u', b, off, kb, kc, rfl, hk', hkN, hkc, hTg, c0, c1, hxp, hpl, hpN, hu', hxa, hSb, d0, d3, hkk, hku⟩ := hf.here
  rw [hu] at hu'
  cases hu'
  obtain ⟨q, hq⟩ : ∃ q, q = foLen x.f := ⟨_, rfl⟩
  obtain ⟨uid, huid⟩ : ∃ uid, uid = u.id := ⟨_, rfl⟩
  rw [← hq] at c0 hpl hpN
  rw [← huid] at d0
  rw [hxa] at c0
  have HK := hH hK
  have hsz := H.out.2.2.2.1
  have HR := hH (aN hf (aN hu (aN hI (aN hT (aN hV (aN huid hl))))))
  have HC := hH (aN c0 (aN c1 d0))
  have hnode := fun X => zbh X b off q x.cap p hpl (by omega)
  have HN := hH hnode
  have hk00 : (0 : Int) ≤ (k : Int) := by omega
  have hkl : (k : Int) < (k : Int) + 1 := by omega
  have hkb : k ≤ 1000000 := by omega
  have hpb : p ≤ 1000000 := by omega
  have hkw : IntKind.i64.wrap (k : Int) = (k : Int) := IntWalk.i64_in _ (by omega)
  have hgl := World.block_lt_of_cell? _ _ c0
  have hbl := World.block_lt_of_cell? _ _ d0
  clear hf hu hI hT hV hK hq huid c0 c1 d0 d3 hkk hku hnode hxa hl hxp hk'
  gi_wp2
  refine HK.out _ fun V1 hV1 => ?_
  clear HK
  obtain ⟨o', ev, o, ho, hoc⟩ := hV1
  have hl := HR.out.2.2.2.2.2.2
  have hV1s : ∀ y, y ≠ W.heap.size + 1 → V1.heap[y]? = V.heap[y]? := fun y hy => by rw [ev, hl]; exact World.putObj_heap_other hy
  have hgT : g ≠ W.heap.size + 1 := by have := HR.out.2.2.2.1 g hTg; omega
  have hbT : b ≠ W.heap.size + 1 := by
   rcases hSb with hb | hb
   · have := hSW b hb; omega
   · omega
  have e0 : V1.cell? ⟨g, k * 2, none⟩ = some (.slice (some ⟨b, off, none⟩) q x.cap) := (World.cell?_of_block (hV1s g hgT)).trans HC.out.1
  have e1 : V1.cell? ⟨g, k * 2 + 1, none⟩ = some (.int .i64 (p : Int)) := (World.cell?_of_block (hV1s g hgT)).trans HC.out.2.1
  have e2 : V1.cell? ⟨b, off + p * 4, none⟩ = some (.int .i64 uid) := (World.cell?_of_block (hV1s b hbT)).trans HC.out.2.2
  have i0 : V1.cell? ⟨w.heap.size + 1, 0, none⟩ = some (.int .i64 id) := by rw [cell_of_row _ _ 0 _ _ _ ((hV1s _ (by omega)).trans ((HR.out.2.2.1.2.2.2.2 _ (by omega)).trans k1))]; rfl
  obtain ⟨SX, hSX⟩ : ∃ SX : World → Prop, SX = fun X => X.cell? ⟨g, k * 2, none⟩ = some (.slice (some ⟨b, off, none⟩) q x.cap) ∧ X.cell? ⟨g, k * 2 + 1, none⟩ = some (.int .i64 (p : Int)) ∧ X.cell? ⟨b, off + p * 4, none⟩ = some (.int .i64 uid) ∧ X.cell? ⟨w.heap.size + 1, 0, none⟩ = some (.int .i64 id) := ⟨_, rfl⟩
  have HSx : ∀ X, SX X → X.cell? ⟨g, k * 2, none⟩ = some (.slice (some ⟨b, off, none⟩) q x.cap) ∧ X.cell? ⟨g, k * 2 + 1, none⟩ = some (.int .i64 (p : Int)) ∧ X.cell? ⟨b, off + p * 4, none⟩ = some (.int .i64 uid) ∧ X.cell? ⟨w.heap.size + 1, 0, none⟩ = some (.int .i64 id) := fun X h => by rw [hSX] at h; exact h
  have hS0 : SX V1.drew := by rw [hSX]; exact ⟨e0, e1, e2, i0⟩
  have HSB : Hid (∀ X Y, SX X → Below X.heap.size X Y → SX Y) := hH fun X Y h hb => by
   rw [hSX] at h ⊢
   exact ⟨(hb.cell (World.block_lt_of_cell? _ _ h.1)).trans h.1, (hb.cell (World.block_lt_of_cell? _ _ h.2.1)).trans h.2.1, (hb.cell (World.block_lt_of_cell? _ _ h.2.2.1)).trans h.2.2.1, (hb.cell (World.block_lt_of_cell? _ _ h.2.2.2)).trans h.2.2.2⟩
  have HV1 := hH (aN ev hl)
  have HZ := hH (aN k0 (aN k2 (aN k4' (aN hSl hSW))))
  clear hSX e0 e1 e2 i0 HC ev ho hoc hl hV1s hgT hbT k0 k1 k2 k3 k3' k4 k4' hSl hSW hkW HA
  gi_wp2
  refine vG (S := SX) (by kernel_rfl) (Y8 (by kernel_rfl)) ?_
  have hHeld := hS0
  refine ze (i := 0) (oi := _) (v := .slice (some ⟨g, 0, none⟩) (k + 1) rc) rfl (by kernel_rfl) (by kernel_rfl) (by kernel_rfl) (fun _ _ _ h => h) (Or.inl ⟨by rfl, ?_⟩) hHeld ?_
  · clear hHeld; intro X hSw; obtain ⟨s0, s1, s2, s3⟩ := HSx X hSw; clear hSw; go_simp
  simp only [Act.put, pg]
  refine ze (i := 1) (oi := _) (v := .slice (some ⟨g, 0, none⟩) (k + 1) rc) rfl (by kernel_rfl) (by kernel_rfl) (by kernel_rfl) (fun _ _ _ h => h) (Or.inl ⟨by rfl, ?_⟩) hHeld ?_
  · clear hHeld; intro X hSw; obtain ⟨s0, s1, s2, s3⟩ := HSx X hSw; clear hSw; go_simp
  simp only [Act.put, pg]
  refine ze (i := 2) (oi := _) (v := .int .i64 ((k : Int) + 1)) rfl (by kernel_rfl) (by kernel_rfl) (by kernel_rfl) (fun _ _ _ h => h) (Or.inl ⟨by rfl, ?_⟩) hHeld ?_
  · clear hHeld; intro X hSw; obtain ⟨s0, s1, s2, s3⟩ := HSx X hSw; clear hSw; go_simp
  simp only [Act.put, pg]
  refine ze (i := 3) (oi := _) (v := .int .i64 (k : Int)) rfl (by kernel_rfl) (by kernel_rfl) (by kernel_rfl) (fun _ _ _ h => h) (Or.inl ⟨by rfl, ?_⟩) hHeld ?_
  · clear hHeld; intro X hSw; obtain ⟨s0, s1, s2, s3⟩ := HSx X hSw; clear hSw; go_simp
  simp only [Act.put, pg]
  refine ze (i := 4) (oi := _) (v := .pointer (some ⟨g, k * 2, none⟩)) rfl (by kernel_rfl) (by kernel_rfl) (by kernel_rfl) (fun _ _ _ h => h) (Or.inl ⟨by rfl, ?_⟩) hHeld ?_
  · clear hHeld; intro X hSw; obtain ⟨s0, s1, s2, s3⟩ := HSx X hSw; clear hSw; go_simp
  simp only [Act.put, pg]
  refine ze (i := 5) (oi := _) (v := .agg #[.slice (some ⟨b, off, none⟩) q x.cap, .int .i64 (p : Int)]) rfl (by kernel_rfl) (by kernel_rfl) (by kernel_rfl) (fun _ _ _ h => h) (Or.inl ⟨by rfl, ?_⟩) hHeld ?_
  · clear hHeld; intro X hSw; obtain ⟨s0, s1, s2, s3⟩ := HSx X hSw; clear hSw; go_simp
  simp only [Act.put, pg]
  refine ze (i := 10) (oi := _) (v := .int .i64 id) rfl (by kernel_rfl) (by kernel_rfl) (by kernel_rfl) (fun _ _ _ h => h) (Or.inl ⟨by rfl, ?_⟩) hHeld ?_
  · clear hHeld; intro X hSw; obtain ⟨s0, s1, s2, s3⟩ := HSx X hSw; clear hSw; go_simp
  simp only [Act.put, pg]
  refine zJ (i := 6) (o := _) (by kernel_rfl) rfl ?_
  intro K3 hK3
  rw [if_pos (by rfl)]
  simp only [pg3]
  have HK3 := hH hK3
  have HS0 := hH hS0
  clear hK3 hHeld hS0
  gi_wp2_with (refine ⟨trivial, ?_⟩; gi_at_call 123; refine (callsIn_wide.2 (HN.out _)).mono ?_; rintro e V3 ⟨rfl, hb3⟩; have HV3 := hH hb3; clear hb3)
  have hHeld := HSB.out _ V3 HS0.out HV3.out
  refine HK3.out _ _ hHeld ?_
  clear HK3 HS0
  refine ze (i := 7) (oi := _) (v := .pointer (some ⟨b, off + p * 4, none⟩)) rfl (by kernel_rfl) (by kernel_rfl) (by kernel_rfl) (fun _ _ _ h => h) (Or.inl ⟨by rfl, ?_⟩) hHeld ?_
  · clear hHeld; intro X hSw; obtain ⟨s0, s1, s2, s3⟩ := HSx X hSw; clear hSw; go_simp
  simp only [Act.put, pg]
  refine ze (i := 8) (oi := _) (v := .pointer (some ⟨b, off + p * 4, none⟩)) rfl (by kernel_rfl) (by kernel_rfl) (by kernel_rfl) (fun _ _ _ h => h) (Or.inl ⟨by rfl, ?_⟩) hHeld ?_
  · clear hHeld; intro X hSw; obtain ⟨s0, s1, s2, s3⟩ := HSx X hSw; clear hSw; go_simp
  simp only [Act.put, pg]
  refine ze (i := 9) (oi := _) (v := .int .i64 uid) rfl (by kernel_rfl) (by kernel_rfl) (by kernel_rfl) (fun _ _ _ h => h) (Or.inl ⟨by rfl, ?_⟩) hHeld ?_
  · clear hHeld; intro X hSw; obtain ⟨s0, s1, s2, s3⟩ := HSx X hSw; clear hSw; go_simp
  simp only [Act.put, pg]
  refine ze (i := 11) (oi := _) (v := .bool (uid == id)) rfl (by kernel_rfl) (by kernel_rfl) (by kernel_rfl) (fun _ _ _ h => h) (Or.inl ⟨by rfl, ?_⟩) hHeld ?_
  · clear hHeld; intro X hSw; obtain ⟨s0, s1, s2, s3⟩ := HSx X hSw; clear hSw; go_simp
  simp only [Act.put, pg]
  refine zY (by kernel_rfl) ?_ _
  clear hHeld HSx HSB
  have hb3 : Below V1.heap.size V1 V3 := ⟨HV3.out.os, HV3.out.tape, HV3.out.output, HV3.out.size, HV3.out.block⟩
  by_cases heq : uid = id
  · have hbq : (uid == id) = true := by simpa using heq
    rw [hbq]
    have hz : V3.heap[w.heap.size + 1 + 1]? = some (.cells #[.slice none 0 0] 165 (0, 0)) := by
     have h9 := HR.out.2.2.1
     rw [hb3.block _ (by rw [HV1.out.1]; have := HZ.out.2.2.1; have := h9.2.2.2.1; simp [World.putObj]; omega), HV1.out.1, HV1.out.2, World.putObj_heap_other (by have := HZ.out.2.2.1; omega), h9.2.2.2.2 _ (by have := HZ.out.2.2.1; omega)]
     exact HZ.out.2.1
    have z0 : V3.cell? ⟨w.heap.size + 1 + 1, 0, none⟩ = some (.slice none 0 0) := by rw [cell_of_row _ _ 0 _ _ _ hz]; rfl
    have zf : V3.frozen? ⟨w.heap.size + 1 + 1, 0, none⟩ = false := frozen_of_row _ _ 0 _ _ hz
    have HE := hH (fun aa => zeb (aa := aa) (by have := HZ.out.2.2.1; omega) HR.out.1 HZ.out.2.2.2.1 HR.out.2.1 HR.out.2.2.1 (by rw [← HR.out.2.2.2.2.2.1]; exact heq) HR.out.2.2.2.1 (by rw [← HV1.out.2]; exact HV1.out.1) hb3 HZ.out.2.1)
    clear hz hb3 heq hbq
    gi_wp2
    exact HE.out _
  · have hbq : (uid == id) = false := by simpa using heq
    rw [hbq]
    have HE := hH (fun aa => zgI (S := S) (aa := aa) (by have := HZ.out.2.2.1; omega) HR.out.1 HR.out.2.1 HR.out.2.2.1 (by rw [← HR.out.2.2.2.2.2.1]; exact heq) HR.out.2.2.2.1 (by rw [← HV1.out.2]; exact HV1.out.1) hb3)
    clear hb3 heq hbq
    gi_wp2
    exact HE.out _
end Go.Proofs.Ytgkmmnihaiopaaa
