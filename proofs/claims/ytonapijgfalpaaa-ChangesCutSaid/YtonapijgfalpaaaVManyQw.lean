/-
  .
-/
import Derived.Test.YtonapijgfalpaaaRows
import Derived.WalkKit
import Derived.WalkSpells
import Derived.WalkLawsBesides
import Derived.Lib.Hide
import Derived.Test.YtonapijgfalpaaaRSameQw
import Derived.Test.YtonapijgfalpaaaVRangeQw
import Derived.Test.YtonapijgfalpaaaKPathQw
import Derived.Deep.RegionHeld3
import Derived.StillTailTactics
import Derived.ProofKit
import Derived.OpenShut
import Derived.Deep.Slices
import Derived.Deep.Strs
import Derived.Lib.SmallJoins
import Derived.Laws.BytesArg
set_option linter.unusedVariables false
set_option linter.unusedSimpArgs false
namespace Go.Proofs.Ytonapijgfalpaaa
open Go.RowKit
structure Sl where
 kinds : List Int
 least : Int
 most : Int
structure Kd where
 name : ByteArray
 text : Bool
 slots : List Sl
structure Gr where
 kinds : List Kd
 root : Int
instance : Inhabited Sl := ⟨⟨[], 0, 0⟩⟩
instance : Inhabited Kd := ⟨⟨⟨#[]⟩, false, []⟩⟩
def IntsAt (w : World) (a : Option Addr) (l : List Int) : Prop :=
 0 < l.length → ∃ b off, a = some ⟨b, off, none⟩ ∧ b < w.heap.size ∧ ∀ k x, l[k]? = some x → w.cell? ⟨b, off + k, none⟩ = some (.int .i64 x)
def SlotIn (w : World) (b o : Nat) (s : Sl) : Prop :=
 ∃ ka kc, w.cell? ⟨b, o, none⟩ = some (.slice ka s.kinds.length kc) ∧ w.cell? ⟨b, o + 1, none⟩ = some (.int .i64 s.least) ∧ w.cell? ⟨b, o + 2, none⟩ = some (.int .i64 s.most) ∧ IntsAt w ka s.kinds
def SlotsAt (w : World) (a : Option Addr) (l : List Sl) : Prop :=
 0 < l.length → ∃ b off, a = some ⟨b, off, none⟩ ∧ b < w.heap.size ∧ ∀ k s, l[k]? = some s → SlotIn w b (off + k * 3) s
def KindIn (w : World) (b o : Nat) (k : Kd) : Prop :=
 ∃ sa sc, w.cell? ⟨b, o, none⟩ = some (.string k.name) ∧ w.cell? ⟨b, o + 1, none⟩ = some (.bool k.text) ∧ w.cell? ⟨b, o + 2, none⟩ = some (.slice sa k.slots.length sc) ∧ SlotsAt w sa k.slots
def KindsAt (w : World) (a : Option Addr) (l : List Kd) : Prop :=
 0 < l.length → ∃ b off, a = some ⟨b, off, none⟩ ∧ b < w.heap.size ∧ ∀ k x, l[k]? = some x → KindIn w b (off + k * 3) x
theorem IntsAt.below {w w' : World} {a : Option Addr} {l : List Int} (h : IntsAt w a l) (hb : Below w.heap.size w w') : IntsAt w' a l := fun h0 => by
 obtain ⟨b, off, e, hlt, hc⟩ := h h0
 exact ⟨b, off, e, Nat.lt_of_lt_of_le hlt hb.size, fun k x hx => (World.cell?_of_block (hb.block _ hlt)).trans (hc k x hx)⟩
theorem SlotIn.below {w w' : World} {b o : Nat} {s : Sl} (h : SlotIn w b o s) (hlt : b < w.heap.size) (hb : Below w.heap.size w w') : SlotIn w' b o s := by
 obtain ⟨ka, kc, h0, h1, h2, h3⟩ := h
 have e : ∀ j, w'.cell? ⟨b, j, none⟩ = w.cell? ⟨b, j, none⟩ := fun j => World.cell?_of_block (hb.block _ hlt)
 exact ⟨ka, kc, (e _).trans h0, (e _).trans h1, (e _).trans h2, h3.below hb⟩
theorem SlotsAt.below {w w' : World} {a : Option Addr} {l : List Sl} (h : SlotsAt w a l) (hb : Below w.heap.size w w') : SlotsAt w' a l := fun h0 => by
 obtain ⟨b, off, e, hlt, hc⟩ := h h0
 exact ⟨b, off, e, Nat.lt_of_lt_of_le hlt hb.size, fun k x hx => (hc k x hx).below hlt hb⟩
theorem KindIn.below {w w' : World} {b o : Nat} {k : Kd} (h : KindIn w b o k) (hlt : b < w.heap.size) (hb : Below w.heap.size w w') : KindIn w' b o k := by
 obtain ⟨sa, sc, h0, h1, h2, h3⟩ := h
 have e : ∀ j, w'.cell? ⟨b, j, none⟩ = w.cell? ⟨b, j, none⟩ := fun j => World.cell?_of_block (hb.block _ hlt)
 exact ⟨sa, sc, (e _).trans h0, (e _).trans h1, (e _).trans h2, h3.below hb⟩
theorem KindsAt.below {w w' : World} {a : Option Addr} {l : List Kd} (h : KindsAt w a l) (hb : Below w.heap.size w w') : KindsAt w' a l := fun h0 => by
 obtain ⟨b, off, e, hlt, hc⟩ := h h0
 exact ⟨b, off, e, Nat.lt_of_lt_of_le hlt hb.size, fun k x hx => (hc k x hx).below hlt hb⟩
def SlotV (w : World) (v : Value) (s : Sl) : Prop := ∃ ka kc, v = .agg #[.slice ka s.kinds.length kc, .int .i64 s.least, .int .i64 s.most] ∧ IntsAt w ka s.kinds
def KindV (w : World) (v : Value) (k : Kd) : Prop := ∃ sa sc, v = .agg #[.string k.name, .bool k.text, .slice sa k.slots.length sc] ∧ SlotsAt w sa k.slots
def GrV (w : World) (v : Value) (g : Gr) : Prop := ∃ ka kc, v = .agg #[.slice ka g.kinds.length kc, .int .i64 g.root] ∧ KindsAt w ka g.kinds
theorem GrV.below {w w' : World} {v : Value} {g : Gr} (h : GrV w v g) (hb : Below w.heap.size w w') : GrV w' v g := by obtain ⟨ka, kc, e, h1⟩ := h; exact ⟨ka, kc, e, h1.below hb⟩
theorem slotV {w : World} {s : Sl} {ka : Option Addr} {kc : Nat} (h : IntsAt w ka s.kinds) : SlotV w (.agg #[.slice ka s.kinds.length kc, .int .i64 s.least, .int .i64 s.most]) s := ⟨ka, kc, rfl, h⟩
theorem kindV {w : World} {k : Kd} {sa : Option Addr} {sc : Nat} (h : SlotsAt w sa k.slots) : KindV w (.agg #[.string k.name, .bool k.text, .slice sa k.slots.length sc]) k := ⟨sa, sc, rfl, h⟩
theorem grV {w : World} {l : List Kd} {root : Int} {ka : Option Addr} {kc : Nat} (h : KindsAt w ka l) : GrV w (.agg #[.slice ka l.length kc, .int .i64 root]) ⟨l, root⟩ := ⟨ka, kc, rfl, h⟩
def Sl.fits (s : Sl) : Prop := (s.kinds.length : Int) ≤ 9223372036854775807
def Kd.fits (k : Kd) : Prop := (k.name.size : Int) ≤ 9223372036854775807 ∧ (k.slots.length : Int) ≤ 9223372036854775807 ∧ ∀ s ∈ k.slots, s.fits
def Gr.fits (g : Gr) : Prop := (g.kinds.length : Int) ≤ 9223372036854775807 ∧ ∀ k ∈ g.kinds, k.fits
def Sl.few (s : Sl) : Prop := s.kinds.length ≤ 1000000
def Kd.few (k : Kd) : Prop := k.name.size ≤ 1000000 ∧ k.slots.length ≤ 1000000 ∧ ∀ s ∈ k.slots, s.few
def Gr.few (g : Gr) : Prop := g.kinds.length ≤ 1000000 ∧ ∀ k ∈ g.kinds, k.few
def Says (b : Bool) (w : World) (e : Ending) (w' : World) : Prop := e = .returned (.bool b) ∧ Below w.heap.size w w'
theorem Says.mk {b c : Bool} {w w' : World} (h : b = c) (hb : Below w.heap.size w w') : Says b w (.returned (.bool c)) w' := ⟨by rw [h], hb⟩
def Counts (n : Int) (w : World) (e : Ending) (w' : World) : Prop := e = .returned (.int .i64 n) ∧ Below w.heap.size w w'
end Go.Proofs.Ytonapijgfalpaaa
namespace Go.Proofs.Ytonapijgfalpaaa
open Go.RowKit Go.Shelf
attribute [local go_sem] Oper.semAt_some
theorem results_cellB {P : Program} {fn : Func} {p : Tmp} {tb : TypeId} (h : fn.results = #[.cell p tb]) (tmps : Array Value) (w : World) (g : Nat) (b : Bool) (hp : tmps.getD p undef = .pointer (some ⟨g, 0, none⟩)) (hc : w.cell? ⟨g, 0, none⟩ = some (.bool b)) (hb : ∀ w, (isAgg tb).run P w = .ok false w) :
 (results fn tmps).run P w = .ok (.bool b) w := by
 have hp' : tmps[p]?.getD undef = .pointer (some ⟨g, 0, none⟩) := by simpa using hp
 have hl : (loadVar tb ⟨g, 0, none⟩).run P w = .ok (.bool b) w := by simp [go_sem, hc, hb, Result.andThen]
 simp [results, h, hp', asAddr, hl]
theorem boxN {w : World} {b : Nat} {c0 c1 c2 c3 : Value} (h : w.heap[b]? = some (.cells #[c0, c1, c2, c3] 24 (0, 0))) : w.cell? ⟨b, 0, none⟩ = some c0 ∧ w.cell? ⟨b, 1, none⟩ = some c1 ∧ w.cell? ⟨b, 2, none⟩ = some c2 ∧ w.cell? ⟨b, 3, none⟩ = some c3 :=
 ⟨by rw [cell_of_row _ _ 0 _ _ _ h]; rfl, by rw [cell_of_row _ _ 1 _ _ _ h]; rfl, by rw [cell_of_row _ _ 2 _ _ _ h]; rfl, by rw [cell_of_row _ _ 3 _ _ _ h]; rfl⟩
set_option maxRecDepth 100000 in
theorem walk_fnV (w : World) (c0 c1 : Int) (c2 : ByteArray) (ka : Option Addr) (n c : Nat) : Calls Try.prog 151 #[.agg #[.int .i64 c0, .int .i64 c1, .string c2, .slice ka n c]] w fun e w' => e = .returned (.func (.func 177) #[] #[.pointer (some ⟨w.heap.size, 0, none⟩)]) ∧ w.alloc (.cells #[.int .i64 c0, .int .i64 c1, .string c2, .slice ka n c] 24) = w' := by
 have hmf : ∀ W : World, (Instr.makeFunc (.func 177) #[] #[.pointer (some ⟨w.heap.size, 0, none⟩)]).run Try.prog W = .ok (.func (.func 177) #[] #[.pointer (some ⟨w.heap.size, 0, none⟩)]) W := fun _ => rfl
 go_enter Try.func151, Try.ntmps151
 go_wp2_with fail
 go_ret
 exact ⟨rfl, rfl⟩
def ManyI (W : World) (nb : Nat) (pre : List Sp) (V : World) : Prop := Touched W V (fun y => y = nb + 2) ∧ V.heap[nb + 2]? = some (.cells #[.int .i64 (pre.length : Int)] 3 (0, 0)) ∧ pre.length ≤ 200
def ManyX (W : World) (nb : Nat) (tot : List Sp) (c : Code) (V : World) : Prop := c = .ret ∧ Touched W V (fun y => y = nb + 1 ∨ y = nb + 2) ∧ V.heap[nb + 1]? = some (.cells #[.bool true] 4 (0, 0)) ∧ 200 < tot.length
theorem touched_more {W V V' : World} {S : Nat → Prop} (h : Touched W V S) (hb : Below W.heap.size V V') : Touched W V' S :=
 ⟨hb.os.trans h.os, hb.tape.trans h.tape, hb.output.trans h.output, Nat.le_trans h.size hb.size, fun k hk hn => (hb.block k hk).trans (h.block k hk hn)⟩
theorem many_end {w W V : World} {nb D : Nat} (h0 : Below w.heap.size w W) (h2 : Touched W V (fun y => y = nb + 1 ∨ y = nb + 2)) (k3 : ∃ x, V.heap[nb + 1]? = some (.cells #[.bool x] 4 (0, 0))) (hn : nb = w.heap.size) (hK : V.heap[D]? = some (.deferred (some []))) (hD : nb + 3 ≤ D) (b : Bool) :
 (V.setCell ⟨nb + 1, 0, none⟩ (.bool b)).heap[D]? = some (.deferred (some [])) ∧ ((V.setCell ⟨nb + 1, 0, none⟩ (.bool b)).putObj D (.deferred none)).cell? ⟨nb + 1, 0, none⟩ = some (.bool b) ∧ Below w.heap.size w ((V.setCell ⟨nb + 1, 0, none⟩ (.bool b)).putObj D (.deferred none)) := by
 obtain ⟨x, k3⟩ := k3
 have hs0 := h0.size
 have hs2 := h2.size
 have hk : ∀ y, y ≠ nb + 1 → (V.setCell ⟨nb + 1, 0, none⟩ (.bool b)).heap[y]? = V.heap[y]? := fun y hy => Below.heap_setCell _ _ _ _ hy
 refine ⟨(hk D (by omega)).trans hK, ?_, h2.os.trans h0.os, h2.tape.trans h0.tape, h2.output.trans h0.output, by simp [World.putObj, World.setCell]; omega, fun y hy => ?_⟩
 · have e : ((V.setCell ⟨nb + 1, 0, none⟩ (.bool b)).putObj D (.deferred none)).heap[nb + 1]? = some (.cells #[.bool b] 4 (0, 0)) := by
    rw [World.putObj_heap_other (by omega), heap_setCell_same V (nb + 1) 0 _ _ _ k3]; simp
   rw [cell_of_row _ _ 0 _ _ _ e]; rfl
 · rw [World.putObj_heap_other (by omega), hk y (by omega), h2.block y (by omega) (by omega), h0.block y hy]
theorem many_stop {w W V : World} {nb D : Nat} (h0 : Below w.heap.size w W) (h2 : Touched W V (fun y => y = nb + 1 ∨ y = nb + 2)) (k3 : V.heap[nb + 1]? = some (.cells #[.bool true] 4 (0, 0))) (hn : nb = w.heap.size) (hD : nb + 3 ≤ D) :
 (V.putObj D (.deferred none)).cell? ⟨nb + 1, 0, none⟩ = some (.bool true) ∧ Below w.heap.size w (V.putObj D (.deferred none)) := by
 have hs0 := h0.size
 have hs2 := h2.size
 refine ⟨?_, h2.os.trans h0.os, h2.tape.trans h0.tape, h2.output.trans h0.output, by simp [World.putObj]; omega, fun y hy => ?_⟩
 · have e : (V.putObj D (.deferred none)).heap[nb + 1]? = some (.cells #[.bool true] 4 (0, 0)) := (World.putObj_heap_other (by omega)).trans k3
   rw [cell_of_row _ _ 0 _ _ _ e]; rfl
 · rw [World.putObj_heap_other (by omega), h2.block y (by omega) (by omega), h0.block y hy]
set_option maxRecDepth 100000 in
set_option maxHeartbeats 2000000 in
theorem tooMany_any (w : World) (S : Nat → Prop) (nv : Value) (t : Tr) (hS : ∀ x, S x → x < w.heap.size) (ht : TrAt w S nv t) (hsz : foSize t.kids + 1 ≤ 500000) : Calls Try.prog 111 #[nv] w (Says (decide (200 < foSize t.kids + 1)) w) := by
 obtain ⟨ka, cap, rfl, hcap, hk⟩ := ht
 obtain ⟨n, hn⟩ : ∃ n, n = foLen t.kids := ⟨_, rfl⟩
 rw [← hn]
 obtain ⟨nb, hnb⟩ : ∃ nb, nb = w.heap.size := ⟨_, rfl⟩
 have hal := allocs_at [.cells #[.int .i64 t.id, .int .i64 t.kind, .string t.text, .slice ka n cap] 24, .cells #[.bool false] 4, .cells #[.int .i64 0] 3, .cells #[.int .i64 t.id, .int .i64 t.kind, .string t.text, .slice ka n cap] 24] w
 have hab := allocs_below [.cells #[.int .i64 t.id, .int .i64 t.kind, .string t.text, .slice ka n cap] 24, .cells #[.bool false] 4, .cells #[.int .i64 0] 3, .cells #[.int .i64 t.id, .int .i64 t.kind, .string t.text, .slice ka n cap] 24] w
 have has := allocs_size [.cells #[.int .i64 t.id, .int .i64 t.kind, .string t.text, .slice ka n cap] 24, .cells #[.bool false] 4, .cells #[.int .i64 0] 3, .cells #[.int .i64 t.id, .int .i64 t.kind, .string t.text, .slice ka n cap] 24] w
 have HA := Lib.hid (And.intro hab (And.intro (hal 1 _ rfl) (And.intro (hal 2 _ rfl) (And.intro (hal 3 _ rfl) has))))
 have H := Lib.hid (And.intro hS (And.intro hcap (And.intro hk (And.intro hsz (And.intro hn hnb)))))
 clear hS hcap hk hsz hn hnb hal hab has
 refine (callsIn_wide (n := 8)).1 ?_
 refine callsIn_of_wp_marks Try.func111 rfl trivial ?_ rfl
 simp only [Try.ntmps111, List.size_toArray, List.length_cons, List.length_nil, Nat.reduceAdd, Nat.reduceSub, Array.replicate_succ, Array.replicate_zero, List.push_toArray, List.append_toArray, List.nil_append, List.cons_append]
 gi_wp2_with (refine ⟨trivial, ?_⟩; gi_at_call 151; refine (callsIn_wide.2 (walk_fnV _ _ _ _ _ _ _)).mono ?_; rintro e w' ⟨rfl, rfl⟩)
 change Code.wpIn _ _ _ _ _ _ (allocs w [.cells #[.int .i64 t.id, .int .i64 t.kind, .string t.text, .slice ka n cap] 24, .cells #[.bool false] 4, .cells #[.int .i64 0] 3, .cells #[.int .i64 t.id, .int .i64 t.kind, .string t.text, .slice ka n cap] 24])
 generalize hW : allocs w _ = W at HA ⊢
 clear hW
 rw [← H.out.2.2.2.2.2]
 obtain ⟨k0, k1, k2, k3, k4⟩ := HA.out
 rw [← H.out.2.2.2.2.2] at k1 k2 k3 k4
 have k4' : W.heap.size = nb + 4 := k4
 have hwn := H.out.2.2.2.2.2
 have hnode : NodeAtV W (fun x => S x ∨ x = nb + 3) t (nb + 3) := ⟨ka, cap, Or.inr rfl, by rw [k3, H.out.2.2.2.2.1], H.out.2.1, H.out.2.2.1.kept fun x hx => ⟨Or.inl hx, k0.block x (H.out.1 x hx)⟩⟩
 refine range_p (by omega) rfl (fun x => S x ∨ x = nb + 3) t hnode (fun x hx => by rcases hx with hx | hx; have := H.out.1 x hx; omega; omega) H.out.2.2.2.1 rfl (ManyI W nb) (ManyX W nb (spF 1 (rootF t))) (fun h hb => ⟨touched_more h.1 hb, (hb.block _ (by omega)).trans h.2.1, h.2.2⟩) (fun h hb => ⟨h.1, touched_more h.2.1 hb, (hb.block _ (by omega)).trans h.2.2.1, h.2.2.2⟩) ⟨Touched.refl _ _, k2, by simp⟩ ?round ?done ?stop
 case done =>
  rintro D V hD ⟨h1, h2, h3⟩ hK
  have e1 : V.heap[nb + 1]? = some (.cells #[.bool false] 4 (0, 0)) := (h1.block _ (by omega) (by omega)).trans k1
  have b0 : V.cell? ⟨nb + 1, 0, none⟩ = some (.bool false) := by rw [cell_of_row _ _ 0 _ _ _ e1]; rfl
  have f0 : V.frozen? ⟨nb + 1, 0, none⟩ = false := frozen_of_row _ _ 0 _ _ e1
  have HE := Lib.hid (many_end k0 ⟨h1.os, h1.tape, h1.output, h1.size, fun k hk hn => h1.block k hk (fun e => hn (Or.inr e))⟩ ⟨_, e1⟩ hwn hK (by omega) false)
  have HB := Lib.hid (show decide (200 < foSize t.kids + 1) = false by rw [spF_length, rootF_size] at h3; exact decide_eq_false (by omega))
  clear h1 h2 h3 e1 hD k0 k1 k2 k3 k4 k4' hwn hnode HA H
  gi_wp2
  obtain ⟨q1, q2, q3⟩ := HE.out
  refine ⟨by simp, .inl ⟨_, _, rfl, run_takeDeferred q1, ?_⟩⟩
  exact ⟨_, results_cellB rfl _ _ _ false rfl q2 (fun _ => by kernel_rfl), by rw [HB.out], q3⟩
 case stop =>
  rintro D c V hD ⟨rfl, h1, h2, h3⟩ hK
  have HE := Lib.hid (many_stop k0 h1 h2 hwn (D := D) (by omega))
  have HB := Lib.hid (show decide (200 < foSize t.kids + 1) = true by rw [spF_length, rootF_size] at h3; exact decide_eq_true (by omega))
  clear h1 h2 h3 hD k0 k1 k2 k3 k4 k4' hwn hnode HA H
  gi_wp2
  obtain ⟨q2, q3⟩ := HE.out
  refine ⟨by simp, .inl ⟨_, _, rfl, run_takeDeferred hK, ?_⟩⟩
  exact ⟨_, results_cellB rfl _ _ _ true rfl q2 (fun _ => by kernel_rfl), by rw [HB.out], q3⟩
 case round =>
  rintro l hl pre rest d key k V b off kc ka2 htot hV ⟨h1, h2, h3⟩ hSb d0 d1 d2 d3 dc dk K hK
  obtain ⟨np, hnp⟩ : ∃ np, np = pre.length := ⟨_, rfl⟩
  rw [← hnp] at h2 h3
  have hlt : np + 1 ≤ (spF 1 (rootF t)).length := by rw [htot, hnp]; simp
  have hn1 : V.heap[nb + 1]? = some (.cells #[.bool false] 4 (0, 0)) := (h1.block _ (by omega) (by omega)).trans k1
  have HR := Lib.hid (And.intro h1 (And.intro h2 (And.intro hlt (And.intro hV (And.intro hl (And.intro hnp hn1))))))
  have HK := Lib.hid hK
  have HZ := Lib.hid (And.intro k4' hwn)
  clear h1 h2 hlt hV hl hnp hn1 hK htot hSb d0 d1 d2 d3 dc dk k0 k1 k2 k3 k4 k4' hwn hnode
  gi_wp2
  refine HK.out _ V (Below.refl _ _) fun V1 hV1 => ?_
  clear HK
  obtain ⟨o', ev, o, ho, hoc⟩ := hV1
  have hk1 : ∀ y, y ≠ l → V1.heap[y]? = V.heap[y]? := fun y hy => by rw [ev]; exact World.putObj_heap_other hy
  have hs1 : V1.heap.size = V.heap.size := by rw [ev]; simp [World.putObj]
  have hlW : l = nb + 5 := by have := HR.out.2.2.2.2.1; have := HZ.out.1; omega
  have hc2 : V1.heap[nb + 2]? = some (.cells #[.int .i64 (np : Int)] 3 (0, 0)) := (hk1 _ (by omega)).trans HR.out.2.1
  have hc1 : V1.heap[nb + 1]? = some (.cells #[.bool false] 4 (0, 0)) := (hk1 _ (by omega)).trans HR.out.2.2.2.2.2.2
  have c2 : V1.cell? ⟨nb + 1 + 1, 0, none⟩ = some (.int .i64 (np : Int)) := by rw [cell_of_row _ _ 0 _ _ _ hc2]; rfl
  have f2 : V1.frozen? ⟨nb + 1 + 1, 0, none⟩ = false := frozen_of_row _ _ 0 _ _ hc2
  obtain ⟨V2, hV2⟩ : ∃ V2, V2 = V1.setCell ⟨nb + 1 + 1, 0, none⟩ (.int .i64 ((np : Int) + 1)) := ⟨_, rfl⟩
  have hk2 : ∀ y, y ≠ nb + 2 → V2.heap[y]? = V1.heap[y]? := fun y hy => by rw [hV2]; exact Below.heap_setCell _ _ _ _ hy
  have hc22 : V2.heap[nb + 2]? = some (.cells #[.int .i64 ((np : Int) + 1)] 3 (0, 0)) := by rw [hV2, heap_setCell_same V1 (nb + 1 + 1) 0 _ _ _ hc2]; simp
  have hc12 : V2.heap[nb + 1]? = some (.cells #[.bool false] 4 (0, 0)) := (hk2 _ (by omega)).trans hc1
  have hs2 : V2.heap.size = V1.heap.size := by rw [hV2]; simp [World.setCell]
  have ht2 : Touched W V2 (fun y => y = nb + 2) := by
   have h1 := HR.out.1
   refine ⟨by rw [hV2, ev]; exact h1.os, by rw [hV2, ev]; exact h1.tape, by rw [hV2, ev]; exact h1.output, by have := h1.size; omega, fun y hy hn => ?_⟩
   rw [hk2 y hn, hk1 y (by have := HZ.out.1; omega), h1.block y hy hn]
  have hS2 : ∀ y, (W.heap.size ≤ y ∨ (S y ∨ y = nb + 3)) → V2.heap[y]? = V1.heap[y]? := fun y hy => hk2 y (by
   rcases hy with hy | hy | hy
   · have := HZ.out.1; omega
   · have := H.out.1 y hy; have := HZ.out.2; omega
   · omega)
  by_cases hbig : 200 < np + 1
  · have hbi : (200 : Int) < (np : Int) + 1 := by omega
    have b1 : (V1.setCell ⟨nb + 1 + 1, 0, none⟩ (.int .i64 ((np : Int) + 1))).cell? ⟨nb + 1, 0, none⟩ = some (.bool false) := by rw [← hV2, cell_of_row _ _ 0 _ _ _ hc12]; rfl
    have g1 : (V1.setCell ⟨nb + 1 + 1, 0, none⟩ (.int .i64 ((np : Int) + 1))).frozen? ⟨nb + 1, 0, none⟩ = false := by rw [← hV2]; exact frozen_of_row _ _ 0 _ _ hc12
    have hend : ∀ aa : Act, LeftP W.heap.size (fun x => S x ∨ x = nb + 3) (ManyI W nb) (ManyX W nb (spF 1 (rootF t))) (pre ++ [(d, key, k)]) V1 .ret aa ((V1.setCell ⟨nb + 1 + 1, 0, none⟩ (.int .i64 ((np : Int) + 1))).setCell ⟨nb + 1, 0, none⟩ (.bool true)) := fun aa => by
     rw [← hV2]
     have hk3 : ∀ y, y ≠ nb + 1 → (V2.setCell ⟨nb + 1, 0, none⟩ (.bool true)).heap[y]? = V2.heap[y]? := fun y hy => Below.heap_setCell _ _ _ _ hy
     refine ⟨⟨by simp [World.setCell, hs2], fun y hy hyl => ?_⟩, .inr (.inl ⟨rfl, rfl, ⟨ht2.os, ht2.tape, ht2.output, by simp [World.setCell]; exact ht2.size, fun y hy hn => ?_⟩, ?_, by have := HR.out.2.2.1; omega⟩)⟩
     · rw [hk3 y (by
        rcases hy with hy | hy | hy
        · have := HZ.out.1; omega
        · have := H.out.1 y hy; have := HZ.out.2; omega
        · omega), hS2 y hy]
     · rw [hk3 y (fun e => hn (Or.inl e)), ht2.block y hy (fun e => hn (Or.inr e))]
     · rw [heap_setCell_same V2 (nb + 1) 0 _ _ _ hc12]; simp
    have HE := Lib.hid hend
    clear hend hk1 hs1 hc2 hc1 hV2 hk2 hc22 hc12 hs2 ht2 hS2 ev ho hoc hlW hbig
    gi_wp2
    exact HE.out _
  · have hbi : ¬ (200 : Int) < (np : Int) + 1 := by omega
    have hend : ∀ aa : Act, LeftP W.heap.size (fun x => S x ∨ x = nb + 3) (ManyI W nb) (ManyX W nb (spF 1 (rootF t))) (pre ++ [(d, key, k)]) V1 .normal aa (V1.setCell ⟨nb + 1 + 1, 0, none⟩ (.int .i64 ((np : Int) + 1))) := fun aa => by
     rw [← hV2]
     refine ⟨⟨by omega, fun y hy hyl => hS2 y hy⟩, .inl ⟨rfl, ht2, ?_, ?_⟩⟩
     · rw [hc22, List.length_append, ← HR.out.2.2.2.2.2.1]; rfl
     · rw [List.length_append, ← HR.out.2.2.2.2.2.1]; simp only [List.length_cons, List.length_nil]; omega
    have HE := Lib.hid hend
    clear hend hk1 hs1 hc2 hc1 hV2 hk2 hc22 hc12 hs2 ht2 hS2 ev ho hoc hlW hbig
    gi_wp2
    exact HE.out _
end Go.Proofs.Ytonapijgfalpaaa
namespace Go.Proofs.Ytonapijgfalpaaa
open Go.RowKit
def greatS (s : Sl) : Bool := decide (40 < s.kinds.length)
def greatK (k : Kd) : Bool := decide (200 < k.name.size) || decide (20 < k.slots.length) || k.slots.any greatS
def greatG (g : Gr) : Bool := decide (40 < g.kinds.length) || g.kinds.any greatK
theorem drop_cons {α : Type} {l : List α} {k : Nat} {x : α} (h : l[k]? = some x) : l.drop k = x :: l.drop (k + 1) := by
 obtain ⟨hk, rfl⟩ := List.getElem?_eq_some_iff.1 h
 exact List.drop_eq_getElem_cons hk
theorem any_step {α : Type} {f : α → Bool} {l : List α} {k : Nat} {x : α} {r : Bool} (hr : r = (l.drop k).any f) (h : l[k]? = some x) : r = (f x || (l.drop (k + 1)).any f) := by rw [hr, drop_cons h]; rfl
theorem any_end {α : Type} {f : α → Bool} {l : List α} {k : Nat} {r : Bool} (hr : r = (l.drop k).any f) (h : l.length ≤ k) : r = false := by rw [hr, List.drop_eq_nil_of_le h]; rfl
def GreatR (w : World) (c : Array Value) (l : List Kd) (i : Value) (wr : World) : Prop :=
 ∃ k : Nat, k ≤ l.length ∧ i = .int .i64 k ∧ wr.heap[w.heap.size]? = some (.cells c 55 (0, 0)) ∧ Below w.heap.size w wr ∧ l.any greatK = (l.drop k).any greatK
def GreatR2 (W : World) (l : List Sl) (j : Value) (wr : World) : Prop :=
 ∃ k : Nat, k ≤ l.length ∧ j = .int .i64 k ∧ W = wr ∧ l.any greatS = (l.drop k).any greatS
set_option maxRecDepth 100000 in
set_option maxHeartbeats 1000000 in
theorem great_anyV (w : World) (v : Value) (g : Gr) (hv : GrV w v g) (hf : g.fits) : Calls Try.prog 33 #[v] w (Says (greatG g) w) := by
 obtain ⟨ka, kc, rfl, hk⟩ := hv
 obtain ⟨l, root⟩ := g
 simp only at hk hf ⊢
 have hfl : (l.length : Int) ≤ 9223372036854775807 := hf.1
 have HF := Lib.hid hf.2
 have HK := Lib.hid hk
 clear hf hk
 by_cases h40 : 40 < l.length
 · have h40' : (40 : Int) < (l.length : Int) := by omega
   have HG := Lib.hid (show greatG ⟨l, root⟩ = true by simp [greatG, h40])
   go_enter Try.func33, Try.ntmps33
   go_wp2_with fail
   go_ret
   exact Says.mk HG.out (box_below _ _)
 · have h40' : ¬ (40 : Int) < (l.length : Int) := by omega
   have HG := Lib.hid (show greatG ⟨l, root⟩ = l.any greatK by simp [greatG, h40])
   go_enter Try.func33, Try.ntmps33
   go_wp2_with fail
   go_loopw [12] (fun i wr => GreatR w #[.slice ka l.length kc, .int .i64 root] l i wr) (fun i _ => l.length - (intOf i).toNat)
   case atStart => exact ⟨0, Nat.zero_le _, rfl, heap_alloc_new w _, box_below _ _, rfl⟩
   case round =>
    obtain ⟨k, hkl, rfl, hb, hbel, hany⟩ := hrel
    have p0 : wr.cell? ⟨w.heap.size, 0, none⟩ = some (.slice ka l.length kc) := by rw [cell_of_row wr _ 0 _ _ _ hb]; rfl
    have HB := Lib.hid (And.intro hb hbel)
    have HA := Lib.hid hany
    clear hb hbel hany
    by_cases hlt : k < l.length
    · obtain ⟨x, hx⟩ : ∃ x, l[k]? = some x := ⟨l[k], List.getElem?_eq_getElem hlt⟩
      have hfx := HF.out x (List.mem_of_getElem? hx)
      obtain ⟨b, off, rfl, hblt, hc⟩ := (HK.out.below HB.out.2) (by omega)
      obtain ⟨sa, sc, c0, c1, c2, hs⟩ := hc k x hx
      have HX := Lib.hid (any_step HA.out hx)
      have hs1 : (x.name.size : Int) ≤ 9223372036854775807 := hfx.1
      have hs2 : (x.slots.length : Int) ≤ 9223372036854775807 := hfx.2.1
      have HFX := Lib.hid hfx.2.2
      have HS := Lib.hid hs
      have hkl2 : (k : Int) < (l.length : Int) := by omega
      clear hx hc hs hfx
      by_cases h200 : 200 < x.name.size
      · have h200' : (200 : Int) < (x.name.size : Int) := by omega
        go_wp2_with fail
        go_ret
        exact Says.mk (by rw [HG.out, HX.out]; simp [greatK, h200]) HB.out.2
      · have h200' : ¬ (200 : Int) < (x.name.size : Int) := by omega
        by_cases h20 : 20 < x.slots.length
        · have h20' : (20 : Int) < (x.slots.length : Int) := by omega
          go_wp2_with fail
          go_ret
          exact Says.mk (by rw [HG.out, HX.out]; simp [greatK, h20]) HB.out.2
        · have h20' : ¬ (20 : Int) < (x.slots.length : Int) := by omega
          have HKX := Lib.hid (show greatK x = x.slots.any greatS by simp [greatK, h200, h20])
          go_wp2_with fail
          obtain ⟨wo, rfl⟩ : ∃ wo, wo = wr := ⟨_, rfl⟩
          go_loopw [40] (fun j wr => GreatR2 wo x.slots j wr) (fun j _ => x.slots.length - (intOf j).toNat)
          case atStart => exact ⟨0, Nat.zero_le _, rfl, rfl, rfl⟩
          case round =>
           obtain ⟨m, hm, rfl, rfl, hany2⟩ := hrel
           have HA2 := Lib.hid hany2
           clear hany2
           by_cases hlt2 : m < x.slots.length
           · obtain ⟨s, hsx⟩ : ∃ s, x.slots[m]? = some s := ⟨x.slots[m], List.getElem?_eq_getElem hlt2⟩
             have hfs : (s.kinds.length : Int) ≤ 9223372036854775807 := HFX.out s (List.mem_of_getElem? hsx)
             obtain ⟨b2, off2, rfl, hblt2, hc2⟩ := HS.out (by omega)
             obtain ⟨ka2, kc2, d0, d1, d2, hi⟩ := hc2 m s hsx
             have HX2 := Lib.hid (any_step HA2.out hsx)
             have hm2 : (m : Int) < (x.slots.length : Int) := by omega
             clear hsx hc2 hi
             by_cases h4 : 40 < s.kinds.length
             · have h4' : (40 : Int) < (s.kinds.length : Int) := by omega
               go_wp2_with fail
               go_ret
               exact Says.mk (by rw [HG.out, HX.out, HKX.out, HX2.out]; simp [greatS, h4]) HB.out.2
             · have h4' : ¬ (40 : Int) < (s.kinds.length : Int) := by omega
               go_wp2_with fail
               exact ⟨⟨m + 1, by omega, by go_num, rfl, by rw [HX2.out]; simp [greatS, h4]⟩, by simp [intOf]; omega⟩
           · have he := any_end HA2.out (by omega)
             have HE := Lib.hid he
             clear he
             have hm2 : ¬ (m : Int) < (x.slots.length : Int) := by omega
             go_wp2_with fail
             exact ⟨⟨k + 1, by omega, by go_num, HB.out.1, HB.out.2, by rw [HX.out, HKX.out, HE.out]; rfl⟩, by simp [intOf]; omega⟩
    · have he := any_end HA.out (by omega)
      have HE := Lib.hid he
      clear he
      have hkl2 : ¬ (k : Int) < (l.length : Int) := by omega
      go_wp2_with fail
      go_ret
      exact Says.mk (by rw [HG.out, HE.out]) HB.out.2
theorem lt_of_some' {w : World} {k : Nat} {o : Obj} (h : w.heap[k]? = some o) : k < w.heap.size := (Array.getElem?_eq_some_iff.1 h).1
end Go.Proofs.Ytonapijgfalpaaa
namespace Go.Proofs.Ytonapijgfalpaaa
open Go.ChangeShapes Go.WideShapes Go.ChangeAt Go.RowKit
section
variable {H : Type} {enc : TypeId × Value → H} {w : World} {base : Nat} {spare : Nat → Bool} {held : Bool}
theorem add_block (a : Addr) (j : Nat) : (a.add j).block = a.block := by unfold Addr.add; split <;> rfl
set_option maxRecDepth 100000 in
theorem open_intsG {fuel : Nat} {v : Value} {x : DataW H × List MemPlace} (h : DataW.trod enc Try.prog w base spare held fuel 64 [v] = some x) :
 ∃ (l : List Int) (a : Option Addr) (cap : Nat), v = .slice a l.length cap ∧ IntsAt w a l ∧ (l.length : Int) ≤ 9223372036854775807 := by
 rcases Deep.open_slice Try.underlying64 h with ⟨hcs, _⟩ | ⟨ad, len, cap, m, n, D, Pl, hcs, _, hl, hm, hmm, _, hi⟩
 · simp only [List.cons.injEq, and_true] at hcs
   subst hcs
   exact ⟨[], none, 0, rfl, fun h => by simp at h, by simp⟩
 · simp only [List.cons.injEq, and_true] at hcs
   subst hcs
   have hle : len ≤ m := by rw [hmm]; split <;> omega
   have each : ∀ i, i < len → ∃ x : Int, w.cell? (ad.add i) = some (.int .i64 x) := fun i hil => by
    obtain ⟨cs', hc, ht⟩ := hi i (by omega)
    have h3 : Try.prog.cellsOf 3 = 1 := by kernel_rfl
    rw [h3, Nat.mul_one] at hc
    obtain ⟨_, hcl, hat⟩ := World.cells?_some hc
    match cs', hcl with
    | [c0], _ =>
      obtain ⟨x0, e0, _, _⟩ := DataW.trod_int Try.underlying3 ht
      have a0 := hat 0 (by omega)
      rw [Deep.add_add] at a0
      simp only [List.cons.injEq, and_true] at e0
      subst e0
      exact ⟨x0, by simpa using a0⟩
   obtain ⟨f, hf⟩ := Deep.choose_lt each
   refine ⟨(List.range len).map f, some ad, cap, by simp, fun h0 => ?_, by simp only [List.length_map, List.length_range]; unfold maxLen at hm; omega⟩
   have h0' : 0 < len := by simpa using h0
   obtain ⟨b, off, spot⟩ := ad
   have hsp := World.cell?_spot (hf 0 h0')
   have : spot = none := by simpa [Addr.add] using hsp
   subst this
   have hlt := World.block_lt_of_cell? w _ (hf 0 h0')
   rw [Addr.add_mid] at hlt
   refine ⟨b, off, rfl, hlt, fun i x hi => ?_⟩
   rw [List.getElem?_map, Option.map_eq_some_iff] at hi
   obtain ⟨j, hj, rfl⟩ := hi
   obtain ⟨hlt, rfl⟩ := List.getElem?_eq_some_iff.1 hj
   simp only [List.length_range] at hlt
   simp only [List.getElem_range]
   have h1 := hf i hlt
   rw [Addr.add_mid] at h1
   exact h1
set_option maxRecDepth 100000 in
theorem open_slot (fuel : Nat) (cs : List Value) (x : DataW H × List MemPlace) (h : DataW.trod enc Try.prog w base spare held fuel 118 cs = some x) :
 ∃ (s : Sl) (ka : Option Addr) (kc : Nat), cs = [.slice ka s.kinds.length kc, .int .i64 s.least, .int .i64 s.most] ∧ IntsAt w ka s.kinds ∧ s.fits := by
 obtain ⟨xs, n, _, _, hl, hlen, hf⟩ := DataW.trod_struct Try.underlying118 h
 have h3 : Try.prog.cellsOf 118 = 3 := by kernel_rfl
 rw [h3] at hl
 match cs, hl with
 | [c0, c1, c2], _ =>
   have k1 : Try.prog.cellsOf 3 = 1 := by kernel_rfl
   have k2 : Try.prog.cellsOf 64 = 1 := by kernel_rfl
   match xs, hlen with
   | [y0, y1, y2], _ =>
     have t0 : DataW.trod enc Try.prog w base spare held n 64 (([c0, c1, c2].drop 0).take (Try.prog.cellsOf 64)) = some y0 := hf 0 _ rfl
     have t1 : DataW.trod enc Try.prog w base spare held n 3 (([c0, c1, c2].drop 1).take (Try.prog.cellsOf 3)) = some y1 := hf 1 _ rfl
     have t2 : DataW.trod enc Try.prog w base spare held n 3 (([c0, c1, c2].drop 2).take (Try.prog.cellsOf 3)) = some y2 := hf 2 _ rfl
     simp only [k1, k2, List.drop_zero, List.take_succ_cons, List.take_zero, List.drop_succ_cons] at t0 t1 t2
     obtain ⟨l, ka, kc, rfl, hi, hle⟩ := open_intsG t0
     obtain ⟨lo, e1, _, _⟩ := DataW.trod_int Try.underlying3 t1
     obtain ⟨hi2, e2, _, _⟩ := DataW.trod_int Try.underlying3 t2
     simp only [List.cons.injEq, and_true] at e1 e2
     subst e1; subst e2
     exact ⟨⟨l, lo, hi2⟩, ka, kc, rfl, hi, hle⟩
theorem open_slotsG {fuel : Nat} {v : Value} {x : DataW H × List MemPlace} (h : DataW.trod enc Try.prog w base spare held fuel 114 [v] = some x) :
 ∃ (l : List Sl) (a : Option Addr) (cap : Nat), v = .slice a l.length cap ∧ SlotsAt w a l ∧ (l.length : Int) ≤ 9223372036854775807 ∧ ∀ s ∈ l, s.fits := by
 rcases Deep.open_slice Try.underlying114 h with ⟨hcs, _⟩ | ⟨ad, len, cap, m, n, D, Pl, hcs, _, hl, hm, hmm, _, hi⟩
 · simp only [List.cons.injEq, and_true] at hcs
   subst hcs
   exact ⟨[], none, 0, rfl, fun h => by simp at h, by simp, fun s hs => by cases hs⟩
 · simp only [List.cons.injEq, and_true] at hcs
   subst hcs
   have hle : len ≤ m := by rw [hmm]; split <;> omega
   have h3 : Try.prog.cellsOf 118 = 3 := by kernel_rfl
   rw [h3] at hi
   have each : ∀ i, i < len → ∃ (s : Sl), ∃ (ka : Option Addr) (kc : Nat), w.cell? (ad.add (i * 3)) = some (.slice ka s.kinds.length kc) ∧ w.cell? (ad.add (i * 3 + 1)) = some (.int .i64 s.least) ∧ w.cell? (ad.add (i * 3 + 2)) = some (.int .i64 s.most) ∧ IntsAt w ka s.kinds ∧ s.fits := fun i hil => by
    obtain ⟨cs', hc, ht⟩ := hi i (by omega)
    obtain ⟨_, _, hat⟩ := World.cells?_some hc
    obtain ⟨s, ka, kc, rfl, hia, hfi⟩ := open_slot n cs' _ ht
    have a0 := hat 0 (by omega)
    have a1 := hat 1 (by omega)
    have a2 := hat 2 (by omega)
    rw [Deep.add_add] at a0 a1 a2
    exact ⟨s, ka, kc, a0, a1, a2, hia, hfi⟩
   obtain ⟨f, hff⟩ := Deep.choose_lt each
   refine ⟨(List.range len).map f, some ad, cap, by simp, fun h0 => ?_, by simp only [List.length_map, List.length_range]; unfold maxLen at hm; omega, fun s hs => ?_⟩
   · have h0' : 0 < len := by simpa using h0
     obtain ⟨b, off, spot⟩ := ad
     obtain ⟨_, _, hz, _⟩ := hff 0 h0'
     have hsp : spot = none := by simpa [Addr.add] using World.cell?_spot hz
     subst hsp
     have hlt := World.block_lt_of_cell? w _ hz
     rw [add_block] at hlt
     refine ⟨b, off, rfl, hlt, fun i u hu => ?_⟩
     rw [List.getElem?_map, Option.map_eq_some_iff] at hu
     obtain ⟨j, hj, rfl⟩ := hu
     obtain ⟨hlt', rfl⟩ := List.getElem?_eq_some_iff.1 hj
     simp only [List.length_range] at hlt'
     simp only [List.getElem_range]
     obtain ⟨ka, kc, z0, z1, z2, hia, _⟩ := hff i hlt'
     simp only [Addr.add_mid, ← Nat.add_assoc] at z0 z1 z2
     exact ⟨ka, kc, z0, z1, z2, hia⟩
   · simp only [List.mem_map, List.mem_range] at hs
     obtain ⟨i, hil, rfl⟩ := hs
     obtain ⟨_, _, _, _, _, _, hft⟩ := hff i hil
     exact hft
set_option maxRecDepth 100000 in
theorem open_kind (fuel : Nat) (cs : List Value) (x : DataW H × List MemPlace) (h : DataW.trod enc Try.prog w base spare held fuel 116 cs = some x) :
 ∃ (k : Kd) (sa : Option Addr) (sc : Nat), cs = [.string k.name, .bool k.text, .slice sa k.slots.length sc] ∧ SlotsAt w sa k.slots ∧ k.fits := by
 obtain ⟨xs, n, _, _, hl, hlen, hf⟩ := DataW.trod_struct Try.underlying116 h
 have h3 : Try.prog.cellsOf 116 = 3 := by kernel_rfl
 rw [h3] at hl
 match cs, hl with
 | [c0, c1, c2], _ =>
   have k1 : Try.prog.cellsOf 9 = 1 := by kernel_rfl
   have k2 : Try.prog.cellsOf 4 = 1 := by kernel_rfl
   have k3 : Try.prog.cellsOf 114 = 1 := by kernel_rfl
   match xs, hlen with
   | [y0, y1, y2], _ =>
     have t0 : DataW.trod enc Try.prog w base spare held n 9 (([c0, c1, c2].drop 0).take (Try.prog.cellsOf 9)) = some y0 := hf 0 _ rfl
     have t1 : DataW.trod enc Try.prog w base spare held n 4 (([c0, c1, c2].drop 1).take (Try.prog.cellsOf 4)) = some y1 := hf 1 _ rfl
     have t2 : DataW.trod enc Try.prog w base spare held n 114 (([c0, c1, c2].drop 2).take (Try.prog.cellsOf 114)) = some y2 := hf 2 _ rfl
     simp only [k1, k2, k3, List.drop_zero, List.take_succ_cons, List.take_zero, List.drop_succ_cons] at t0 t1 t2
     obtain ⟨nm, e0, _, hns⟩ := DataW.trod_string Try.underlying9 t0
     obtain ⟨tx, e1, _⟩ := DataW.trod_bool Try.underlying4 t1
     obtain ⟨l, sa, sc, rfl, hs, hle, hfs⟩ := open_slotsG t2
     simp only [List.cons.injEq, and_true] at e0 e1
     subst e0; subst e1
     exact ⟨⟨nm, tx, l⟩, sa, sc, rfl, hs, by show (nm.size : Int) ≤ _; unfold maxLen at hns; omega, hle, hfs⟩
theorem open_kindsG {fuel : Nat} {v : Value} {x : DataW H × List MemPlace} (h : DataW.trod enc Try.prog w base spare held fuel 53 [v] = some x) :
 ∃ (l : List Kd) (a : Option Addr) (cap : Nat), v = .slice a l.length cap ∧ KindsAt w a l ∧ (l.length : Int) ≤ 9223372036854775807 ∧ ∀ s ∈ l, s.fits := by
 rcases Deep.open_slice Try.underlying53 h with ⟨hcs, _⟩ | ⟨ad, len, cap, m, n, D, Pl, hcs, _, hl, hm, hmm, _, hi⟩
 · simp only [List.cons.injEq, and_true] at hcs
   subst hcs
   exact ⟨[], none, 0, rfl, fun h => by simp at h, by simp, fun s hs => by cases hs⟩
 · simp only [List.cons.injEq, and_true] at hcs
   subst hcs
   have hle : len ≤ m := by rw [hmm]; split <;> omega
   have h3 : Try.prog.cellsOf 116 = 3 := by kernel_rfl
   rw [h3] at hi
   have each : ∀ i, i < len → ∃ (k : Kd), ∃ (sa : Option Addr) (sc : Nat), w.cell? (ad.add (i * 3)) = some (.string k.name) ∧ w.cell? (ad.add (i * 3 + 1)) = some (.bool k.text) ∧ w.cell? (ad.add (i * 3 + 2)) = some (.slice sa k.slots.length sc) ∧ SlotsAt w sa k.slots ∧ k.fits := fun i hil => by
    obtain ⟨cs', hc, ht⟩ := hi i (by omega)
    obtain ⟨_, _, hat⟩ := World.cells?_some hc
    obtain ⟨s, ka, kc, rfl, hia, hfi⟩ := open_kind n cs' _ ht
    have a0 := hat 0 (by omega)
    have a1 := hat 1 (by omega)
    have a2 := hat 2 (by omega)
    rw [Deep.add_add] at a0 a1 a2
    exact ⟨s, ka, kc, a0, a1, a2, hia, hfi⟩
   obtain ⟨f, hff⟩ := Deep.choose_lt each
   refine ⟨(List.range len).map f, some ad, cap, by simp, fun h0 => ?_, by simp only [List.length_map, List.length_range]; unfold maxLen at hm; omega, fun s hs => ?_⟩
   · have h0' : 0 < len := by simpa using h0
     obtain ⟨b, off, spot⟩ := ad
     obtain ⟨_, _, hz, _⟩ := hff 0 h0'
     have hsp : spot = none := by simpa [Addr.add] using World.cell?_spot hz
     subst hsp
     have hlt := World.block_lt_of_cell? w _ hz
     rw [add_block] at hlt
     refine ⟨b, off, rfl, hlt, fun i u hu => ?_⟩
     rw [List.getElem?_map, Option.map_eq_some_iff] at hu
     obtain ⟨j, hj, rfl⟩ := hu
     obtain ⟨hlt', rfl⟩ := List.getElem?_eq_some_iff.1 hj
     simp only [List.length_range] at hlt'
     simp only [List.getElem_range]
     obtain ⟨ka, kc, z0, z1, z2, hia, _⟩ := hff i hlt'
     simp only [Addr.add_mid, ← Nat.add_assoc] at z0 z1 z2
     exact ⟨ka, kc, z0, z1, z2, hia⟩
   · simp only [List.mem_map, List.mem_range] at hs
     obtain ⟨i, hil, rfl⟩ := hs
     obtain ⟨_, _, _, _, _, _, hft⟩ := hff i hil
     exact hft
set_option maxRecDepth 100000 in
theorem open_gr {fuel : Nat} {cs : List Value} {x : DataW H × List MemPlace} (h : DataW.trod enc Try.prog w base spare held fuel 55 cs = some x) :
 ∃ (g : Gr) (ka : Option Addr) (kc : Nat), cs = [.slice ka g.kinds.length kc, .int .i64 g.root] ∧ KindsAt w ka g.kinds ∧ g.fits := by
 obtain ⟨xs, n, _, _, hl, hlen, hf⟩ := DataW.trod_struct Try.underlying55 h
 have h3 : Try.prog.cellsOf 55 = 2 := by kernel_rfl
 rw [h3] at hl
 match cs, hl with
 | [c0, c1], _ =>
   have k1 : Try.prog.cellsOf 3 = 1 := by kernel_rfl
   have k2 : Try.prog.cellsOf 53 = 1 := by kernel_rfl
   match xs, hlen with
   | [y0, y1], _ =>
     have t0 : DataW.trod enc Try.prog w base spare held n 53 (([c0, c1].drop 0).take (Try.prog.cellsOf 53)) = some y0 := hf 0 _ rfl
     have t1 : DataW.trod enc Try.prog w base spare held n 3 (([c0, c1].drop 1).take (Try.prog.cellsOf 3)) = some y1 := hf 1 _ rfl
     simp only [k1, k2, List.drop_zero, List.take_succ_cons, List.take_zero, List.drop_succ_cons] at t0 t1
     obtain ⟨l, ka, kc, rfl, hk, hle, hfk⟩ := open_kindsG t0
     obtain ⟨r, e1, _, _⟩ := DataW.trod_int Try.underlying3 t1
     simp only [List.cons.injEq, and_true] at e1
     subst e1
     exact ⟨⟨l, r⟩, ka, kc, rfl, hk, hle, hfk⟩
set_option maxRecDepth 100000 in
theorem open_grV {v : Value} {d : DataW H} {ps : List MemPlace} {cs : Array Value} (hv : v = .agg cs) (h : DataW.Trod enc Try.prog w base spare held 55 v d ps) : ∃ g, GrV w v g ∧ g.fits := by
 subst hv
 obtain ⟨fuel, hf⟩ := h
 obtain ⟨g, ka, kc, e, hk, hfit⟩ := open_gr hf
 refine ⟨g, ⟨ka, kc, ?_, hk⟩, hfit⟩
 have e2 : cs.toList = [.slice ka g.kinds.length kc, .int .i64 g.root] := by simpa [Value.cells] using e
 rw [show cs = cs.toList.toArray by simp, e2]
end
end Go.Proofs.Ytonapijgfalpaaa
