/-
  .
-/
import Derived.Test.YtonapijgfalpaaaGreatHWayQw
import Derived.Test.YtonapijgfalpaaaGreatHWalkPQw
import Derived.Test.YtonapijgfalpaaaGreatRows
import Derived.WalkKit
import Derived.WalkSpells
import Derived.WalkLawsBesides
import Derived.Lib.Hide
import Derived.Test.YtonapijgfalpaaaGreatERowQw
import Derived.Test.YtonapijgfalpaaaGreatVWalkQw
import Derived.Deep.RegionHeld3
import Derived.StillTailTactics
import Derived.Test.YtonapijgfalpaaaGreatJPgQw
set_option maxRecDepth 100000
set_option maxHeartbeats 40000000
set_option linter.unusedVariables false
set_option linter.unusedSimpArgs false
namespace Go.Proofs.YtonapijgfalpaaaGreat
open Go.RowKit Go.Shelf
theorem zd6 (id : Int) (t : Tr) : fpi id 0 (zm t) = (zM id t).map (fun p => 0 :: p) := by
 simp only [zm, fpi, zM]
 by_cases h : t.id = id
 · rw [if_pos h, if_pos h]; rfl
 · rw [if_neg h, if_neg h]
   cases fpi id 0 t.kids <;> rfl
theorem Ql {root : Fo} : ∀ (j : Nat) (L : List Fr), yQ root L → yQ root (L.drop j)
 | 0, _, h => h
 | j + 1, [], h => by simpa using h
 | j + 1, x :: L, h => Ql j L h.tail
theorem kM (L : List Fr) : (places L).length = L.length := by simp [places]
theorem J9 (L : List Fr) (k : Nat) (hk : k < L.length) : places (L.drop (L.length - 1 - k)) = (places L).take (k + 1) := by
 rw [places, places, ← List.map_take, List.take_reverse]
 congr 3; omega
theorem zaG.at {w' : World} {S : Nat → Prop} {t : Tr} {id : Int} {rv : Value} {L : List Fr} (h : zaG w' S t id rv L) {k : Nat} (hk : k < L.length) : ∃ (g n cap b off q c pl : Nat) (u : Tr), rv = .slice (some ⟨g, 0, none⟩) n cap ∧ n = L.length ∧ n ≤ cap ∧ w'.cell? ⟨g, k * 2, none⟩ = some (.slice (some ⟨b, off, none⟩) q c) ∧ w'.cell? ⟨g, k * 2 + 1, none⟩ = some (.int .i64 (pl : Int)) ∧ pl < q ∧ q ≤ ze t.kids + 1 ∧
 w'.cell? ⟨b, off + pl * 4, none⟩ = some (.int .i64 u.id) ∧ (places L)[k]? = some pl ∧ atT t (((places L).drop 1).take k) = some u := by
 obtain ⟨x, r, hxr⟩ : ∃ x r, L.drop (L.length - 1 - k) = x :: r := by
  cases hd : L.drop (L.length - 1 - k) with
  | nil => have := congrArg List.length hd; rw [List.length_drop, List.length_nil] at this; omega
  | cons x r => exact ⟨x, r, rfl⟩
 have hmem : ∀ y ∈ x :: r, y ∈ L := fun y hy => by rw [← hxr] at hy; exact List.mem_of_mem_drop hy
 have hxk : L.reverse[k]? = some x := by
  rw [List.getElem?_reverse hk]
  have h0 : (L.drop (L.length - 1 - k))[0]? = some x := by rw [hxr]; rfl
  rwa [List.getElem?_drop, Nat.add_zero] at h0
 obtain ⟨a, cap, rfl⟩ := zw h.rows
 have hcap : L.length ≤ cap := by
  rcases h.rows.2 with ⟨hv, h0⟩ | ⟨_, _, _, hv, _, _, h3, _⟩
  · omega
  · cases hv; exact h3
 obtain ⟨g, rfl, hn, c0, c1, _⟩ := yV.at h.rows hxk
 have hch := Ql (L.length - 1 - k) L h.chain
 rw [hxr] at hch
 obtain ⟨p, u, hp, hat, hu⟩ := zax (t := t) (x :: r) hch (fun y hy => h.ok y (hmem y hy)) x r rfl
 have hok := h.ok x (hmem x (by simp))
 obtain ⟨b0, o0, key, l, q, hd, b, off, ka, kc, ha, hSb, d0, _⟩ := (h.lies x (hmem x (by simp))).1.at x.p.toNat (by have := hok.1; have := hok.2; omega)
 have huk : u = ⟨key.1, key.2.1, key.2.2, l⟩ := by rw [zH, hd] at hu; cases hu; rfl
 have hpx : x.p = (x.p.toNat : Int) := by have := hok.1; omega
 rw [hpx] at c1
 rw [ha] at c0
 have hl := jJ _ h.chain x (hmem x (by simp))
 rw [zI] at hl
 have hpl : places L = (places L).take (k + 1) ++ (places L).drop (k + 1) := (List.take_append_drop _ _).symm
 have hpk := J9 L k hk
 rw [hxr, hp] at hpk
 refine ⟨g, L.length, cap, b, off, zb x.f, x.cap, x.p.toNat, u, rfl, rfl, hcap, c0, c1, by have := hok.2; have := hok.1; omega, by omega, by rw [huk]; exact d0, ?_, ?_⟩
 · rw [places, List.getElem?_map, hxk]; rfl
 · have e : ((places L).drop 1).take k = p := by
    have h1 : (places L).drop 1 = ((places L).take (k + 1)).drop 1 ++ (places L).drop (k + 1) := by
     have h2 := List.drop_take (i := 1) (j := k + 1) (l := places L)
     rw [h2, Nat.add_sub_cancel]
     have h3 := List.take_append_drop k ((places L).drop 1)
     rw [List.drop_drop] at h3
     rw [Nat.add_comm k 1]
     exact h3.symm
    rw [h1, ← hpk]
    have hlen : p.length = k := by
     have := congrArg List.length hpk
     rw [List.length_take, kM, List.length_cons] at this; omega
    simp [hlen]
   rw [e]; exact hat
theorem zaG.path {w' : World} {S : Nat → Prop} {t : Tr} {id : Int} {rv : Value} {L : List Fr} (h : zaG w' S t id rv L) : (L = [] ∧ zM id t = none) ∨ (∃ p, zM id t = some p ∧ places L = 0 :: p ∧ L.length = p.length + 1) := by
 have h1 := h.is
 rw [zd6] at h1
 rcases h1 with ⟨h1, h2⟩ | ⟨h1, h2⟩
 · left
   refine ⟨h1, ?_⟩
   cases hp : zM id t with
   | none => rfl
   | some p => rw [hp] at h2; cases h2
 · right
   cases hp : zM id t with
   | none => rw [hp] at h2; cases h2
   | some p =>
     rw [hp] at h2
     have h3 := Option.some.inj h2
     exact ⟨p, rfl, h3.symm, by rw [← kM, ← h3]; rfl⟩
def Yz (a b : Int) (t : Tr) : Bool := match zM a t, zM b t with
 | some p, some q => decide (lcp p q = p.length)
 | _, _ => false
theorem zh (w : World) (o : Obj) : Below w.heap.size w (w.alloc o) := (Below.refl _ _).alloc (Nat.le_refl _) _
end Go.Proofs.YtonapijgfalpaaaGreat
namespace Go.Proofs.YtonapijgfalpaaaGreat
open Go.RowKit
structure Sl where
 kinds : List Int
 least : Int
 most : Int
structure Kd where
 name : ByteArray
 text : Bool
 slots : List Sl
structure Gr where
 kinds : List Kd
 root : Int
instance : Inhabited Sl := ⟨⟨[], 0, 0⟩⟩
instance : Inhabited Kd := ⟨⟨⟨#[]⟩, false, []⟩⟩
def qI (w : World) (a : Option Addr) (l : List Int) : Prop :=
 0 < l.length → ∃ b off, a = some ⟨b, off, none⟩ ∧ b < w.heap.size ∧ ∀ k x, l[k]? = some x → w.cell? ⟨b, off + k, none⟩ = some (.int .i64 x)
def JO (w : World) (b o : Nat) (s : Sl) : Prop :=
 ∃ ka kc, w.cell? ⟨b, o, none⟩ = some (.slice ka s.kinds.length kc) ∧ w.cell? ⟨b, o + 1, none⟩ = some (.int .i64 s.least) ∧ w.cell? ⟨b, o + 2, none⟩ = some (.int .i64 s.most) ∧ qI w ka s.kinds
def vX (w : World) (a : Option Addr) (l : List Sl) : Prop :=
 0 < l.length → ∃ b off, a = some ⟨b, off, none⟩ ∧ b < w.heap.size ∧ ∀ k s, l[k]? = some s → JO w b (off + k * 3) s
def JI (w : World) (b o : Nat) (k : Kd) : Prop :=
 ∃ sa sc, w.cell? ⟨b, o, none⟩ = some (.string k.name) ∧ w.cell? ⟨b, o + 1, none⟩ = some (.bool k.text) ∧ w.cell? ⟨b, o + 2, none⟩ = some (.slice sa k.slots.length sc) ∧ vX w sa k.slots
def kH (w : World) (a : Option Addr) (l : List Kd) : Prop :=
 0 < l.length → ∃ b off, a = some ⟨b, off, none⟩ ∧ b < w.heap.size ∧ ∀ k x, l[k]? = some x → JI w b (off + k * 3) x
theorem qI.below {w w' : World} {a : Option Addr} {l : List Int} (h : qI w a l) (hb : Below w.heap.size w w') : qI w' a l := fun h0 => by
 obtain ⟨b, off, e, hlt, hc⟩ := h h0
 exact ⟨b, off, e, nL hlt hb.size, fun k x hx => (World.cell?_of_block (hb.block _ hlt)).trans (hc k x hx)⟩
theorem JO.below {w w' : World} {b o : Nat} {s : Sl} (h : JO w b o s) (hlt : b < w.heap.size) (hb : Below w.heap.size w w') : JO w' b o s := by
 obtain ⟨ka, kc, h0, h1, h2, h3⟩ := h
 have e : ∀ j, w'.cell? ⟨b, j, none⟩ = w.cell? ⟨b, j, none⟩ := fun j => World.cell?_of_block (hb.block _ hlt)
 exact ⟨ka, kc, (e _).trans h0, (e _).trans h1, (e _).trans h2, h3.below hb⟩
theorem vX.below {w w' : World} {a : Option Addr} {l : List Sl} (h : vX w a l) (hb : Below w.heap.size w w') : vX w' a l := fun h0 => by
 obtain ⟨b, off, e, hlt, hc⟩ := h h0
 exact ⟨b, off, e, nL hlt hb.size, fun k x hx => (hc k x hx).below hlt hb⟩
theorem JI.below {w w' : World} {b o : Nat} {k : Kd} (h : JI w b o k) (hlt : b < w.heap.size) (hb : Below w.heap.size w w') : JI w' b o k := by
 obtain ⟨sa, sc, h0, h1, h2, h3⟩ := h
 have e : ∀ j, w'.cell? ⟨b, j, none⟩ = w.cell? ⟨b, j, none⟩ := fun j => World.cell?_of_block (hb.block _ hlt)
 exact ⟨sa, sc, (e _).trans h0, (e _).trans h1, (e _).trans h2, h3.below hb⟩
theorem kH.below {w w' : World} {a : Option Addr} {l : List Kd} (h : kH w a l) (hb : Below w.heap.size w w') : kH w' a l := fun h0 => by
 obtain ⟨b, off, e, hlt, hc⟩ := h h0
 exact ⟨b, off, e, nL hlt hb.size, fun k x hx => (hc k x hx).below hlt hb⟩
def zcy (w : World) (v : Value) (s : Sl) : Prop := ∃ ka kc, v = .agg #[.slice ka s.kinds.length kc, .int .i64 s.least, .int .i64 s.most] ∧ qI w ka s.kinds
def zfH (w : World) (v : Value) (k : Kd) : Prop := ∃ sa sc, v = .agg #[.string k.name, .bool k.text, .slice sa k.slots.length sc] ∧ vX w sa k.slots
def GrV (w : World) (v : Value) (g : Gr) : Prop := ∃ ka kc, v = .agg #[.slice ka g.kinds.length kc, .int .i64 g.root] ∧ kH w ka g.kinds
theorem GrV.below {w w' : World} {v : Value} {g : Gr} (h : GrV w v g) (hb : Below w.heap.size w w') : GrV w' v g := by obtain ⟨ka, kc, e, h1⟩ := h; exact ⟨ka, kc, e, h1.below hb⟩
theorem zch {w : World} {s : Sl} {ka : Option Addr} {kc : Nat} (h : qI w ka s.kinds) : zcy w (.agg #[.slice ka s.kinds.length kc, .int .i64 s.least, .int .i64 s.most]) s := ⟨ka, kc, rfl, h⟩
theorem zfO {w : World} {k : Kd} {sa : Option Addr} {sc : Nat} (h : vX w sa k.slots) : zfH w (.agg #[.string k.name, .bool k.text, .slice sa k.slots.length sc]) k := ⟨sa, sc, rfl, h⟩
theorem grV {w : World} {l : List Kd} {root : Int} {ka : Option Addr} {kc : Nat} (h : kH w ka l) : GrV w (.agg #[.slice ka l.length kc, .int .i64 root]) ⟨l, root⟩ := ⟨ka, kc, rfl, h⟩
def Sl.few (s : Sl) : Prop := s.kinds.length ≤ 1000000
def Kd.few (k : Kd) : Prop := k.name.size ≤ 1000000 ∧ k.slots.length ≤ 1000000 ∧ ∀ s ∈ k.slots, s.few
def Gr.few (g : Gr) : Prop := g.kinds.length ≤ 1000000 ∧ ∀ k ∈ g.kinds, k.few
def Says (b : Bool) (w : World) (e : Ending) (w' : World) : Prop := e = .returned (.bool b) ∧ Below w.heap.size w w'
theorem Says.mk {b c : Bool} {w w' : World} (h : b = c) (hb : Below w.heap.size w w') : Says b w (.returned (.bool c)) w' := ⟨by rw [h], hb⟩
def zbk (n : Int) (w : World) (e : Ending) (w' : World) : Prop := e = .returned (.int .i64 n) ∧ Below w.heap.size w w'
end Go.Proofs.YtonapijgfalpaaaGreat
namespace Go.Proofs.YtonapijgfalpaaaGreat
open Go.RowKit Go.Shelf
attribute [local go_sem] Oper.semAt_some
theorem kP {P : Program} {fn : Func} {p : Tmp} {tb : TypeId} (h : fn.results = #[.cell p tb]) (tmps : Array Value) (w : World) (g : Nat) (b : Bool) (hp : tmps.getD p undef = .pointer (some ⟨g, 0, none⟩)) (hc : w.cell? ⟨g, 0, none⟩ = some (.bool b)) (hb : ∀ w, (isAgg tb).run P w = .ok false w) :
 (results fn tmps).run P w = .ok (.bool b) w := by
 have hp' : tmps[p]?.getD undef = .pointer (some ⟨g, 0, none⟩) := by simpa using hp
 have hl : (loadVar tb ⟨g, 0, none⟩).run P w = .ok (.bool b) w := by simp [go_sem, hc, hb, Result.andThen]
 simp [results, h, hp', asAddr, hl]
theorem zgr {w : World} {b : Nat} {c0 c1 c2 c3 : Value} (h : w.heap[b]? = some (.cells #[c0, c1, c2, c3] 37 (0, 0))) : w.cell? ⟨b, 0, none⟩ = some c0 ∧ w.cell? ⟨b, 1, none⟩ = some c1 ∧ w.cell? ⟨b, 2, none⟩ = some c2 ∧ w.cell? ⟨b, 3, none⟩ = some c3 :=
 ⟨by rw [cell_of_row _ _ 0 _ _ _ h]; rfl, by rw [cell_of_row _ _ 1 _ _ _ h]; rfl, by rw [cell_of_row _ _ 2 _ _ _ h]; rfl, by rw [cell_of_row _ _ 3 _ _ _ h]; rfl⟩
theorem zaQ (w : World) (c0 c1 : Int) (c2 : ByteArray) (ka : Option Addr) (n c : Nat) : Calls Tryz.prog 131 #[.agg #[.int .i64 c0, .int .i64 c1, .string c2, .slice ka n c]] w fun e w' => e = .returned (.func (.func 144) #[] #[.pointer (some ⟨w.heap.size, 0, none⟩)]) ∧ w.alloc (.cells #[.int .i64 c0, .int .i64 c1, .string c2, .slice ka n c] 37) = w' := by
 have hmf : ∀ W : World, (Instr.makeFunc (.func 144) #[] #[.pointer (some ⟨w.heap.size, 0, none⟩)]).run Tryz.prog W = .ok (.func (.func 144) #[] #[.pointer (some ⟨w.heap.size, 0, none⟩)]) W := fun _ => rfl
 go_enter Tryz.func131, Tryz.ntmps131
 go_wp2_with fail
 go_ret
 exact ⟨rfl, rfl⟩
def zd7 (W : World) (nb : Nat) (pre : List Sp) (V : World) : Prop := zi W V (fun y => y = nb + 2) ∧ V.heap[nb + 2]? = some (.cells #[.int .i64 (pre.length : Int)] 3 (0, 0)) ∧ pre.length ≤ 200
def zem (W : World) (nb : Nat) (tot : List Sp) (c : Code) (V : World) : Prop := c = .ret ∧ zi W V (fun y => y = nb + 1 ∨ y = nb + 2) ∧ V.heap[nb + 1]? = some (.cells #[.bool true] 4 (0, 0)) ∧ 200 < tot.length
theorem vD {W V V' : World} {S : Nat → Prop} (h : zi W V S) (hb : Below W.heap.size V V') : zi W V' S :=
 ⟨hb.os.trans h.os, hb.tape.trans h.tape, hb.output.trans h.output, Nat.le_trans h.size hb.size, fun k hk hn => (hb.block k hk).trans (h.block k hk hn)⟩
theorem zdB {w W V : World} {nb D : Nat} (h0 : Below w.heap.size w W) (h2 : zi W V (fun y => y = nb + 1 ∨ y = nb + 2)) (k3 : ∃ x, V.heap[nb + 1]? = some (.cells #[.bool x] 4 (0, 0))) (hn : nb = w.heap.size) (hK : V.heap[D]? = some (.deferred (some []))) (hD : nb + 3 ≤ D) (b : Bool) :
 (V.setCell ⟨nb + 1, 0, none⟩ (.bool b)).heap[D]? = some (.deferred (some [])) ∧ ((V.setCell ⟨nb + 1, 0, none⟩ (.bool b)).putObj D (.deferred none)).cell? ⟨nb + 1, 0, none⟩ = some (.bool b) ∧ Below w.heap.size w ((V.setCell ⟨nb + 1, 0, none⟩ (.bool b)).putObj D (.deferred none)) := by
 obtain ⟨x, k3⟩ := k3
 have hs0 := h0.size
 have hs2 := h2.size
 have hk : ∀ y, y ≠ nb + 1 → (V.setCell ⟨nb + 1, 0, none⟩ (.bool b)).heap[y]? = V.heap[y]? := fun y hy => Below.heap_setCell _ _ _ _ hy
 refine ⟨(hk D (by omega)).trans hK, ?_, h2.os.trans h0.os, h2.tape.trans h0.tape, h2.output.trans h0.output, by simp [World.putObj, World.setCell]; omega, fun y hy => ?_⟩
 · have e : ((V.setCell ⟨nb + 1, 0, none⟩ (.bool b)).putObj D (.deferred none)).heap[nb + 1]? = some (.cells #[.bool b] 4 (0, 0)) := by
    rw [World.putObj_heap_other (by omega), heap_setCell_same V (nb + 1) 0 _ _ _ k3]; simp
   rw [cell_of_row _ _ 0 _ _ _ e]; rfl
 · rw [World.putObj_heap_other (by omega), hk y (by omega), h2.block y (by omega) (by omega), h0.block y hy]
theorem zdc {w W V : World} {nb D : Nat} (h0 : Below w.heap.size w W) (h2 : zi W V (fun y => y = nb + 1 ∨ y = nb + 2)) (k3 : V.heap[nb + 1]? = some (.cells #[.bool true] 4 (0, 0))) (hn : nb = w.heap.size) (hD : nb + 3 ≤ D) :
 (V.putObj D (.deferred none)).cell? ⟨nb + 1, 0, none⟩ = some (.bool true) ∧ Below w.heap.size w (V.putObj D (.deferred none)) := by
 have hs0 := h0.size
 have hs2 := h2.size
 refine ⟨?_, h2.os.trans h0.os, h2.tape.trans h0.tape, h2.output.trans h0.output, by simp [World.putObj]; omega, fun y hy => ?_⟩
 · have e : (V.putObj D (.deferred none)).heap[nb + 1]? = some (.cells #[.bool true] 4 (0, 0)) := (World.putObj_heap_other (by omega)).trans k3
   rw [cell_of_row _ _ 0 _ _ _ e]; rfl
 · rw [World.putObj_heap_other (by omega), h2.block y (by omega) (by omega), h0.block y hy]
theorem zal (w : World) (S : Nat → Prop) (nv : Value) (t : Tr) (hS : ∀ x, S x → x < w.heap.size) (ht : zL w S nv t) (hsz : ze t.kids + 1 ≤ 500000) : Calls Tryz.prog 109 #[nv] w (Says (decide (200 < ze t.kids + 1)) w) := by
 obtain ⟨ka, cap, rfl, hcap, hk⟩ := ht
 obtain ⟨n, hn⟩ : ∃ n, n = zb t.kids := ⟨_, rfl⟩
 rw [← hn]
 obtain ⟨nb, hnb⟩ : ∃ nb, nb = w.heap.size := ⟨_, rfl⟩
 have hal := zg [.cells #[.int .i64 t.id, .int .i64 t.kind, .string t.text, .slice ka n cap] 37, .cells #[.bool false] 4, .cells #[.int .i64 0] 3, .cells #[.int .i64 t.id, .int .i64 t.kind, .string t.text, .slice ka n cap] 37] w
 have hab := zk [.cells #[.int .i64 t.id, .int .i64 t.kind, .string t.text, .slice ka n cap] 37, .cells #[.bool false] 4, .cells #[.int .i64 0] 3, .cells #[.int .i64 t.id, .int .i64 t.kind, .string t.text, .slice ka n cap] 37] w
 have has := zx [.cells #[.int .i64 t.id, .int .i64 t.kind, .string t.text, .slice ka n cap] 37, .cells #[.bool false] 4, .cells #[.int .i64 0] 3, .cells #[.int .i64 t.id, .int .i64 t.kind, .string t.text, .slice ka n cap] 37] w
 have HA := hH (aN hab (aN (hal 1 _ rfl) (aN (hal 2 _ rfl) (aN (hal 3 _ rfl) has))))
 have H := hH (aN hS (aN hcap (aN hk (aN hsz (aN hn hnb)))))
 clear hS hcap hk hsz hn hnb hal hab has
 refine (callsIn_wide (n := 8)).1 ?_
 refine callsIn_of_wp_marks Tryz.func109 rfl trivial ?_ rfl
 simp only [Tryz.ntmps109, List.size_toArray, List.length_cons, List.length_nil, Nat.reduceAdd, Nat.reduceSub, Array.replicate_succ, Array.replicate_zero, List.push_toArray, List.append_toArray, List.nil_append, List.cons_append]
 gi_wp2_with (refine ⟨trivial, ?_⟩; gi_at_call 131; refine (callsIn_wide.2 (zaQ _ _ _ _ _ _ _)).mono ?_; rintro e w' ⟨rfl, rfl⟩)
 change Code.wpIn _ _ _ _ _ _ (zo w [.cells #[.int .i64 t.id, .int .i64 t.kind, .string t.text, .slice ka n cap] 37, .cells #[.bool false] 4, .cells #[.int .i64 0] 3, .cells #[.int .i64 t.id, .int .i64 t.kind, .string t.text, .slice ka n cap] 37])
 generalize hW : zo w _ = W at HA ⊢
 clear hW
 rw [← H.out.2.2.2.2.2]
 obtain ⟨k0, k1, k2, k3, k4⟩ := HA.out
 rw [← H.out.2.2.2.2.2] at k1 k2 k3 k4
 have k4' : W.heap.size = nb + 4 := k4
 have hwn := H.out.2.2.2.2.2
 have hnode : ZC W (fun x => S x ∨ x = nb + 3) t (nb + 3) := ⟨ka, cap, Or.inr rfl, by rw [k3, H.out.2.2.2.2.1], H.out.2.1, H.out.2.2.1.kept fun x hx => ⟨Or.inl hx, k0.block x (H.out.1 x hx)⟩⟩
 refine zcz (by omega) rfl (fun x => S x ∨ x = nb + 3) t hnode (fun x hx => by rcases hx with hx | hx; have := H.out.1 x hx; omega; omega) H.out.2.2.2.1 rfl (zd7 W nb) (zem W nb (spF 1 (zm t))) (fun h hb => ⟨vD h.1 hb, (hb.block _ (by omega)).trans h.2.1, h.2.2⟩) (fun h hb => ⟨h.1, vD h.2.1 hb, (hb.block _ (by omega)).trans h.2.2.1, h.2.2.2⟩) ⟨zi.refl _ _, k2, by simp⟩ ?round ?done ?stop
 case done =>
  rintro D V hD ⟨h1, h2, h3⟩ hK
  have e1 : V.heap[nb + 1]? = some (.cells #[.bool false] 4 (0, 0)) := (h1.block _ (by omega) (by omega)).trans k1
  have b0 : V.cell? ⟨nb + 1, 0, none⟩ = some (.bool false) := by rw [cell_of_row _ _ 0 _ _ _ e1]; rfl
  have f0 : V.frozen? ⟨nb + 1, 0, none⟩ = false := frozen_of_row _ _ 0 _ _ e1
  have HE := hH (zdB k0 ⟨h1.os, h1.tape, h1.output, h1.size, fun k hk hn => h1.block k hk (fun e => hn (Or.inr e))⟩ ⟨_, e1⟩ hwn hK (by omega) false)
  have HB := hH (show decide (200 < ze t.kids + 1) = false by rw [zS, zI] at h3; exact decide_eq_false (by omega))
  clear h1 h2 h3 e1 hD k0 k1 k2 k3 k4 k4' hwn hnode HA H
  gi_wp2
  obtain ⟨q1, q2, q3⟩ := HE.out
  refine ⟨by simp, .inl ⟨_, _, rfl, run_takeDeferred q1, ?_⟩⟩
  exact ⟨_, kP rfl _ _ _ false rfl q2 (fun _ => by kernel_rfl), by rw [HB.out], q3⟩
 case stop =>
  rintro D c V hD ⟨rfl, h1, h2, h3⟩ hK
  have HE := hH (zdc k0 h1 h2 hwn (D := D) (by omega))
  have HB := hH (show decide (200 < ze t.kids + 1) = true by rw [zS, zI] at h3; exact decide_eq_true (by omega))
  clear h1 h2 h3 hD k0 k1 k2 k3 k4 k4' hwn hnode HA H
  gi_wp2
  obtain ⟨q2, q3⟩ := HE.out
  refine ⟨by simp, .inl ⟨_, _, rfl, run_takeDeferred hK, ?_⟩⟩
  exact ⟨_, kP rfl _ _ _ true rfl q2 (fun _ => by kernel_rfl), by rw [HB.out], q3⟩
 case round =>
  rintro l hl pre rest d key k V b off kc ka2 htot hV ⟨h1, h2, h3⟩ hSb d0 d1 d2 d3 dc dk K hK
  obtain ⟨np, hnp⟩ : ∃ np, np = pre.length := ⟨_, rfl⟩
  rw [← hnp] at h2 h3
  have hlt : np + 1 ≤ (spF 1 (zm t)).length := by rw [htot, hnp]; simp
  have hn1 : V.heap[nb + 1]? = some (.cells #[.bool false] 4 (0, 0)) := (h1.block _ (by omega) (by omega)).trans k1
  have HR := hH (aN h1 (aN h2 (aN hlt (aN hV (aN hl (aN hnp hn1))))))
  have HK := hH hK
  have HZ := hH (aN k4' hwn)
  clear h1 h2 hlt hV hl hnp hn1 hK htot hSb d0 d1 d2 d3 dc dk k0 k1 k2 k3 k4 k4' hwn hnode
  gi_wp2
  refine HK.out _ V (Below.refl _ _) fun V1 hV1 => ?_
  clear HK
  obtain ⟨o', ev, o, ho, hoc⟩ := hV1
  have hk1 : ∀ y, y ≠ l → V1.heap[y]? = V.heap[y]? := fun y hy => by rw [ev]; exact World.putObj_heap_other hy
  have hs1 : V1.heap.size = V.heap.size := by rw [ev]; simp [World.putObj]
  have hlW : l = nb + 5 := by have := HR.out.2.2.2.2.1; have := HZ.out.1; omega
  have hc2 : V1.heap[nb + 2]? = some (.cells #[.int .i64 (np : Int)] 3 (0, 0)) := (hk1 _ (by omega)).trans HR.out.2.1
  have hc1 : V1.heap[nb + 1]? = some (.cells #[.bool false] 4 (0, 0)) := (hk1 _ (by omega)).trans HR.out.2.2.2.2.2.2
  have c2 : V1.cell? ⟨nb + 1 + 1, 0, none⟩ = some (.int .i64 (np : Int)) := by rw [cell_of_row _ _ 0 _ _ _ hc2]; rfl
  have f2 : V1.frozen? ⟨nb + 1 + 1, 0, none⟩ = false := frozen_of_row _ _ 0 _ _ hc2
  obtain ⟨V2, hV2⟩ : ∃ V2, V2 = V1.setCell ⟨nb + 1 + 1, 0, none⟩ (.int .i64 ((np : Int) + 1)) := ⟨_, rfl⟩
  have hk2 : ∀ y, y ≠ nb + 2 → V2.heap[y]? = V1.heap[y]? := fun y hy => by rw [hV2]; exact Below.heap_setCell _ _ _ _ hy
  have hc22 : V2.heap[nb + 2]? = some (.cells #[.int .i64 ((np : Int) + 1)] 3 (0, 0)) := by rw [hV2, heap_setCell_same V1 (nb + 1 + 1) 0 _ _ _ hc2]; simp
  have hc12 : V2.heap[nb + 1]? = some (.cells #[.bool false] 4 (0, 0)) := (hk2 _ (by omega)).trans hc1
  have hs2 : V2.heap.size = V1.heap.size := by rw [hV2]; simp [World.setCell]
  have ht2 : zi W V2 (fun y => y = nb + 2) := by
   have h1 := HR.out.1
   refine ⟨by rw [hV2, ev]; exact h1.os, by rw [hV2, ev]; exact h1.tape, by rw [hV2, ev]; exact h1.output, by have := h1.size; omega, fun y hy hn => ?_⟩
   rw [hk2 y hn, hk1 y (by have := HZ.out.1; omega), h1.block y hy hn]
  have hS2 : ∀ y, (W.heap.size ≤ y ∨ (S y ∨ y = nb + 3)) → V2.heap[y]? = V1.heap[y]? := fun y hy => hk2 y (by
   rcases hy with hy | hy | hy
   · have := HZ.out.1; omega
   · have := H.out.1 y hy; have := HZ.out.2; omega
   · omega)
  by_cases hbig : 200 < np + 1
  · have hbi : (200 : Int) < (np : Int) + 1 := by omega
    have b1 : (V1.setCell ⟨nb + 1 + 1, 0, none⟩ (.int .i64 ((np : Int) + 1))).cell? ⟨nb + 1, 0, none⟩ = some (.bool false) := by rw [← hV2, cell_of_row _ _ 0 _ _ _ hc12]; rfl
    have g1 : (V1.setCell ⟨nb + 1 + 1, 0, none⟩ (.int .i64 ((np : Int) + 1))).frozen? ⟨nb + 1, 0, none⟩ = false := by rw [← hV2]; exact frozen_of_row _ _ 0 _ _ hc12
    have hend : ∀ aa : Act, zba W.heap.size (fun x => S x ∨ x = nb + 3) (zd7 W nb) (zem W nb (spF 1 (zm t))) (pre ++ [(d, key, k)]) V1 .ret aa ((V1.setCell ⟨nb + 1 + 1, 0, none⟩ (.int .i64 ((np : Int) + 1))).setCell ⟨nb + 1, 0, none⟩ (.bool true)) := fun aa => by
     rw [← hV2]
     have hk3 : ∀ y, y ≠ nb + 1 → (V2.setCell ⟨nb + 1, 0, none⟩ (.bool true)).heap[y]? = V2.heap[y]? := fun y hy => Below.heap_setCell _ _ _ _ hy
     refine ⟨⟨by simp [World.setCell, hs2], fun y hy hyl => ?_⟩, .inr (.inl ⟨rfl, rfl, ⟨ht2.os, ht2.tape, ht2.output, by simp [World.setCell]; exact ht2.size, fun y hy hn => ?_⟩, ?_, by have := HR.out.2.2.1; omega⟩)⟩
     · rw [hk3 y (by
        rcases hy with hy | hy | hy
        · have := HZ.out.1; omega
        · have := H.out.1 y hy; have := HZ.out.2; omega
        · omega), hS2 y hy]
     · rw [hk3 y (fun e => hn (Or.inl e)), ht2.block y hy (fun e => hn (Or.inr e))]
     · rw [heap_setCell_same V2 (nb + 1) 0 _ _ _ hc12]; simp
    have HE := hH hend
    clear hend hk1 hs1 hc2 hc1 hV2 hk2 hc22 hc12 hs2 ht2 hS2 ev ho hoc hlW hbig
    gi_wp2
    exact HE.out _
  · have hbi : ¬ (200 : Int) < (np : Int) + 1 := by omega
    have hend : ∀ aa : Act, zba W.heap.size (fun x => S x ∨ x = nb + 3) (zd7 W nb) (zem W nb (spF 1 (zm t))) (pre ++ [(d, key, k)]) V1 .normal aa (V1.setCell ⟨nb + 1 + 1, 0, none⟩ (.int .i64 ((np : Int) + 1))) := fun aa => by
     rw [← hV2]
     refine ⟨⟨by omega, fun y hy hyl => hS2 y hy⟩, .inl ⟨rfl, ht2, ?_, ?_⟩⟩
     · rw [hc22, List.length_append, ← HR.out.2.2.2.2.2.1]; rfl
     · rw [List.length_append, ← HR.out.2.2.2.2.2.1]; simp only [List.length_cons, List.length_nil]; omega
    have HE := hH hend
    clear hend hk1 hs1 hc2 hc1 hV2 hk2 hc22 hc12 hs2 ht2 hS2 ev ho hoc hlW hbig
    gi_wp2
    exact HE.out _
end Go.Proofs.YtonapijgfalpaaaGreat
namespace Go.Proofs.YtonapijgfalpaaaGreat
open Go.RowKit
theorem ZH {α : Type} {l : List α} {k : Nat} {x : α} (h : l[k]? = some x) : l.drop k = x :: l.drop (k + 1) := by
 obtain ⟨hk, rfl⟩ := List.getElem?_eq_some_iff.1 h
 exact List.drop_eq_getElem_cons hk
theorem zeP {α : Type} {f : α → Bool} {l : List α} {k : Nat} {x : α} {r : Bool} (hr : r = (l.drop k).any f) (h : l[k]? = some x) : r = (f x || (l.drop (k + 1)).any f) := by rw [hr, ZH h]; rfl
theorem zfx {α : Type} {f : α → Bool} {l : List α} {k : Nat} {r : Bool} (hr : r = (l.drop k).any f) (h : l.length ≤ k) : r = false := by rw [hr, List.drop_eq_nil_of_le h]; rfl
theorem ko {w : World} {k : Nat} {o : Obj} (h : w.heap[k]? = some o) : k < w.heap.size := (Array.getElem?_eq_some_iff.1 h).1
end Go.Proofs.YtonapijgfalpaaaGreat
namespace Go.Proofs.YtonapijgfalpaaaGreat
def rise (n : Int) : Int → List Int → Bool
 | _, [] => true
 | a, x :: r => decide (a < x) && decide (x < n) && rise n x r
theorem zdn {n a : Int} {l : List Int} {k : Nat} {x : Int} {r : Bool} (hr : r = rise n a (l.drop k)) (h : l[k]? = some x) : r = (decide (a < x) && decide (x < n) && rise n x (l.drop (k + 1))) := by rw [hr, ZH h]; rfl
theorem zdz {n a : Int} {l : List Int} {k : Nat} {r : Bool} (hr : r = rise n a (l.drop k)) (h : l.length ≤ k) : r = true := by rw [hr, List.drop_eq_nil_of_le h]; rfl
def qZ (s : Sl) : Bool := decide (0 < s.kinds.length) && decide (0 ≤ s.least) && decide (s.least ≤ s.most) && decide (s.most ≤ 1000)
def qN (n : Int) (s : Sl) : Bool := rise n (-1) s.kinds && qZ s
def Zp (k : Kd) : Bool := decide (1 ≤ k.name.size) && decide (k.name.size ≤ 40) && decide (k.slots.length ≤ 8)
def kindOk (n : Int) (k : Kd) : Bool := Zp k && k.slots.all (qN n)
def fresh (l : List Kd) (s : List UInt8) : Bool := l.all fun k => decide (k.name.data.toList ≠ s)
def apart : List Kd → Bool
 | [] => true
 | k :: r => fresh r k.name.data.toList && apart r
def zbR (g : Gr) : Bool := decide (g.kinds.length ≤ 32) && decide (0 ≤ g.root) && decide (g.root < (g.kinds.length : Int))
def je (g : Gr) : Bool := zbR g && g.kinds.all (kindOk g.kinds.length) && apart g.kinds
theorem zbf {α : Type} {f : α → Bool} {l : List α} {k : Nat} {x : α} {r : Bool} (hr : r = (l.drop k).all f) (h : l[k]? = some x) : r = (f x && (l.drop (k + 1)).all f) := by rw [hr, ZH h]; rfl
theorem zcn {α : Type} {f : α → Bool} {l : List α} {k : Nat} {r : Bool} (hr : r = (l.drop k).all f) (h : l.length ≤ k) : r = true := by rw [hr, List.drop_eq_nil_of_le h]; rfl
theorem YL (l : List Kd) (k : Kd) (s : List UInt8) : fresh (l ++ [k]) s = (fresh l s && decide (k.name.data.toList ≠ s)) := by simp [fresh]
theorem Qi : ∀ (l : List Kd) (k : Kd), apart (l ++ [k]) = (apart l && fresh l k.name.data.toList)
 | [], k => by simp [apart, fresh]
 | x :: r, k => by
   rw [List.cons_append, apart, apart, Qi r k, YL]
   have e : decide (k.name.data.toList ≠ x.name.data.toList) = decide (x.name.data.toList ≠ k.name.data.toList) := by
    congr 1; simp only [ne_eq, eq_iff_iff]; exact ⟨fun h e => h e.symm, fun h e => h e.symm⟩
   rw [e]
   simp only [fresh, List.all_cons]
   cases List.all r _ <;> cases apart r <;> cases decide (x.name.data.toList ≠ k.name.data.toList) <;> simp
theorem ZE {α : Type} {l : List α} {k : Nat} {x : α} (h : l[k]? = some x) : l.take (k + 1) = l.take k ++ [x] := by
 rw [List.take_add_one, h]; rfl
theorem zee {l : List Kd} {s : List UInt8} {k : Nat} {x : Kd} (h : fresh l s = true) (hx : l[k]? = some x) : x.name.data.toList ≠ s := by
 have := List.all_eq_true.1 h x (List.mem_of_getElem? hx)
 simpa using this
theorem YI {l : List Kd} {s : List UInt8} {k : Nat} {x : Kd} (hx : l[k]? = some x) : fresh (l.take (k + 1)) s = (fresh (l.take k) s && decide (x.name.data.toList ≠ s)) := by rw [ZE hx, YL]
theorem YT {l : List Kd} {k : Nat} {x : Kd} (hx : l[k]? = some x) : apart (l.take (k + 1)) = (apart (l.take k) && fresh (l.take k) x.name.data.toList) := by rw [ZE hx, Qi]
end Go.Proofs.YtonapijgfalpaaaGreat
