/-
  .
-/
import Derived.Test.YtgkmmnihaiopaaaKApplyXQa
import Derived.Test.YtgkmmnihaiopaaaKFreshQa
import Derived.Test.YtgkmmnihaiopaaaKPathQa
import Derived.Test.YtgkmmnihaiopaaaKInsQa
import Derived.Deep.LoopGhost
import Derived.Deep.Cut
import Derived.Deep.RegionHeld
import Derived.Deep.RegionLaw
import Derived.Lib.BufSteps
import Derived.Test.YtgkmmnihaiopaaaKIdsQa
import Derived.Test.YtgkmmnihaiopaaaTouWQa
import Derived.Test.YtgkmmnihaiopaaaHPathQa
import Derived.Test.YtgkmmnihaiopaaaKInsertQa
import Derived.Test.YtgkmmnihaiopaaaKPlacePQa
import Derived.Test.YtgkmmnihaiopaaaHWalkPQa
import Derived.BigQuiet
import Derived.Test.YtgkmmnihaiopaaaRWalkNQa
import Derived.Test.YtgkmmnihaiopaaaKDoQa
import Derived.Test.YtgkmmnihaiopaaaJPgQa
set_option maxRecDepth 100000
set_option maxHeartbeats 40000000
set_option linter.unusedVariables false
set_option linter.unusedSimpArgs false
namespace Go.Proofs.Ytgkmmnihaiopaaa
open Go.RowKit Go.Shelf
structure Sf where
 op : Int
 id : Int
 par : Int
 at_ : Int
 tx : ByteArray
 sub : Tr
def zgf : Tr → Int → Int → List Nat → Tr × Int × Int
 | n, a, b, [] => (n, a, b)
 | n, a, b, i :: p => match zz n.kids i with
   | none => (n, a, b)
   | some u => zgf u n.id (i : Int) p
def kY (id : Int) (t : Tr) : Tr × Int × Int := zgf t 0 0 ((zw id t).getD [])
def zfA : Sf := ⟨0, 0, 0, 0, ⟨#[]⟩, zB⟩
def invK (op id : Int) (x t : Tr) : Sf :=
 if op = 1 then ⟨2, x.id, 0, 0, ⟨#[]⟩, zB⟩
 else if op = 2 then ⟨1, 0, (kY id t).2.1, (kY id t).2.2, ⟨#[]⟩, (kY id t).1⟩
 else if op = 3 then ⟨3, id, (kY id t).2.1, (kY id t).2.2, ⟨#[]⟩, zB⟩
 else if op = 4 then ⟨4, id, 0, 0, (kY id t).1.text, zB⟩ else zfA
def Sf.on (s : Sf) (t : Tr) : Tr × Int := vT s.op s.id s.par s.at_ s.tx s.sub t
def zgX (t : Tr) : Prop := ∀ i ∈ idT t, 1 ≤ i ∧ i ≤ 1125899906842624
def NB (X : World) (y : Nat) : Prop := ∃ cs, X.heap[y]? = some (.cells cs 27 (0, 0))
theorem zdV {w : World} {B : Nat} {e : TypeId} {size : Nat} {v : Value} {n : Nat} {xs : List Value} (h : w.ownsRow B e size v n xs) {g : Nat} (hg : v.ownBlock = some g) : ∃ cur, w.heap[g]? = some (.cells cur e (0, 0)) := by
 rcases h.2 with ⟨hv, _⟩ | ⟨g', cap, cur, hv, hB, hh, _⟩
 · rw [hv] at hg; cases hg
 · rw [hv] at hg; cases hg; exact ⟨cur, hh⟩
structure Wr where
 a : Option Addr
 f : Fo
 cap : Nat
def Wr.v (x : Wr) : Value := .slice x.a (foLen x.f) x.cap
theorem one_set {V : World} {R1 i : Nat} {cs : Array Value} {T : TypeId} {u : Value} (h2 : V.heap[R1]? = some (.cells cs T (0, 0))) :
 ∃ V5, V5 = V.setCell ⟨R1, i, none⟩ u ∧ V5.heap[R1]? = some (.cells (cs.setIfInBounds i u) T (0, 0)) ∧ (∀ y, y ≠ R1 → V5.heap[y]? = V.heap[y]?) ∧ V5.os = V.os ∧ V5.tape = V.tape ∧ V5.output = V.output ∧ V5.heap.size = V.heap.size :=
 ⟨_, rfl, heap_setCell_same V R1 i _ _ u h2, fun y hy => Below.heap_setCell _ _ _ _ hy, rfl, rfl, rfl, by simp [World.setCell]⟩
theorem Qp {w : World} {b : Nat} {c0 c1 c2 c3 c4 c5 c6 c7 c8 : Value} {T : TypeId} (h : w.heap[b]? = some (.cells #[c0, c1, c2, c3, c4, c5, c6, c7, c8] T (0, 0))) : w.cell? ⟨b, 0, none⟩ = some c0 ∧ w.cell? ⟨b, 1, none⟩ = some c1 ∧ w.cell? ⟨b, 2, none⟩ = some c2 ∧ w.cell? ⟨b, 3, none⟩ = some c3 ∧ w.cell? ⟨b, 4, none⟩ = some c4 ∧ w.cell? ⟨b, 5, none⟩ = some c5 ∧ w.cell? ⟨b, 6, none⟩ = some c6 ∧ w.cell? ⟨b, 7, none⟩ = some c7 ∧ w.cell? ⟨b, 8, none⟩ = some c8 :=
 ⟨by rw [cell_of_row _ _ 0 _ _ _ h]; rfl, by rw [cell_of_row _ _ 1 _ _ _ h]; rfl, by rw [cell_of_row _ _ 2 _ _ _ h]; rfl, by rw [cell_of_row _ _ 3 _ _ _ h]; rfl, by rw [cell_of_row _ _ 4 _ _ _ h]; rfl, by rw [cell_of_row _ _ 5 _ _ _ h]; rfl, by rw [cell_of_row _ _ 6 _ _ _ h]; rfl, by rw [cell_of_row _ _ 7 _ _ _ h]; rfl, by rw [cell_of_row _ _ 8 _ _ _ h]; rfl⟩
def Sf.inv (s : Sf) (t : Tr) : Sf := if (s.on t).2 = 0 then invK s.op s.id s.sub t else zfA
structure zhp (s : Sf) : Prop where
 op : (Lit.int .i8 s.op).wf = true
 ids : ∀ i ∈ idT s.sub, (Lit.int .i64 i).wf = true
 size : zg s.sub.kids + 1 ≤ 2000
def zgh (t : Tr) : Prop := q8 t ∧ zgX t ∧ zg t.kids + 1 ≤ 200
def q9 (W : World) (f : Fo) (a : Option Addr) (c : Nat) : Prop := foLen f ≤ c ∧ zC W (fun q => q < W.heap.size) f a
theorem q9.at {W X : World} {t : Tr} {a : Option Addr} {c : Nat} (h : q9 W t.kids a c) (hb : Below W.heap.size W X) : zH X (fun q => q < W.heap.size) (.agg #[.int .i64 t.id, .int .i64 t.kind, .string t.text, .slice a (foLen t.kids) c]) t := ⟨a, c, rfl, h.1, h.2.kept fun q hq => ⟨hq, hb.block q hq⟩⟩
theorem q9.on {W X : World} {f : Fo} {a : Option Addr} {c : Nat} (h : q9 W f a c) (hb : Below W.heap.size W X) : q9 X f a c := ⟨h.1, h.2.kept fun q hq => ⟨nL hq hb.size, hb.block q hq⟩⟩
def EB (ta ba : Option Addr) (q : Nat) : Prop := (∃ a, ta = some a ∧ a.block = q) ∨ (∃ a, ba = some a ∧ a.block = q)
theorem zf0 {ta : Option Addr} {n c q : Nat} : some q = (Value.slice ta n c).ownBlock ↔ ∃ a, ta = some a ∧ a.block = q := by
 cases ta with
 | none => simp [Value.ownBlock]
 | some a => simp [Value.ownBlock, eq_comm]
def qm (X : World) (E : Nat → Prop) (f : Fo) (a : Option Addr) (c : Nat) : Prop := foLen f ≤ c ∧ zC X (fun q => q < X.heap.size ∧ ¬ E q) f a
theorem qm.on {X Y : World} {E : Nat → Prop} {f : Fo} {a : Option Addr} {c : Nat} (h : qm X E f a c) (hb : Below X.heap.size X Y) : qm Y E f a c := ⟨h.1, h.2.kept fun q hq => ⟨⟨nL hq.1 hb.size, hq.2⟩, hb.block q hq.1⟩⟩
theorem qm.i {X : World} {E : Nat → Prop} {f : Fo} {a : Option Addr} {c : Nat} (h : qm X E f a c) : q9 X f a c := ⟨h.1, h.2.kept fun q hq => ⟨hq.1, rfl⟩⟩
theorem q9.n {w X : World} {E : Nat → Prop} {f : Fo} {a : Option Addr} {c : Nat} (h : q9 w f a c) (hb : Below w.heap.size w X) (hE : ∀ q, E q → w.heap.size ≤ q) : qm X E f a c := ⟨h.1, h.2.kept fun q hq => ⟨⟨nL hq hb.size, fun he => by have := hE q he; omega⟩, hb.block q hq⟩⟩
def zhb (t : Tr) (a : Option Addr) (c : Nat) : List Value := [.int .i64 t.id, .int .i64 t.kind, .string t.text, .slice a (foLen t.kids) c]
def zc2 (s : Sf) (a : Option Addr) (c : Nat) : List Value := [.int .i8 s.op, .int .i64 s.id, .int .i64 s.par, .int .i64 s.at_, .string s.tx, .int .i64 s.sub.id, .int .i64 s.sub.kind, .string s.sub.text, .slice a (foLen s.sub.kids) c]
def zeE (X : World) (E : Nat → Prop) : List Tr → List Value → Prop
 | [], xs => xs = []
 | t :: l, xs => ∃ a c ys, xs = zhb t a c ++ ys ∧ qm X E t.kids a c ∧ zeE X E l ys
def zc8 (X : World) (E : Nat → Prop) : List Sf → List Value → Prop
 | [], xs => xs = []
 | t :: l, xs => ∃ a c ys, xs = zc2 t a c ++ ys ∧ qm X E t.sub.kids a c ∧ zc8 X E l ys
theorem zeE.kept {X Y : World} {E F : Nat → Prop} (h : ∀ f a c, qm X E f a c → qm Y F f a c) : ∀ {l : List Tr} {xs : List Value}, zeE X E l xs → zeE Y F l xs
 | [], _, k => k
 | _ :: _, _, k => by
   obtain ⟨a, c, ys, e, h1, h2⟩ := k
   exact ⟨a, c, ys, e, h _ _ _ h1, h2.kept h⟩
theorem zc8.kept {X Y : World} {E F : Nat → Prop} (h : ∀ f a c, qm X E f a c → qm Y F f a c) : ∀ {l : List Sf} {xs : List Value}, zc8 X E l xs → zc8 Y F l xs
 | [], _, k => k
 | _ :: _, _, k => by
   obtain ⟨a, c, ys, e, h1, h2⟩ := k
   exact ⟨a, c, ys, e, h _ _ _ h1, h2.kept h⟩
structure zbO (ts : List Tr) (bs : List Sf) : Prop where
 len : ts.length = bs.length + 1
 good : ∀ k t, ts[k]? = some t → q8 t ∧ zgX t ∧ zg t.kids + 1 ≤ 200 + 51 * k
 back : ∀ k b t y, bs[k]? = some b → ts[k]? = some t → ts[k + 1]? = some y → zhp b ∧ ∃ z, b.on y = (z, 0) ∧ zg9 z t = true
theorem zbO.one {t : Tr} (h : zgh t) : zbO [t] [] := by
 refine ⟨rfl, fun k u hk => ?_, fun k b t y hb => by simp at hb⟩
 cases k with
 | zero => simp at hk; subst hk; exact ⟨h.1, h.2.1, by have := h.2.2; omega⟩
 | succ k => simp at hk
structure zgv (w X : World) (ta : Option Addr) (tc : Nat) (ba : Option Addr) (bc : Nat) (ts : List Tr) (bs : List Sf) : Prop where
 below : Below w.heap.size w X
 zhw : ∃ xs, X.ownsRow w.heap.size 27 4 (.slice ta (bs.length + 1) tc) (bs.length + 1) xs ∧ zeE X (EB ta ba) ts xs
 zht : ∃ ys, X.ownsRow w.heap.size 49 9 (.slice ba bs.length bc) bs.length ys ∧ zc8 X (EB ta ba) bs ys
 chain : zbO ts bs
theorem zgv.on {w X Y : World} {ta ba : Option Addr} {tc bc : Nat} {ts : List Tr} {bs : List Sf} (h : zgv w X ta tc ba bc ts bs) (hb : Below X.heap.size X Y) : zgv w Y ta tc ba bc ts bs := by
 obtain ⟨xs, h1, h2⟩ := h.zhw
 obtain ⟨ys, h3, h4⟩ := h.zht
 exact ⟨h.below.trans (hb.mono h.below.size), ⟨xs, zG h1 (fun g cur hc hg => hb.block g (lt_of_some hc)), h2.kept fun f a c k => k.on hb⟩, ⟨ys, zG h3 (fun g cur hc hg => hb.block g (lt_of_some hc)), h4.kept fun f a c k => k.on hb⟩, h.chain⟩
theorem zhc {w : World} {y : Nat} {cs cs' : Array Value} {t t' : TypeId} {fr fr' : Nat × Nat} (h : w.heap[y]? = some (.cells cs t fr)) (h' : w.heap[y]? = some (.cells cs' t' fr')) : t = t' := by rw [h] at h'; cases h'; rfl
theorem qm.at {E : Nat → Prop} {W X : World} {t : Tr} {a : Option Addr} {c : Nat} (h : qm W E t.kids a c) (hb : Below W.heap.size W X) : zH X (fun q => q < W.heap.size ∧ ¬ E q) (.agg #[.int .i64 t.id, .int .i64 t.kind, .string t.text, .slice a (foLen t.kids) c]) t := ⟨a, c, rfl, h.1, h.2.kept fun q hq => ⟨hq, hb.block q hq.1⟩⟩
theorem qm.set {X Y V : World} {E : Nat → Prop} {R : Nat} {f : Fo} {a : Option Addr} {c : Nat} (h : qm X E f a c) (hb : Below X.heap.size X Y) (hs : ∀ q, q ≠ R → V.heap[q]? = Y.heap[q]?) (hz : V.heap.size = Y.heap.size) (hR : X.heap.size ≤ R) : qm V E f a c := ⟨h.1, h.2.kept fun q hq => ⟨⟨by rw [hz]; exact nL hq.1 hb.size, hq.2⟩, (hs q (by have := hq.1; omega)).trans (hb.block q hq.1)⟩⟩
theorem Jn {g : Gr} : ∀ (L : List Sp) (ids : List Int) (i : Nat), qj g ids i L = none → (L.map fun x => x.2.1.1).Nodup ∧ ∀ x ∈ L, x.2.1.1 ∉ ids
 | [], ids, i, _ => ⟨List.nodup_nil, fun x h => by cases h⟩
 | x :: r, ids, i, h => by
   rw [qj] at h
   split at h
   · cases h
   · rename_i ha
     obtain ⟨h1, h2⟩ := Jn r _ _ h
     have hx : x.2.1.1 ∉ ids := fun hm => by
      apply ha
      have hany : ids.any (· == x.2.1.1) = true := List.any_eq_true.2 ⟨_, hm, by simp⟩
      unfold atB
      rw [show (jo x).id = x.2.1.1 from rfl, hany]
      simp
     refine ⟨?_, fun y hy => ?_⟩
     · rw [List.map_cons, List.nodup_cons]
       refine ⟨fun hm => ?_, h1⟩
       obtain ⟨y, hy, e⟩ := List.mem_map.1 hm
       exact h2 y hy (by rw [e]; simp)
     · rcases List.mem_cons.1 hy with rfl | hy
       · exact hx
       · exact fun hm => h2 y hy (List.mem_append_left _ hm)
theorem kW {g : Gr} {t : Tr} (h : (ql g t).2 = 0) : q8 t ∧ zg t.kids + 1 ≤ 200 := by
 unfold ql at h
 split at h
 · exact absurd h (by decide)
 · unfold qK at h
   split at h
   · split at h
     · exact absurd h (by decide)
     · rename_i hs
       unfold qN at h
       split at h
       · exact absurd (show (70 : Int) = 0 from h) (by decide)
       · rename_i hb
         exact ⟨(Jn _ _ _ hb).1, by omega⟩
   · exact absurd h (by decide)
def goT (g : Gr) (t : Tr) : List Sf → Option Tr
 | [] => some t
 | s :: l => if (doK g (s.on t)).2 = 0 then goT g (doK g (s.on t)).1 l else none
def Yo (s : Sf) : Nat := if s.op = 1 then zg s.sub.kids + 1 else 0
def yV : List Sf → Nat
 | [] => 0
 | s :: l => Yo s + yV l
theorem jl : ∀ a b : List Sf, yV (a ++ b) = yV a + yV b
 | [], b => by simp [yV]
 | s :: a, b => by rw [List.cons_append, yV, yV, jl a b]; omega
def YK (l : List Sf) : Bool := decide (l.length ≤ 60) && decide (yV l ≤ 200)
theorem JD (l : List Sf) : YK l = true ↔ l.length ≤ 60 ∧ yV l ≤ 200 := by simp [YK]
structure Way (t : Tr) : Prop where
 size : zg t.kids + 1 ≤ 250
 ok : okF (spF 1 (zl t))
structure ZN (s : Sf) : Prop where
 op : (Lit.int .i8 s.op).wf = true
 size : zg s.sub.kids + 1 ≤ 250
 ok : okF (spF 1 (zl s.sub))
 tx : (s.tx.size : Int) ≤ 9223372036854775807
theorem zgH {g : Gr} {t : Tr} {s : Sf} (hs : ZN s) (h : Way t) (h0 : (doK g (s.on t)).2 = 0) : Way (doK g (s.on t)).1 := by
 unfold doK at h0 ⊢
 split at h0
 · rename_i h1
   split at h0
   · rename_i h2
     rw [if_pos h1, if_pos h2]
     have hx := zbB (op := s.op) (id := s.id) (par := s.par) (at_ := s.at_) (tx := s.tx) (x := s.sub) (t := t) (y := (s.on t).1) (by unfold Sf.on; exact Prod.ext rfl h1)
     exact ⟨by have := (kW h2).2; show zg (s.on t).1.kids + 1 ≤ 250; omega, hx.1.ok h.ok hs.ok hs.tx⟩
   · rename_i h2; exact absurd h0 h2
 · rename_i h1; exact absurd h0 h1
end Go.Proofs.Ytgkmmnihaiopaaa
