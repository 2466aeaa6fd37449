/-
  .
-/
import Derived.Test.YtgkmmnihaiopaaaJCheckQa
import Derived.Deep.Cut
import Derived.Deep.RegionHeld
import Derived.Test.YtgkmmnihaiopaaaIRowIQa
import Derived.Test.YtgkmmnihaiopaaaJIdsQa
import Derived.Test.YtgkmmnihaiopaaaECopyWQa
import Derived.Deep.CutRange
import Derived.Deep.LoopGhost
import Derived.Deep.AppendLies
import Derived.Test.YtgkmmnihaiopaaaKPlacePQa
import Derived.Laws.MakeOwn
import Derived.Test.YtgkmmnihaiopaaaEDownQa
import Derived.Test.YtgkmmnihaiopaaaGOpenQa
import Derived.Test.YtgkmmnihaiopaaaJPgQa
set_option maxRecDepth 100000
set_option maxHeartbeats 40000000
set_option linter.unusedVariables false
set_option linter.unusedSimpArgs false
namespace Go.Proofs.Ytgkmmnihaiopaaa
open Go.RowKit Go.Shelf
structure Row (w : World) (a : Option Addr) (vs : List SV) : Prop where
 cells : zde w (fun q => q < w.heap.size) a vs
 lies : ∀ x ∈ vs, ZI w x
 fit : ∀ x ∈ vs, ZN x.s
 len : vs.length ≤ 1000000
theorem Row.on {w X : World} {a : Option Addr} {vs : List SV} (h : Row w a vs) (hb : Below w.heap.size w X) : Row X a vs :=
 ⟨h.cells.kept fun y hy => ⟨nL hy hb.size, hb.block y hy⟩, fun x hx => q9.on (h.lies x hx) hb, h.fit, h.len⟩
theorem Row.take {w : World} {a : Option Addr} {vs : List SV} (h : Row w a vs) (k : Nat) : Row w a (vs.take k) :=
 ⟨fun j x hx => h.cells j x (by rw [List.getElem?_take] at hx; split at hx; exact hx; cases hx), fun x hx => h.lies x (List.mem_of_mem_take hx), fun x hx => h.fit x (List.mem_of_mem_take hx), by have := h.len; rw [List.length_take]; omega⟩
structure RowsIn (X : World) (NB R : Nat) (rs : List RH) : Prop where
 box : X.heap[NB]? = some (.cells #[.slice (some ⟨R, 0, none⟩) rs.length rs.length] 126 (0, 0))
 head : X.heap[R]? = some (.cells (rs.map RH.v).toArray 28 (0, 0))
 rows : ∀ r ∈ rs, Row X r.a r.vs
 few : rs.length ≤ 2
theorem RowsIn.j {X : World} {NB R : Nat} {rs : List RH} (h : RowsIn X NB R rs) : ZK X NB R rs (fun q => q < X.heap.size) :=
 ⟨h.box, h.head, lt_of_heap h.box, lt_of_heap h.head, fun _ hy => hy, fun i r hr => (h.rows r (List.mem_of_getElem? hr)).cells⟩
theorem zba : ∀ {rs : List RH} {x : SV}, x ∈ flat rs → ∃ r ∈ rs, x ∈ r.vs
 | [], x, h => by simp [flat] at h
 | r :: rs, x, h => by
   rw [flat, List.mem_append] at h
   rcases h with h | h
   · exact ⟨r, List.mem_cons_self .., h⟩
   · obtain ⟨q, h1, h2⟩ := zba h
     exact ⟨q, List.mem_cons_of_mem _ h1, h2⟩
theorem ze2 {X : World} {NB R : Nat} {rs : List RH} (h : RowsIn X NB R rs) : (flat rs).length ≤ 2000000 := by
 obtain ⟨_, _, h3, h4⟩ := h
 match rs, h3, h4 with
 | [], _, _ => simp [flat]
 | [r], h3, _ => have := (h3 r (by simp)).len; simp [flat]; omega
 | [r, q], h3, _ => have := (h3 r (by simp)).len; have := (h3 q (by simp)).len; simp [flat]; omega
 | _ :: _ :: _ :: _, _, h4 => simp at h4
theorem RowsIn.lies {X : World} {NB R : Nat} {rs : List RH} (h : RowsIn X NB R rs) {x : SV} (hx : x ∈ flat rs) : ZI X x ∧ ZN x.s := by
 obtain ⟨r, h1, h2⟩ := zba hx
 exact ⟨(h.rows r h1).lies x h2, (h.rows r h1).fit x h2⟩
theorem jA {l : List Sf} {k : Nat} {s : Sf} (h : l[k]? = some s) : yV (l.take (k + 1)) = yV (l.take k) + Yo s := by
 rw [List.take_add_one, h, jl]
 simp [yV]
theorem QI (l : List Sf) (k : Nat) : yV (l.take k) ≤ yV l := by
 conv => rhs; rw [← List.take_append_drop k l, jl]
 omega
def steps (vs : List SV) : List Sf := vs.map SV.s
theorem zbC {vs : List SV} {k : Nat} {x : SV} (h : vs[k]? = some x) : (steps vs)[k]? = some x.s := by rw [steps, List.getElem?_map, h]; rfl
theorem jG (vs : List SV) : (steps vs).length = vs.length := by simp [steps]
def Jc (l : List Sf) : Int := if YK l = true then 0 else 3
def zhe (X : World) (l : List Sf) (k : Nat) (v : RV) (V : World) : Prop := Below X.heap.size X V ∧ v.i = 60 - (k : Int) ∧ v.k = 200 - (yV (l.take k) : Int) ∧ k ≤ 60 ∧ yV (l.take k) ≤ 200
def zhf (X : World) (l : List Sf) (k : Nat) (v : RV) (n : Int) (V : World) : Prop := Below X.heap.size X V ∧ n = 3 ∧ YK l = false
theorem zdr {X : World} {NB R : Nat} {rs : List RH} (h : RowsIn X NB R rs) : DoQ Try.prog 70 #[] X.heap.size (fun q => q < X.heap.size) (flat rs) (zhe X (steps (flat rs))) (zhf X (steps (flat rs))) := by
 refine ⟨enters_of Try.func70 (by kernel_rfl) rfl, ?_, ?_, ?_⟩
 · rintro k v V V' ⟨h1, h2⟩ ht
   exact ⟨⟨ht.os.trans h1.os, ht.tape.trans h1.tape, ht.output.trans h1.output, Nat.le_trans h1.size ht.size, fun q hq => (ht.block q (nL hq h1.size) (by omega)).trans (h1.block q hq)⟩, h2⟩
 · rintro k v n V V' ⟨h1, h2⟩ ht
   exact ⟨⟨ht.os.trans h1.os, ht.tape.trans h1.tape, ht.output.trans h1.output, Nat.le_trans h1.size ht.size, fun q hq => (ht.block q (nL hq h1.size) (by omega)).trans (h1.block q hq)⟩, h2⟩
 · rintro k x v W hx hW ⟨hb, hi, hk, hk60, hs⟩
   obtain ⟨hl, hf⟩ := h.lies (List.mem_of_getElem? hx)
   have hxs := zbC hx
   rw [Array.append_empty]
   refine (zb4 W X x v.i v.k hl hb hf (by omega) (by omega)).mono ?_
   rintro e W' ⟨p', q', m, rfl, hb2, hc⟩
   refine ⟨⟨p', q'⟩, m, rfl, hb2.size, fun q hq => hb2.block q (by rcases hq with hq | hq; have := hb.size; omega; omega), fun hm => ?_, fun hm => ?_⟩
   · rcases hc with ⟨_, rfl, rfl, h1, h2⟩ | ⟨h1, _⟩
     · have hq := jA hxs
       exact ⟨hb.trans (hb2.mono hb.size), by show v.i - 1 = _; omega, by show v.k - _ = _; rw [hq]; omega, by omega, by rw [hq]; omega⟩
     · omega
   · rcases hc with ⟨h1, _⟩ | ⟨rfl, h1⟩
     · exact absurd h1 hm
     · refine ⟨hb.trans (hb2.mono hb.size), rfl, ?_⟩
       rw [Bool.eq_false_iff]
       intro ho
       rw [JD] at ho
       have hq := jA hxs
       have h3 := QI (steps (flat rs)) (k + 1)
       have h4 := (List.getElem?_eq_some_iff.1 hxs).1
       rcases h1 with h1 | h1 <;> omega
theorem zeN (X : World) (NB R : Nat) (rs : List RH) (h : RowsIn X NB R rs) :
 Calls Try.prog 46 #[.func (.func 72) #[] #[.pointer (some ⟨NB, 0, none⟩)]] X fun e w' => e = .returned (.int .i64 (Jc (steps (flat rs)))) ∧ Below X.heap.size X w' := by
 have hf := zdA X NB R ⟨60, 200⟩ (zdr h) h.j (by have := h.few; omega) (fun r hr => (h.rows r hr).len) (by have := ze2 h; omega) ⟨Below.refl _ _, by simp, by simp [yV], by omega, by simp [yV]⟩
 have hf2 : Calls Try.prog 69 #[.agg #[.int .i64 60, .int .i64 200], .func (.func 72) #[] #[.pointer (some ⟨NB, 0, none⟩)], .func (.func 70) #[] #[]] X fun e w' => ∃ (p q k : Int), e = .returned (.tuple #[.agg #[.int .i64 p, .int .i64 q], .int .i64 k, .int .i64 (Jc (steps (flat rs)))]) ∧ Below X.heap.size X w' := hf.mono (by
  rintro e w' ⟨k, v, n, rfl, hh⟩
  rcases hh with ⟨rfl, rfl, h1⟩ | ⟨_, _, h1, h2, h3⟩
  · have ho : YK (steps (flat rs)) = true := by
     rw [JD, jG]
     have := h1.2.2.2.2
     rw [List.take_of_length_le (by rw [jG]; exact Nat.le_refl _)] at this
     exact ⟨h1.2.2.2.1, this⟩
    exact ⟨v.i, v.k, _, by rw [Jc, if_pos ho]; rfl, h1.1⟩
  · exact ⟨v.i, v.k, _, by rw [Jc, if_neg (by rw [h3]; exact Bool.false_ne_true), h2]; rfl, h1⟩)
 obtain ⟨c, hc⟩ : ∃ c, c = Jc (steps (flat rs)) := ⟨_, rfl⟩
 rw [← hc] at hf2 ⊢
 have HF := hH hf2
 clear hf hf2 hc h
 go_enter Try.func46, Try.ntmps46
 go_wp2_with fail
 refine HF.out.mono ?_
 rintro e w2 ⟨p, q, k, rfl, hb⟩
 have HB := hH (hb.trans ((zh w2 (.cells #[.int .i64 p, .int .i64 q] 121)).mono hb.size))
 clear hb HF
 go_wp2_with fail
 go_ret
 exact ⟨rfl, HB.out⟩
theorem zcx {X : World} {a : Option Addr} {c : Nat} {vs : List SV} {NB R : Nat} (h : Row X a vs) (h1 : X.heap[NB]? = some (.cells #[.slice (some ⟨R, 0, none⟩) 1 1] 126 (0, 0))) (h2 : X.heap[R]? = some (.cells #[.slice a vs.length c] 28 (0, 0))) : RowsIn X NB R [⟨a, c, vs⟩] :=
 ⟨h1, h2, fun r hr => by rw [List.mem_singleton] at hr; subst hr; exact h, by simp⟩
theorem ze3 (a : Option Addr) (c : Nat) (vs : List SV) : flat [⟨a, c, vs⟩] = vs := by simp [flat]
theorem zc9 (w : World) (a : Option Addr) (n c : Nat) (vs : List SV) (hn : n = vs.length) (h : Row w a vs) :
 Calls Try.prog 30 #[.slice a n c] w fun e w' => e = .returned (.int .i64 (Jc (steps vs))) ∧ Below w.heap.size w w' := by
 obtain ⟨X, hX⟩ : ∃ X, X = zq w [.cells #[.slice a n c] 28, .cells #[.slice (some ⟨w.heap.size, 0, none⟩) 1 1] 126] := ⟨_, rfl⟩
 have hb : Below w.heap.size w X := by rw [hX]; exact zm _ _
 have e0 : X.heap[w.heap.size]? = some (.cells #[.slice a n c] 28 (0, 0)) := by rw [hX]; exact zi _ _ 0 _ rfl
 have e1 : X.heap[w.heap.size + 1]? = some (.cells #[.slice (some ⟨w.heap.size, 0, none⟩) 1 1] 126 (0, 0)) := by rw [hX]; exact zi _ _ 1 _ rfl
 have hc := zeN X (w.heap.size + 1) w.heap.size _ (zcx (c := c) (h.on hb) e1 (by rw [← hn]; exact e0))
 rw [ze3] at hc
 have HC := hH hc
 have HX := hH hX
 have HB := hH hb
 obtain ⟨m, hm⟩ : ∃ m, m = Jc (steps vs) := ⟨_, rfl⟩
 rw [← hm] at HC ⊢
 clear hc hX hb e0 e1 hm h hn
 go_enter Try.func30, Try.ntmps30
 go_wp2_with (go_at_call 47; refine (zdE _ _ _ _).mono ?_; rintro e w2 ⟨rfl, rfl⟩)
 change Calls _ _ _ (zq w [.cells #[.slice a n c] 28, .cells #[.slice (some ⟨w.heap.size, 0, none⟩) 1 1] 126]) _
 rw [← HX.out]
 refine HC.out.mono ?_
 rintro e w3 ⟨rfl, hb3⟩
 have HB3 := hH (HB.out.trans (hb3.mono HB.out.size))
 clear hb3 HC HX
 go_wp2_with fail
 go_ret
 exact ⟨rfl, HB3.out⟩
def zhm (N0 : Nat) (q : Nat) : Prop := N0 ≤ q ∧ q < N0 + 7
structure zbQ (w : World) (GB : Nat) (g : Gr) (ga : Option Addr) (gc : Nat) : Prop where
 box : w.heap[GB]? = some (.cells #[.slice ga g.kinds.length gc, .int .i64 g.root] 24 (0, 0))
 all : ∀ Y, Below w.heap.size w Y → GrV Y (.agg #[.slice ga g.kinds.length gc, .int .i64 g.root]) g
 few : g.few
theorem zbQ.on {w X : World} {GB : Nat} {g : Gr} {ga : Option Addr} {gc : Nat} (h : zbQ w GB g ga gc) (hb : Below w.heap.size w X) : zbQ X GB g ga gc :=
 ⟨(hb.block _ (lt_of_heap h.box)).trans h.box, fun Y hY => h.all Y (hb.trans (hY.mono hb.size)), h.few⟩
def zgT (N0 : Nat) (E0 : Nat → Prop) (q : Nat) : Prop := zhm N0 q ∨ E0 q
theorem qm.own {N0 : Nat} {E0 : Nat → Prop} {V V' : World} {f : Fo} {a : Option Addr} {c : Nat} (h : qm V (zgT N0 E0) f a c) (ht : zk V V' (fun x => N0 ≤ x ∧ x < N0 + 7)) : qm V' (zgT N0 E0) f a c :=
 ⟨h.1, h.2.kept fun q hq => ⟨⟨nL hq.1 ht.size, hq.2⟩, ht.block q hq.1 (fun hn => hq.2 (Or.inl hn))⟩⟩
def zg4 (w : World) (e : Ending) (w' : World) : Prop := e = .returned (.bool true) ∧ Below w.heap.size w w'
def zgy (a : Option Addr) (q : Nat) : Prop := ∃ d, a = some d ∧ d.block = q
theorem zaC {a : Option Addr} {n c q : Nat} : some q = (Value.slice a n c).ownBlock ↔ zgy a q := zf0
def Ex (F : Nat → Prop) (a : Option Addr) (q : Nat) : Prop := F q ∨ zgy a q
structure jb (w : World) (F : Nat → Prop) (base BB : Nat) (ba : Option Addr) (bc : Nat) (bs : List Sf) (ys : List Value) : Prop where
 box : w.heap[BB]? = some (.cells #[.slice ba bs.length bc] 28 (0, 0))
 row : w.ownsRow base 49 9 (.slice ba bs.length bc) bs.length ys
 lies : zc8 w (Ex F ba) bs ys
 base : base ≤ w.heap.size
theorem jb.kept {w X : World} {F : Nat → Prop} {base BB : Nat} {ba : Option Addr} {bc : Nat} {bs : List Sf} {ys : List Value} (h : jb w F base BB ba bc bs ys) (hs : w.heap.size ≤ X.heap.size) (hk : ∀ q, q < w.heap.size → (q = BB ∨ zgy ba q ∨ ¬ Ex F ba q) → X.heap[q]? = w.heap[q]?) : jb X F base BB ba bc bs ys :=
 ⟨(hk _ (lt_of_heap h.box) (Or.inl rfl)).trans h.box, zG h.row (fun g cur hc hg => hk g (lt_of_some hc) (Or.inr (Or.inl (zaC.1 hg.symm)))), h.lies.kept fun f a c hl => ⟨hl.1, hl.2.kept fun q hq => ⟨⟨nL hq.1 hs, hq.2⟩, hk q hq.1 (Or.inr (Or.inr hq.2))⟩⟩, Nat.le_trans h.base hs⟩
theorem jb.on {w X : World} {F : Nat → Prop} {base BB : Nat} {ba : Option Addr} {bc : Nat} {bs : List Sf} {ys : List Value} (h : jb w F base BB ba bc bs ys) (hb : Below w.heap.size w X) : jb X F base BB ba bc bs ys := h.kept hb.size (fun q hq _ => hb.block q hq)
def goA (t : Tr) : List Sf → Option Tr
 | [] => some t
 | s :: l => if (s.on t).2 = 0 then goA (s.on t).1 l else none
def JV (t : Tr) : List Sf → List Sf
 | [] => []
 | s :: l => s.inv t :: JV (s.on t).1 l
def zep (Y0 X : World) (BB : Nat) (V : World) : Prop := Below Y0.heap.size Y0 V ∧ X.heap.size ≤ V.heap.size ∧ ∀ q, q < X.heap.size → q ≠ BB → V.heap[q]? = X.heap[q]?
theorem zep.own {Y0 X : World} {BB : Nat} {V V' : World} (h : zep Y0 X BB V) (hY : Y0.heap.size ≤ X.heap.size) (ht : zk V V' (fun x => X.heap.size ≤ x ∧ x < X.heap.size + 7)) : zep Y0 X BB V' := by
 obtain ⟨h1, h2, h3⟩ := h
 exact ⟨⟨ht.os.trans h1.os, ht.tape.trans h1.tape, ht.output.trans h1.output, Nat.le_trans h1.size ht.size, fun q hq => (ht.block q (nL hq h1.size) (by omega)).trans (h1.block q hq)⟩, Nat.le_trans h2 ht.size, fun q hq hn => (ht.block q (by omega) (by omega)).trans (h3 q hq hn)⟩
def zcI (Y0 : World) (G : Nat → Prop) (BB : Nat) (t : Tr) (l : List Sf) (n : Int) (W : World) : Prop := (n = 0 ∧ ∃ x ba bc ys, goA t l = some x ∧ jb W G Y0.heap.size BB ba bc (JV t l) ys) ∨ (n ≠ 0 ∧ goA t l = none ∧ ∃ ba m bc, W.heap[BB]? = some (.cells #[.slice ba m bc] 28 (0, 0)))
def YY (Y0 : World) (G : Nat → Prop) (BB : Nat) (t : Tr) (l : List Sf) (n : Int) (xa : Option Addr) (xm xc : Nat) (W : World) : Prop := (n = 0 ∧ (∃ x, goA t l = some x) ∧ ∃ ys, xm = (JV t l).length ∧ jb W G Y0.heap.size BB xa xc (JV t l) ys) ∨ (n ≠ 0 ∧ goA t l = none)
theorem zcI.box {Y0 : World} {G : Nat → Prop} {BB : Nat} {t : Tr} {l : List Sf} {n : Int} {W : World} (h : zcI Y0 G BB t l n W) : ∃ xa xm xc, W.heap[BB]? = some (.cells #[.slice xa xm xc] 28 (0, 0)) ∧ YY Y0 G BB t l n xa xm xc W := by
 rcases h with ⟨h0, x, ba, bc, ys, h1, h2⟩ | ⟨h0, h1, ba, m, bc, h2⟩
 · exact ⟨ba, _, bc, h2.box, .inl ⟨h0, ⟨x, h1⟩, ys, rfl, h2⟩⟩
 · exact ⟨ba, m, bc, h2, .inr ⟨h0, h1⟩⟩
theorem YY.set {Y0 : World} {G : Nat → Prop} {BB R : Nat} {t : Tr} {l : List Sf} {n : Int} {xa : Option Addr} {xm xc : Nat} {W X : World} {cs : Array Value} (h : YY Y0 G BB t l n xa xm xc W) (hG : G R) (hne : BB < R) (hR : W.heap[R]? = some (.cells cs 27 (0, 0))) (hs : X.heap.size = W.heap.size) (hk : ∀ q, q ≠ R → X.heap[q]? = W.heap[q]?) : YY Y0 G BB t l n xa xm xc X := by
 rcases h with ⟨h1, h2, ys, h3, h4⟩ | h
 · refine .inl ⟨h1, h2, ys, h3, h4.kept (by rw [hs]; exact Nat.le_refl _) (fun q h5 h6 => hk q (fun e => ?_))⟩
   subst e
   rcases h6 with h6 | h6 | h6
   · omega
   · obtain ⟨d, hd⟩ := zdV h4.row (zaC.2 h6).symm
     exact absurd (zhc hd hR) (by decide)
   · exact h6 (Or.inl hG)
 · exact .inr h
end Go.Proofs.Ytgkmmnihaiopaaa
namespace Go.Proofs.Ytgkmmnihaiopaaa
open Go.RowKit
structure zbV (s : Sf) : Prop where
 op : (Lit.int .i8 s.op).wf = true
 len : foLen s.sub.kids ≤ 9223372036854775807
 fit : vP s.sub.kids
 ok : okF (spF 1 (zl s.sub))
 tx : (s.tx.size : Int) ≤ 9223372036854775807
structure JM (w : World) (a : Option Addr) (vs : List SV) : Prop where
 cells : zde w (fun q => q < w.heap.size) a vs
 lies : ∀ x ∈ vs, ZI w x
 inn : ∀ x ∈ vs, zbV x.s
theorem JM.on {w X : World} {a : Option Addr} {vs : List SV} (h : JM w a vs) (hb : Below w.heap.size w X) : JM X a vs :=
 ⟨h.cells.kept fun y hy => ⟨nL hy hb.size, hb.block y hy⟩, fun x hx => q9.on (h.lies x hx) hb, h.inn⟩
def zbU (vs : List SV) : Prop := vs.length ≤ 70 ∧ ∀ x ∈ vs, zg x.s.sub.kids + 1 ≤ 250
theorem JM.row {w : World} {a : Option Addr} {vs : List SV} (h : JM w a vs) (hs : zbU vs) : Row w a vs :=
 ⟨h.cells, h.lies, fun x hx => ⟨(h.inn x hx).op, hs.2 x hx, (h.inn x hx).ok, (h.inn x hx).tx⟩, by have := hs.1; omega⟩
def zfD (w : World) (vs : List SV) (e : Ending) (w' : World) : Prop := ∃ b, e = .returned (.bool b) ∧ (b = false → zbU vs) ∧ Below w.heap.size w w'
theorem zaZ (w : World) (la : Option Addr) (n c : Nat) (vs : List SV) (hn : n = vs.length) (h : JM w la vs) :
 Calls Try.prog 15 #[.slice la n c] w (zfD w vs) := by
 have HR := hH h
 have HN := hH hn
 clear h hn
 go_enter Try.func15, Try.ntmps15
 by_cases h70 : 70 < n
 · have h70i : (70 : Int) < (n : Int) := by omega
   go_wp2_with fail
   go_ret
   exact ⟨true, rfl, (fun h => by cases h), Below.refl _ _⟩
 · have h70i : ¬ (70 : Int) < (n : Int) := by omega
   go_wp2_with fail
   go_loopg [3, 4, 11] n (fun gk n1 n2 i wr => ∃ (k : Nat) (p q : Int), gk + k = n ∧ i = .int .i64 (k : Int) ∧ n1 = .int .i64 p ∧ n2 = .int .i64 q ∧ 0 ≤ p ∧ p ≤ 300 ∧ 0 ≤ q ∧ q ≤ 20000 ∧ Hid (Below w.heap.size w wr ∧ ∀ j x, j < k → vs[j]? = some x → zg x.s.sub.kids + 1 ≤ 250))
   case atStart => exact ⟨0, 0, 0, by omega, rfl, rfl, rfl, by omega, by omega, by omega, by omega, hH ⟨Below.refl _ _, fun j x h => by omega⟩⟩
   case round =>
    obtain ⟨k, p, q, hk, rfl, rfl, rfl, hp0, hp1, hq0, hq1, hh⟩ := hrel
    obtain ⟨wo, hwo⟩ : ∃ wo, wo = wr := ⟨_, rfl⟩
    subst hwo
    by_cases hkn : k < n
    · have hki : (k : Int) < (n : Int) := by omega
      obtain ⟨x, hx⟩ : ∃ x, vs[k]? = some x := ⟨_, List.getElem?_eq_getElem (by rw [← HN.out]; exact hkn)⟩
      have hxm := List.mem_of_getElem? hx
      obtain ⟨b, off, rfl, hbl, hcs⟩ := HR.out.cells k x hx
      obtain ⟨sn, hsn⟩ : ∃ sn, sn = foLen x.s.sub.kids := ⟨_, rfl⟩
      have hce : ∀ X, Below w.heap.size w X → X.cell? ⟨b, off + k * 9 + 4, none⟩ = some (.string x.s.tx) ∧ X.cell? ⟨b, off + k * 9 + 5, none⟩ = some (.int .i64 x.s.sub.id) ∧ X.cell? ⟨b, off + k * 9 + 6, none⟩ = some (.int .i64 x.s.sub.kind) ∧ X.cell? ⟨b, off + k * 9 + 7, none⟩ = some (.string x.s.sub.text) ∧ X.cell? ⟨b, off + k * 9 + 8, none⟩ = some (.slice x.a sn x.c) := fun X hX => by
       have h := fun j u hj => (World.cell?_of_block (a := ⟨b, off + k * 9 + j, none⟩) (hX.block b hbl)).trans (hcs j u hj)
       rw [hsn]
       exact ⟨h 4 _ rfl, h 5 _ rfl, h 6 _ rfl, h 7 _ rfl, h 8 _ rfl⟩
      have hin := HR.out.inn x hxm
      have htr : ∀ X, Below w.heap.size w X → zH X (fun y => y < w.heap.size) (.agg #[.int .i64 x.s.sub.id, .int .i64 x.s.sub.kind, .string x.s.sub.text, .slice x.a sn x.c]) x.s.sub := fun X hX => by rw [hsn]; exact (HR.out.lies x hxm).at hX
      have hgr : ∀ X, Below w.heap.size w X → Calls Try.prog 14 #[.agg #[.int .i64 x.s.sub.id, .int .i64 x.s.sub.kind, .string x.s.sub.text, .slice x.a sn x.c]] X (zcH X x.s.sub) := fun X hX => QE X _ _ x.s.sub hin.len hin.fit (fun y hy => nL hy hX.size) (htr X hX)
      have hwk : ∀ X, Below w.heap.size w X → Calls Try.prog 6 #[.agg #[.int .i64 x.s.sub.id, .int .i64 x.s.sub.kind, .string x.s.sub.text, .slice x.a sn x.c], .int .i64 251] X (WalkM X (fun y => y < w.heap.size) x.s.sub 251) := fun X hX => kX 251 (by omega) X _ _ x.s.sub hin.len hin.fit (fun y hy => nL hy hX.size) (htr X hX)
      have HG := hH (aN hgr hwk)
      have HCE := hH hce
      have HX := hH hx
      have HHB := hH hh.out.2
      have HBR := hH hh.out.1
      have HKN := hH (aN hk hkn)
      obtain ⟨c4, c5, c6, c7, c8⟩ := hce wo hh.out.1
      have HGR := hH (hgr wo hh.out.1)
      have htx := hin.tx
      clear hgr hwk hce hx hh hk hxm hcs hin htr hsn hbl
      go_wp2_with fail
      refine HGR.out.mono ?_
      rintro e w1 ⟨bg, rfl, hbg, hb1⟩
      have HB1 := hH (HBR.out.trans (hb1.mono HBR.out.size))
      have HBG := hH hbg
      clear c4 c5 c6 c7 c8 hb1 hbg HGR
      obtain ⟨c4, c5, c6, c7, c8⟩ := HCE.out w1 HB1.out
      have hqw : IntKind.i64.wrap (20000 - q) = 20000 - q := IntWalk.i64_in _ (by omega)
      cases bg
      · have HSZ := hH (HBG.out rfl)
        have HWK := hH (HG.out.2 w1 HB1.out)
        obtain ⟨tz, htz⟩ : ∃ tz : Nat, tz = x.s.tx.size := ⟨_, rfl⟩
        by_cases hbig : (20000 - q) < (x.s.tx.size : Int)
        · go_wp2_with fail
          go_ret
          exact ⟨true, rfl, (fun e => by cases e), HB1.out⟩
        · have hqw2 : IntKind.i64.wrap (q + (x.s.tx.size : Int)) = q + (x.s.tx.size : Int) := IntWalk.i64_in _ (by omega)
          have HQ2 := hH (show 0 ≤ q + (x.s.tx.size : Int) ∧ q + (x.s.tx.size : Int) ≤ 20000 by omega)
          clear htz
          go_wp2_with fail
          refine HWK.out.mono ?_
          rintro e w3 ⟨ya, yc, rfl, _, hb3⟩
          have HB3 := hH (HB1.out.trans (hb3.mono HB1.out.size))
          obtain ⟨ln, hln⟩ : ∃ ln, ln = ((spF 1 (zl x.s.sub)).take 251).length := ⟨_, rfl⟩
          rw [← hln]
          have hn2 : ln ≤ 251 := by rw [hln, List.length_take]; omega
          clear hln hb3 c4 c5 c6 c7 c8 hbig hqw2 hqw
          have hpw : IntKind.i64.wrap (p + (ln : Int)) = p + (ln : Int) := IntWalk.i64_in _ (by omega)
          have HP2 := hH (show 0 ≤ p + (ln : Int) by omega)
          by_cases h300 : (300 : Int) < p + (ln : Int)
          · go_wp2_with fail
            go_ret
            exact ⟨true, rfl, (fun e => by cases e), HB3.out⟩
          · have HP3 := hH h300
            go_wp2_with fail
            go_roundg (gk - 1)
            case measure => have := HKN.out; omega
            case rel => exact ⟨k + 1, p + (ln : Int), q + (x.s.tx.size : Int), by have := HKN.out; omega, by go_num, rfl, rfl, HP2.out, by have := HP3.out; omega, HQ2.out.1, HQ2.out.2, hH ⟨HB3.out, fun j y hj hy => by
             rcases Nat.lt_or_ge j k with h | h
             · exact HHB.out j y h hy
             · have : j = k := by omega
               subst this
               rw [HX.out] at hy; cases hy; exact HSZ.out⟩⟩
      · go_wp2_with fail
        go_ret
        exact ⟨true, rfl, (fun e => by cases e), HB1.out⟩
    · have hki : ¬ (k : Int) < (n : Int) := by omega
      have HE := hH (show zbU vs from ⟨by rw [← HN.out]; omega, fun x hx => by
       obtain ⟨j, hj, e⟩ := List.mem_iff_getElem.1 hx
       exact hh.out.2 j x (by have := HN.out; omega) (by rw [List.getElem?_eq_getElem hj, e])⟩)
      have HB := hH hh.out.1
      clear hh hk hkn
      go_wp2_with fail
      go_ret
      exact ⟨false, rfl, fun _ => HE.out, HB.out⟩
end Go.Proofs.Ytgkmmnihaiopaaa
namespace Go.Proofs.Ytgkmmnihaiopaaa
open Go.RowKit Go.Shelf
theorem zce {g : Gr} (h : kG g = false) : g.few ∧ g.kinds.length ≤ 40 := by
 simp only [kG, Bool.or_eq_false_iff, decide_eq_false_iff_not, List.any_eq_false] at h
 refine ⟨⟨by omega, fun k hk => ?_⟩, by omega⟩
 have h1 := h.2 k hk
 simp only [jP, Bool.or_eq_true, decide_eq_true_eq, List.any_eq_true, not_or, not_exists, not_and] at h1
 refine ⟨by omega, by omega, fun s hs => ?_⟩
 have h2 := h1.2 s hs
 simp only [Zr, decide_eq_true_eq] at h2
 show s.kinds.length ≤ 1000000
 omega
end Go.Proofs.Ytgkmmnihaiopaaa
