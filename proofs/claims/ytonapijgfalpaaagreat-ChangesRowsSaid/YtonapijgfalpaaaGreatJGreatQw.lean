/-
  .
-/
import Derived.Test.YtonapijgfalpaaaGreatJCheckQw
import Derived.Test.YtonapijgfalpaaaGreatKOpenQw
import Derived.Test.YtonapijgfalpaaaGreatJPgQw
set_option maxRecDepth 100000
set_option maxHeartbeats 40000000
set_option linter.unusedVariables false
set_option linter.unusedSimpArgs false
namespace Go.Proofs.YtonapijgfalpaaaGreat
open Go.RowKit Go.Shelf
structure Row (w : World) (a : Option Addr) (vs : List SV) : Prop where
 cells : zc5 w (fun q => q < w.heap.size) a vs
 lies : ∀ x ∈ vs, qE w x
 fit : ∀ x ∈ vs, yA x.s
 len : vs.length ≤ 1000000
theorem Row.on {w X : World} {a : Option Addr} {vs : List SV} (h : Row w a vs) (hb : Below w.heap.size w X) : Row X a vs :=
 ⟨h.cells.kept fun y hy => ⟨nL hy hb.size, hb.block y hy⟩, fun x hx => zU.on (h.lies x hx) hb, h.fit, h.len⟩
structure RowsIn (X : World) (NB R : Nat) (rs : List RH) : Prop where
 box : X.heap[NB]? = some (.cells #[.slice (some ⟨R, 0, none⟩) rs.length rs.length] 91 (0, 0))
 head : X.heap[R]? = some (.cells (rs.map RH.v).toArray 22 (0, 0))
 rows : ∀ r ∈ rs, Row X r.a r.vs
 few : rs.length ≤ 2
theorem RowsIn.j {X : World} {NB R : Nat} {rs : List RH} (h : RowsIn X NB R rs) : jr X NB R rs (fun q => q < X.heap.size) :=
 ⟨h.box, h.head, lt_of_heap h.box, lt_of_heap h.head, fun _ hy => hy, fun i r hr => (h.rows r (List.mem_of_getElem? hr)).cells⟩
theorem zbh : ∀ {rs : List RH} {x : SV}, x ∈ flat rs → ∃ r ∈ rs, x ∈ r.vs
 | [], x, h => by simp [flat] at h
 | r :: rs, x, h => by
   rw [flat, List.mem_append] at h
   rcases h with h | h
   · exact ⟨r, List.mem_cons_self .., h⟩
   · obtain ⟨q, h1, h2⟩ := zbh h
     exact ⟨q, List.mem_cons_of_mem _ h1, h2⟩
theorem J8 {X : World} {NB R : Nat} {rs : List RH} (h : RowsIn X NB R rs) : (flat rs).length ≤ 2000000 := by
 obtain ⟨_, _, h3, h4⟩ := h
 match rs, h3, h4 with
 | [], _, _ => simp [flat]
 | [r], h3, _ => have := (h3 r (by simp)).len; simp [flat]; omega
 | [r, q], h3, _ => have := (h3 r (by simp)).len; have := (h3 q (by simp)).len; simp [flat]; omega
 | _ :: _ :: _ :: _, _, h4 => simp at h4
theorem RowsIn.lies {X : World} {NB R : Nat} {rs : List RH} (h : RowsIn X NB R rs) {x : SV} (hx : x ∈ flat rs) : qE X x ∧ yA x.s := by
 obtain ⟨r, h1, h2⟩ := zbh hx
 exact ⟨(h.rows r h1).lies x h2, (h.rows r h1).fit x h2⟩
theorem qR {l : List Sf} {k : Nat} {s : Sf} (h : l[k]? = some s) : zV (l.take (k + 1)) = zV (l.take k) + q9 s := by
 rw [List.take_add_one, h, vZ]
 simp [zV]
theorem jZ (l : List Sf) (k : Nat) : zV (l.take k) ≤ zV l := by
 conv => rhs; rw [← List.take_append_drop k l, vZ]
 omega
def steps (vs : List SV) : List Sf := vs.map SV.s
theorem yD {vs : List SV} {k : Nat} {x : SV} (h : vs[k]? = some x) : (steps vs)[k]? = some x.s := by rw [steps, List.getElem?_map, h]; rfl
theorem zD (vs : List SV) : (steps vs).length = vs.length := by simp [steps]
def qf (l : List Sf) : Int := if qd l = true then 0 else 3
def zg8 (X : World) (l : List Sf) (k : Nat) (v : RV) (V : World) : Prop := Below X.heap.size X V ∧ v.i = 60 - (k : Int) ∧ v.k = 200 - (zV (l.take k) : Int) ∧ k ≤ 60 ∧ zV (l.take k) ≤ 200
def zg1 (X : World) (l : List Sf) (k : Nat) (v : RV) (n : Int) (V : World) : Prop := Below X.heap.size X V ∧ n = 3 ∧ qd l = false
theorem zc9 {X : World} {NB R : Nat} {rs : List RH} (h : RowsIn X NB R rs) : DoQ Tryz.prog 51 #[] X.heap.size (fun q => q < X.heap.size) (flat rs) (zg8 X (steps (flat rs))) (zg1 X (steps (flat rs))) := by
 refine ⟨enters_of Tryz.func51 (by kernel_rfl) rfl, ?_, ?_, ?_⟩
 · rintro k v V V' ⟨h1, h2⟩ ht
   exact ⟨⟨ht.os.trans h1.os, ht.tape.trans h1.tape, ht.output.trans h1.output, Nat.le_trans h1.size ht.size, fun q hq => (ht.block q (nL hq h1.size) (by omega)).trans (h1.block q hq)⟩, h2⟩
 · rintro k v n V V' ⟨h1, h2⟩ ht
   exact ⟨⟨ht.os.trans h1.os, ht.tape.trans h1.tape, ht.output.trans h1.output, Nat.le_trans h1.size ht.size, fun q hq => (ht.block q (nL hq h1.size) (by omega)).trans (h1.block q hq)⟩, h2⟩
 · rintro k x v W hx hW ⟨hb, hi, hk, hk60, hs⟩
   obtain ⟨hl, hf⟩ := h.lies (List.mem_of_getElem? hx)
   have hxs := yD hx
   rw [Array.append_empty]
   refine (zbo W X x v.i v.k hl hb hf (by omega) (by omega)).mono ?_
   rintro e W' ⟨p', q', m, rfl, hb2, hc⟩
   refine ⟨⟨p', q'⟩, m, rfl, hb2.size, fun q hq => hb2.block q (by rcases hq with hq | hq; have := hb.size; omega; omega), fun hm => ?_, fun hm => ?_⟩
   · rcases hc with ⟨_, rfl, rfl, h1, h2⟩ | ⟨h1, _⟩
     · have hq := qR hxs
       exact ⟨hb.trans (hb2.mono hb.size), by show v.i - 1 = _; omega, by show v.k - _ = _; rw [hq]; omega, by omega, by rw [hq]; omega⟩
     · omega
   · rcases hc with ⟨h1, _⟩ | ⟨rfl, h1⟩
     · exact absurd h1 hm
     · refine ⟨hb.trans (hb2.mono hb.size), rfl, ?_⟩
       rw [Bool.eq_false_iff]
       intro ho
       rw [qB] at ho
       have hq := qR hxs
       have h3 := jZ (steps (flat rs)) (k + 1)
       have h4 := (List.getElem?_eq_some_iff.1 hxs).1
       rcases h1 with h1 | h1 <;> omega
theorem zam (X : World) (NB R : Nat) (rs : List RH) (h : RowsIn X NB R rs) :
 Calls Tryz.prog 23 #[.func (.func 53) #[] #[.pointer (some ⟨NB, 0, none⟩)]] X fun e w' => e = .returned (.int .i64 (qf (steps (flat rs)))) ∧ Below X.heap.size X w' := by
 have hf := zcB X NB R ⟨60, 200⟩ (zc9 h) h.j (by have := h.few; omega) (fun r hr => (h.rows r hr).len) (by have := J8 h; omega) ⟨Below.refl _ _, by simp, by simp [zV], by omega, by simp [zV]⟩
 have hf2 : Calls Tryz.prog 50 #[.agg #[.int .i64 60, .int .i64 200], .func (.func 53) #[] #[.pointer (some ⟨NB, 0, none⟩)], .func (.func 51) #[] #[]] X fun e w' => ∃ (p q k : Int), e = .returned (.tuple #[.agg #[.int .i64 p, .int .i64 q], .int .i64 k, .int .i64 (qf (steps (flat rs)))]) ∧ Below X.heap.size X w' := hf.mono (by
  rintro e w' ⟨k, v, n, rfl, hh⟩
  rcases hh with ⟨rfl, rfl, h1⟩ | ⟨_, _, h1, h2, h3⟩
  · have ho : qd (steps (flat rs)) = true := by
     rw [qB, zD]
     have := h1.2.2.2.2
     rw [List.take_of_length_le (by rw [zD]; exact Nat.le_refl _)] at this
     exact ⟨h1.2.2.2.1, this⟩
    exact ⟨v.i, v.k, _, by rw [qf, if_pos ho]; rfl, h1.1⟩
  · exact ⟨v.i, v.k, _, by rw [qf, if_neg (by rw [h3]; exact Bool.false_ne_true), h2]; rfl, h1⟩)
 obtain ⟨c, hc⟩ : ∃ c, c = qf (steps (flat rs)) := ⟨_, rfl⟩
 rw [← hc] at hf2 ⊢
 have HF := hH hf2
 clear hf hf2 hc h
 go_enter Tryz.func23, Tryz.ntmps23
 go_wp2_with fail
 refine HF.out.mono ?_
 rintro e w2 ⟨p, q, k, rfl, hb⟩
 have HB := hH (hb.trans ((zh w2 (.cells #[.int .i64 p, .int .i64 q] 86)).mono hb.size))
 clear hb HF
 go_wp2_with fail
 go_ret
 exact ⟨rfl, HB.out⟩
theorem Y3 {X : World} {a : Option Addr} {c : Nat} {vs : List SV} {NB R : Nat} (h : Row X a vs) (h1 : X.heap[NB]? = some (.cells #[.slice (some ⟨R, 0, none⟩) 1 1] 91 (0, 0))) (h2 : X.heap[R]? = some (.cells #[.slice a vs.length c] 22 (0, 0))) : RowsIn X NB R [⟨a, c, vs⟩] :=
 ⟨h1, h2, fun r hr => by rw [List.mem_singleton] at hr; subst hr; exact h, by simp⟩
theorem qJ (a : Option Addr) (c : Nat) (vs : List SV) : flat [⟨a, c, vs⟩] = vs := by simp [flat]
theorem Jn (w : World) (a : Option Addr) (n c : Nat) (vs : List SV) (hn : n = vs.length) (h : Row w a vs) :
 Calls Tryz.prog 38 #[.slice a n c] w fun e w' => e = .returned (.int .i64 (qf (steps vs))) ∧ Below w.heap.size w w' := by
 obtain ⟨X, hX⟩ : ∃ X, X = zo w [.cells #[.slice a n c] 22, .cells #[.slice (some ⟨w.heap.size, 0, none⟩) 1 1] 91] := ⟨_, rfl⟩
 have hb : Below w.heap.size w X := by rw [hX]; exact zk _ _
 have e0 : X.heap[w.heap.size]? = some (.cells #[.slice a n c] 22 (0, 0)) := by rw [hX]; exact zg _ _ 0 _ rfl
 have e1 : X.heap[w.heap.size + 1]? = some (.cells #[.slice (some ⟨w.heap.size, 0, none⟩) 1 1] 91 (0, 0)) := by rw [hX]; exact zg _ _ 1 _ rfl
 have hc := zam X (w.heap.size + 1) w.heap.size _ (Y3 (c := c) (h.on hb) e1 (by rw [← hn]; exact e0))
 rw [qJ] at hc
 have HC := hH hc
 have HX := hH hX
 have HB := hH hb
 obtain ⟨m, hm⟩ : ∃ m, m = qf (steps vs) := ⟨_, rfl⟩
 rw [← hm] at HC ⊢
 clear hc hX hb e0 e1 hm h hn
 go_enter Tryz.func38, Tryz.ntmps38
 go_wp2_with (go_at_call 24; refine (qO _ _ _ _).mono ?_; rintro e w2 ⟨rfl, rfl⟩)
 change Calls _ _ _ (zo w [.cells #[.slice a n c] 22, .cells #[.slice (some ⟨w.heap.size, 0, none⟩) 1 1] 91]) _
 rw [← HX.out]
 refine HC.out.mono ?_
 rintro e w3 ⟨rfl, hb3⟩
 have HB3 := hH (HB.out.trans (hb3.mono HB.out.size))
 clear hb3 HC HX
 go_wp2_with fail
 go_ret
 exact ⟨rfl, HB3.out⟩
end Go.Proofs.YtonapijgfalpaaaGreat
namespace Go.Proofs.YtonapijgfalpaaaGreat
open Go.RowKit
structure zbn (s : Sf) : Prop where
 op : (Lit.int .i8 s.op).wf = true
 len : zb s.sub.kids ≤ 9223372036854775807
 fit : jv s.sub.kids
 ok : okF (spF 1 (zm s.sub))
 tx : (s.tx.size : Int) ≤ 9223372036854775807
structure Qa (w : World) (a : Option Addr) (vs : List SV) : Prop where
 cells : zc5 w (fun q => q < w.heap.size) a vs
 lies : ∀ x ∈ vs, qE w x
 inn : ∀ x ∈ vs, zbn x.s
theorem Qa.on {w X : World} {a : Option Addr} {vs : List SV} (h : Qa w a vs) (hb : Below w.heap.size w X) : Qa X a vs :=
 ⟨h.cells.kept fun y hy => ⟨nL hy hb.size, hb.block y hy⟩, fun x hx => zU.on (h.lies x hx) hb, h.inn⟩
def zcd (vs : List SV) : Prop := vs.length ≤ 70 ∧ ∀ x ∈ vs, ze x.s.sub.kids + 1 ≤ 250
theorem Qa.row {w : World} {a : Option Addr} {vs : List SV} (h : Qa w a vs) (hs : zcd vs) : Row w a vs :=
 ⟨h.cells, h.lies, fun x hx => ⟨(h.inn x hx).op, hs.2 x hx, (h.inn x hx).ok, (h.inn x hx).tx⟩, by have := hs.1; omega⟩
def zfa (w : World) (vs : List SV) (e : Ending) (w' : World) : Prop := ∃ b, e = .returned (.bool b) ∧ (b = false → zcd vs) ∧ Below w.heap.size w w'
theorem Yn (w : World) (la : Option Addr) (n c : Nat) (vs : List SV) (hn : n = vs.length) (h : Qa w la vs) :
 Calls Tryz.prog 5 #[.slice la n c] w (zfa w vs) := by
 have HR := hH h
 have HN := hH hn
 clear h hn
 go_enter Tryz.func5, Tryz.ntmps5
 by_cases h70 : 70 < n
 · have h70i : (70 : Int) < (n : Int) := by omega
   go_wp2_with fail
   go_ret
   exact ⟨true, rfl, (fun h => by cases h), Below.refl _ _⟩
 · have h70i : ¬ (70 : Int) < (n : Int) := by omega
   go_wp2_with fail
   go_loopg [3, 4, 11] n (fun gk n1 n2 i wr => ∃ (k : Nat) (p q : Int), gk + k = n ∧ i = .int .i64 (k : Int) ∧ n1 = .int .i64 p ∧ n2 = .int .i64 q ∧ 0 ≤ p ∧ p ≤ 300 ∧ 0 ≤ q ∧ q ≤ 20000 ∧ Hid (Below w.heap.size w wr ∧ ∀ j x, j < k → vs[j]? = some x → ze x.s.sub.kids + 1 ≤ 250))
   case atStart => exact ⟨0, 0, 0, by omega, rfl, rfl, rfl, by omega, by omega, by omega, by omega, hH ⟨Below.refl _ _, fun j x h => by omega⟩⟩
   case round =>
    obtain ⟨k, p, q, hk, rfl, rfl, rfl, hp0, hp1, hq0, hq1, hh⟩ := hrel
    obtain ⟨wo, hwo⟩ : ∃ wo, wo = wr := ⟨_, rfl⟩
    subst hwo
    by_cases hkn : k < n
    · have hki : (k : Int) < (n : Int) := by omega
      obtain ⟨x, hx⟩ : ∃ x, vs[k]? = some x := ⟨_, List.getElem?_eq_getElem (by rw [← HN.out]; exact hkn)⟩
      have hxm := List.mem_of_getElem? hx
      obtain ⟨b, off, rfl, hbl, hcs⟩ := HR.out.cells k x hx
      obtain ⟨sn, hsn⟩ : ∃ sn, sn = zb x.s.sub.kids := ⟨_, rfl⟩
      have hce : ∀ X, Below w.heap.size w X → X.cell? ⟨b, off + k * 9 + 4, none⟩ = some (.string x.s.tx) ∧ X.cell? ⟨b, off + k * 9 + 5, none⟩ = some (.int .i64 x.s.sub.id) ∧ X.cell? ⟨b, off + k * 9 + 6, none⟩ = some (.int .i64 x.s.sub.kind) ∧ X.cell? ⟨b, off + k * 9 + 7, none⟩ = some (.string x.s.sub.text) ∧ X.cell? ⟨b, off + k * 9 + 8, none⟩ = some (.slice x.a sn x.c) := fun X hX => by
       have h := fun j u hj => (World.cell?_of_block (a := ⟨b, off + k * 9 + j, none⟩) (hX.block b hbl)).trans (hcs j u hj)
       rw [hsn]
       exact ⟨h 4 _ rfl, h 5 _ rfl, h 6 _ rfl, h 7 _ rfl, h 8 _ rfl⟩
      have hin := HR.out.inn x hxm
      have htr : ∀ X, Below w.heap.size w X → zL X (fun y => y < w.heap.size) (.agg #[.int .i64 x.s.sub.id, .int .i64 x.s.sub.kind, .string x.s.sub.text, .slice x.a sn x.c]) x.s.sub := fun X hX => by rw [hsn]; exact (HR.out.lies x hxm).at hX
      have hgr : ∀ X, Below w.heap.size w X → Calls Tryz.prog 16 #[.agg #[.int .i64 x.s.sub.id, .int .i64 x.s.sub.kind, .string x.s.sub.text, .slice x.a sn x.c]] X (zcx X x.s.sub) := fun X hX => zbG X _ _ x.s.sub hin.len hin.fit (fun y hy => nL hy hX.size) (htr X hX)
      have hwk : ∀ X, Below w.heap.size w X → Calls Tryz.prog 22 #[.agg #[.int .i64 x.s.sub.id, .int .i64 x.s.sub.kind, .string x.s.sub.text, .slice x.a sn x.c], .int .i64 251] X (WalkM X (fun y => y < w.heap.size) x.s.sub 251) := fun X hX => kv 251 (by omega) X _ _ x.s.sub hin.len hin.fit (fun y hy => nL hy hX.size) (htr X hX)
      have HG := hH (aN hgr hwk)
      have HCE := hH hce
      have HX := hH hx
      have HHB := hH hh.out.2
      have HBR := hH hh.out.1
      have HKN := hH (aN hk hkn)
      obtain ⟨c4, c5, c6, c7, c8⟩ := hce wo hh.out.1
      have HGR := hH (hgr wo hh.out.1)
      have htx := hin.tx
      clear hgr hwk hce hx hh hk hxm hcs hin htr hsn hbl
      go_wp2_with fail
      refine HGR.out.mono ?_
      rintro e w1 ⟨bg, rfl, hbg, hb1⟩
      have HB1 := hH (HBR.out.trans (hb1.mono HBR.out.size))
      have HBG := hH hbg
      clear c4 c5 c6 c7 c8 hb1 hbg HGR
      obtain ⟨c4, c5, c6, c7, c8⟩ := HCE.out w1 HB1.out
      have hqw : IntKind.i64.wrap (20000 - q) = 20000 - q := IntWalk.i64_in _ (by omega)
      cases bg
      · have HSZ := hH (HBG.out rfl)
        have HWK := hH (HG.out.2 w1 HB1.out)
        obtain ⟨tz, htz⟩ : ∃ tz : Nat, tz = x.s.tx.size := ⟨_, rfl⟩
        by_cases hbig : (20000 - q) < (x.s.tx.size : Int)
        · go_wp2_with fail
          go_ret
          exact ⟨true, rfl, (fun e => by cases e), HB1.out⟩
        · have hqw2 : IntKind.i64.wrap (q + (x.s.tx.size : Int)) = q + (x.s.tx.size : Int) := IntWalk.i64_in _ (by omega)
          have HQ2 := hH (show 0 ≤ q + (x.s.tx.size : Int) ∧ q + (x.s.tx.size : Int) ≤ 20000 by omega)
          clear htz
          go_wp2_with fail
          refine HWK.out.mono ?_
          rintro e w3 ⟨ya, yc, rfl, _, hb3⟩
          have HB3 := hH (HB1.out.trans (hb3.mono HB1.out.size))
          obtain ⟨ln, hln⟩ : ∃ ln, ln = ((spF 1 (zm x.s.sub)).take 251).length := ⟨_, rfl⟩
          rw [← hln]
          have hn2 : ln ≤ 251 := by rw [hln, List.length_take]; omega
          clear hln hb3 c4 c5 c6 c7 c8 hbig hqw2 hqw
          have hpw : IntKind.i64.wrap (p + (ln : Int)) = p + (ln : Int) := IntWalk.i64_in _ (by omega)
          have HP2 := hH (show 0 ≤ p + (ln : Int) by omega)
          by_cases h300 : (300 : Int) < p + (ln : Int)
          · go_wp2_with fail
            go_ret
            exact ⟨true, rfl, (fun e => by cases e), HB3.out⟩
          · have HP3 := hH h300
            go_wp2_with fail
            go_roundg (gk - 1)
            case measure => have := HKN.out; omega
            case rel => exact ⟨k + 1, p + (ln : Int), q + (x.s.tx.size : Int), by have := HKN.out; omega, by go_num, rfl, rfl, HP2.out, by have := HP3.out; omega, HQ2.out.1, HQ2.out.2, hH ⟨HB3.out, fun j y hj hy => by
             rcases Nat.lt_or_ge j k with h | h
             · exact HHB.out j y h hy
             · have : j = k := by omega
               subst this
               rw [HX.out] at hy; cases hy; exact HSZ.out⟩⟩
      · go_wp2_with fail
        go_ret
        exact ⟨true, rfl, (fun e => by cases e), HB1.out⟩
    · have hki : ¬ (k : Int) < (n : Int) := by omega
      have HE := hH (show zcd vs from ⟨by rw [← HN.out]; omega, fun x hx => by
       obtain ⟨j, hj, e⟩ := List.mem_iff_getElem.1 hx
       exact hh.out.2 j x (by have := HN.out; omega) (by rw [List.getElem?_eq_getElem hj, e])⟩)
      have HB := hH hh.out.1
      clear hh hk hkn
      go_wp2_with fail
      go_ret
      exact ⟨false, rfl, fun _ => HE.out, HB.out⟩
end Go.Proofs.YtonapijgfalpaaaGreat
