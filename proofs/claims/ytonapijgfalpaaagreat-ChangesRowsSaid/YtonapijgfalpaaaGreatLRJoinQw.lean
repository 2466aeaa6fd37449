/-
  .
-/
import Derived.Deep.Cut
import Derived.Laws.AppendOwnNone
import Derived.Test.YtonapijgfalpaaaGreatLRIdsQw
import Derived.Test.YtonapijgfalpaaaGreatVWalkQw
import Derived.Test.YtonapijgfalpaaaGreatJSeqQw
import Derived.Test.YtonapijgfalpaaaGreatJPgQw
set_option maxRecDepth 100000
set_option maxHeartbeats 40000000
namespace Go.Proofs.YtonapijgfalpaaaGreat
open Go.RowKit Go.Shelf
set_option linter.unusedVariables false
set_option linter.unusedSimpArgs false
def yx : List Sf → Nat
 | [] => 0
 | s :: l => min (q9 s) 201 + yx l
theorem Z0 : ∀ (l : List Sf) (s : Sf), yx (l ++ [s]) = yx l + min (q9 s) 201
 | [], s => by simp [yx]
 | t :: l, s => by rw [List.cons_append, yx, yx, Z0 l s]; omega
theorem Jm : ∀ l : List Sf, yx l ≤ 201 * l.length
 | [] => Nat.zero_le _
 | t :: l => by have := Jm l; rw [yx, List.length_cons]; omega
theorem kZ : ∀ l : List Sf, yx l ≤ 200 ↔ zV l ≤ 200
 | [] => by simp [yx, zV]
 | t :: l => by
   have h : ∀ l : List Sf, yx l ≤ zV l := fun l => by
    induction l with
    | nil => exact Nat.le_refl _
    | cons a l ih => rw [yx, zV]; omega
   have h1 := h l
   have h2 := kZ l
   rw [yx, zV]
   constructor
   · intro h3
     have := h2.1 (by omega)
     by_cases h4 : q9 t ≤ 200
     · have e : min (q9 t) 201 = q9 t := by omega
       rw [e] at h3
       have h5 : ∀ l : List Sf, yx l ≤ 200 → yx l = zV l := fun l => by
        induction l with
        | nil => intro _; rfl
        | cons a l ih => intro hh; rw [yx] at hh ⊢; rw [zV, ← ih (by omega)]; omega
       rw [h5 l (by omega)] at h3; exact h3
     · omega
   · intro h3; omega
theorem zdT {l : List Sf} (h : l.length ≤ 60) : qf l = if yx l ≤ 200 then 0 else 3 := by
 unfold qf
 by_cases h1 : yx l ≤ 200
 · rw [if_pos h1, if_pos ((qB l).2 ⟨h, (kZ l).1 h1⟩)]
 · rw [if_neg h1, if_neg fun h2 => h1 ((kZ l).2 ((qB l).1 h2).2)]
def zg2 (l : List Sf) (w : World) (e : Ending) (w' : World) : Prop := e = .returned (.int .i64 (qf l)) ∧ Below w.heap.size w w'
theorem zbN (w : World) (la : Option Addr) (n c : Nat) (vs : List SV) (hn : n = vs.length) (h : Row w la vs) :
 Calls Tryz.prog 26 #[.slice la n c] w (zg2 (steps vs) w) := by
 have hn1 : n ≤ 1000000 := by have := h.len; omega
 have H := hH (aN h hn)
 clear h hn
 by_cases h60 : 60 < n
 · have HV := hH (show qf (steps vs) = 3 by
    unfold qf
    rw [if_neg]
    intro h2
    have := ((qB _).1 h2).1
    rw [zD, ← H.out.2] at this
    omega)
   have h60i : (60 : Int) < (n : Int) := by omega
   clear h60
   go_enter Tryz.func26, Tryz.ntmps26
   go_wp2_with fail
   go_ret
   exact ⟨by rw [HV.out]; rfl, Below.refl _ _⟩
 have h60i : ¬ (60 : Int) < (n : Int) := by omega
 have HN60 := hH (show n ≤ 60 by omega)
 clear h60
 go_enter Tryz.func26, Tryz.ntmps26
 go_wp2_with fail
 clear h60i
 go_loopw [3, 4] (fun sv i wr => ∃ (k s : Nat), k ≤ n ∧ i = .int .i64 (k : Int) ∧ sv = .int .i64 (s : Int) ∧ s ≤ 12060 ∧ Hid (s = yx ((steps vs).take k) ∧ Below w.heap.size w wr)) (fun _ i _ => n - (intOf i).toNat)
 case atStart => exact ⟨0, 0, Nat.zero_le _, rfl, rfl, Nat.zero_le _, hH ⟨rfl, Below.refl _ _⟩⟩
 case round =>
  obtain ⟨k, s, hk, rfl, rfl, hs, hh⟩ := hrel
  obtain ⟨wo, hwo⟩ : ∃ wo, wo = wr := ⟨_, rfl⟩
  subst hwo
  by_cases hlt : k < n
  · obtain ⟨x, hx⟩ : ∃ x, vs[k]? = some x := ⟨_, List.getElem?_eq_getElem (by rw [← H.out.2]; exact hlt)⟩
    obtain ⟨b, off, rfl, c0, c1, c2, c3, c4, c5, c6, c7, c8⟩ := H.out.1.at hh.out.2 hx
    have hlx := H.out.1.lies x (List.mem_of_getElem? hx)
    have hfx := (H.out.1.fit x (List.mem_of_getElem? hx)).size
    have hsx := yD hx
    unfold qE at hlx
    obtain ⟨t, xa, xc⟩ := x
    simp only at hlx hfx hsx c0 c1 c2 c3 c4 c5 c6 c7 c8
    obtain ⟨xn, hxn⟩ : ∃ xn, xn = zb t.sub.kids := ⟨_, rfl⟩
    have HWK : Hid (Calls Tryz.prog 22 #[.agg #[.int .i64 t.sub.id, .int .i64 t.sub.kind, .string t.sub.text, .slice xa xn xc], .int .i64 201] wo (WalkM wo (fun q => q < w.heap.size) t.sub 201)) := hH (by
     rw [hxn]
     exact kv 201 (by omega) wo _ _ t.sub (by have := zX t.sub.kids; omega) (jw _ (by omega)) (fun y hy => nL hy hh.out.2.size) (hlx.at hh.out.2))
    rw [← hxn] at c8
    have hst : yx ((steps vs).take (k + 1)) = s + min (q9 t) 201 := by rw [List.take_add_one, hsx, Option.toList_some, Z0, ← hh.out.1]
    have hcl : yx ((steps vs).take (k + 1)) ≤ 12060 := by
     have h1 := Jm ((steps vs).take (k + 1))
     have h2 : ((steps vs).take (k + 1)).length ≤ 60 := by rw [List.length_take]; have := HN60.out; omega
     omega
    have HST := hH (aN hst hcl)
    have HKN := hH (aN hk hlt)
    have HB := hH hh.out.2
    have hkl : (k : Int) < (n : Int) := by omega
    obtain ⟨op, hop⟩ : ∃ op, op = t.op := ⟨_, rfl⟩
    rw [← hop] at c0
    have HOP := hH hop
    have HSZ := hH (show q9 t = if op = 1 then ze t.sub.kids + 1 else 0 by rw [hop]; rfl)
    clear hx hlx hfx hsx hxn hst hcl hk hlt hh hop
    by_cases h1 : op = 1
    · have hb1 : (op == 1) = true := by simpa using h1
      have HS1 := hH (show q9 t = ze t.sub.kids + 1 by rw [HSZ.out, if_pos h1])
      clear h1 HSZ
      go_wp2_with fail
      refine HWK.out.mono ?_
      rintro e w3 ⟨ya, yc, rfl, _, hb3⟩
      have HB3 := hH (HB.out.trans (hb3.mono HB.out.size))
      obtain ⟨ln, hln⟩ : ∃ ln, ln = ((spF 1 (zm t.sub)).take 201).length := ⟨_, rfl⟩
      rw [← hln]
      have hn2 : ln = min (q9 t) 201 := by rw [hln, List.length_take, zS, zI, HS1.out]; omega
      have hn3 : ln ≤ 201 := by omega
      have HLN := hH hn2
      clear hln hb3 hn2 c0 c1 c2 c3 c4 c5 c6 c7 c8 hb1
      have hpw : IntKind.i64.wrap ((s : Int) + (ln : Int)) = (s : Int) + (ln : Int) := IntWalk.i64_in _ (by omega)
      go_wp2_with fail
      exact ⟨⟨k + 1, s + ln, by have := HKN.out.2; omega, by go_num, by push_cast; rfl, by have h := HST.out; rw [HLN.out]; omega, hH ⟨by rw [HST.out.1, HLN.out], HB3.out⟩⟩, by have := HKN.out.2; simp [intOf]; omega⟩
    · have hb1 : (op == 1) = false := by simpa using h1
      have HS1 := hH (show q9 t = 0 by rw [HSZ.out, if_neg h1])
      clear h1 HSZ HWK
      go_wp2_with fail
      exact ⟨⟨k + 1, s, by have := HKN.out.2; omega, by go_num, rfl, hs, hH ⟨by rw [HST.out.1, HS1.out]; simp, HB.out⟩⟩, by have := HKN.out.2; simp [intOf]; omega⟩
  · have hkl : ¬ (k : Int) < (n : Int) := by omega
    have HB := hH hh.out.2
    have HV := hH (show qf (steps vs) = if s ≤ 200 then 0 else 3 by
     rw [zdT (by rw [zD, ← H.out.2]; exact HN60.out)]
     have h1 := hh.out.1
     rw [List.take_of_length_le (by rw [zD, ← H.out.2]; omega)] at h1
     rw [h1])
    clear hh hk hlt
    by_cases h2 : 200 < s
    · have h2i : (200 : Int) < (s : Int) := by omega
      have HW := hH (show qf (steps vs) = 3 by rw [HV.out, if_neg (by omega)])
      clear h2 HV
      go_wp2_with fail
      go_ret
      exact ⟨by rw [HW.out]; rfl, HB.out⟩
    · have h2i : ¬ (200 : Int) < (s : Int) := by omega
      have HW := hH (show qf (steps vs) = 0 by rw [HV.out, if_pos (by omega)])
      clear h2 HV
      go_wp2_with fail
      go_ret
      exact ⟨by rw [HW.out]; rfl, HB.out⟩
def yl (vs : List SV) : List Value := vs.flatMap fun x => yo x.s x.a x.c
theorem Y6 : ∀ vs : List SV, (yl vs).length = vs.length * 9
 | [] => rfl
 | x :: vs => by
   have h := Y6 vs
   show ((x :: vs).flatMap fun x => yo x.s x.a x.c).length = _
   rw [List.flatMap_cons, List.length_append, List.length_cons]
   show 9 + (yl vs).length = _
   omega
theorem Jr : ∀ {vs : List SV} {i : Nat} {u : Value}, (yl vs)[i]? = some u → ∃ k j x, i = k * 9 + j ∧ vs[k]? = some x ∧ (yo x.s x.a x.c)[j]? = some u
 | [], i, u, h => by simp [yl] at h
 | x :: vs, i, u, h => by
   have e : yl (x :: vs) = yo x.s x.a x.c ++ yl vs := rfl
   rw [e] at h
   by_cases hi : i < 9
   · rw [List.getElem?_append_left (by simpa [yo] using hi)] at h
     exact ⟨0, i, x, by omega, rfl, h⟩
   · rw [List.getElem?_append_right (by simp [yo]; omega)] at h
     obtain ⟨k, j, y, h1, h2, h3⟩ := Jr h
     have h1' : i - 9 = k * 9 + j := h1
     exact ⟨k + 1, j, y, by omega, by simpa using h2, h3⟩
theorem Q0 : ∀ {vs : List SV} {k j : Nat} {x : SV} {u : Value}, vs[k]? = some x → (yo x.s x.a x.c)[j]? = some u → (yl vs)[k * 9 + j]? = some u
 | [], _, _, _, _, h, _ => by simp at h
 | y :: vs, 0, j, x, u, h, hu => by
   simp at h; subst h
   have e : yl (y :: vs) = yo y.s y.a y.c ++ yl vs := rfl
   rw [e, Nat.zero_mul, Nat.zero_add, List.getElem?_append_left (List.getElem?_eq_some_iff.1 hu).1]; exact hu
 | y :: vs, k + 1, j, x, u, h, hu => by
   have e : yl (y :: vs) = yo y.s y.a y.c ++ yl vs := rfl
   rw [e, List.getElem?_append_right (by simp [yo]; omega)]
   have := Q0 (vs := vs) (k := k) (by simpa using h) hu
   rw [← this]; congr 1; simp [yo]; omega
theorem zb1 (vs : List SV) : ∀ u ∈ yl vs, u.oneCell' = true := fun u hu => by
 obtain ⟨x, _, h⟩ := List.mem_flatMap.1 hu
 simp only [yo, List.mem_cons, List.not_mem_nil, or_false] at h
 rcases h with rfl | rfl | rfl | rfl | rfl | rfl | rfl | rfl | rfl <;> rfl
theorem Row.news {w X : World} {ad : Addr} {vs : List SV} (h : Row w (some ad) vs) (hb : Below w.heap.size w X) : ∀ (j : Nat) (u : Value), (yl vs)[j]? = some u → X.cell? (ad.add j) = some u := fun j u hj => by
 obtain ⟨k, i, x, rfl, hx, hu⟩ := Jr hj
 obtain ⟨b, off, e, hbl, hc⟩ := h.cells k x hx
 cases e
 rw [Addr.add_mid, ← Nat.add_assoc]
 exact (World.cell?_of_block (a := ⟨b, off + k * 9 + i, none⟩) (hb.block b hbl)).trans (hc i u hu)
theorem Row.none {w : World} {vs : List SV} (h : Row w Option.none vs) : vs = [] := by
 match vs, h with
 | [], _ => rfl
 | x :: _, h => obtain ⟨b, off, e, _⟩ := h.cells 0 x rfl; cases e
theorem ze4 {w X : World} {a : Option Addr} {c n : Nat} {vs : List SV} (hn : n = vs.length) (h : X.ownsRow w.heap.size 49 9 (.slice a n c) n (yl vs)) (hl : ∀ x ∈ vs, qE X x) (hf : ∀ x ∈ vs, yA x.s) (hlen : vs.length ≤ 1000000) : Row X a vs :=
 ⟨fun k x hx => by
  have hpos : 0 < n := by have := (List.getElem?_eq_some_iff.1 hx).1; omega
  rcases h.2 with ⟨_, h0⟩ | ⟨g, cap, cur, e, _, hg, _⟩
  · omega
  · cases e
    exact ⟨g, 0, rfl, lt_of_heap hg, fun j u hj => by rw [Nat.zero_add]; exact zy h rfl _ u (Q0 hx hj)⟩, hl, hf, hlen⟩
def zdA (w : World) (l : List Sf) (e : Ending) (W : World) : Prop := ∃ ja jn jc m, e = .returned (.tuple #[.slice ja jn jc, .int .i64 m]) ∧ Below w.heap.size w W ∧ m = qf l ∧ ∃ js : List SV, jn = js.length ∧ Row W ja js ∧ steps js = if qf l = 0 then l else []
theorem vM {ops : Array Oper} {rest : List Oper} {o : Oper} {a : Act} {Q : Exit → Act → World → Prop} {w : World} (hgd : o.guard = none) (s x : Operand)
 (ho : o.op = .call { callee := .builtin .append, args := #[s, x], argTypes := #[22, 22] })
 (base : Nat) (v : Value) (n : Nat) (xs : List Value) (hs : a.eval s = v) (hown : w.ownsRow base 49 9 v n xs)
 (w0 : World) (la : Option Addr) (m c : Nat) (vs : List SV) (hx : a.eval x = .slice la m c) (hm : m = vs.length) (hr : Row w0 la vs) (hb : Below w0.heap.size w0 w) (hc : la = none → c = 0) (h1 : n ≤ 100000) (h2 : m ≤ 100000) (hbase : base ≤ w.heap.size)
 (h : ∀ v' w', w'.ownsRow base 49 9 v' (n + m) (xs ++ yl vs) → w.grownBy w' v.ownBlock → wpList Tryz.prog ops Q rest (a.put o.dst v') w') :
 wpList Tryz.prog ops Q (o :: rest) a w := by
 obtain ⟨i1, z1, hi1, hy0, hy1, hy2, hy3⟩ := yC Tryz.Yx
 cases la with
 | none =>
   obtain rfl := hr.none
   obtain rfl := hc rfl
   subst hm
   refine wpList_append_own_none hgd s x 22 ho base 49 i1 9 Tryz.underlying22 hi1 v n xs hs hown hx (h v w ?_ ?_)
   · simpa [yl] using hown
   · exact ⟨rfl, rfl, rfl, Nat.le_refl _, fun _ _ _ => rfl⟩
 | some ad =>
   exact wpList_append_own w hgd s x 22 ho base 49 i1 z1 9 104 Tryz.underlying22 hi1 hy0 hy1 hy2 hy3 (by omega) v n xs hs hown ad m c (yl vs) hx (by rw [Y6, hm]) (hr.news hb) (zb1 vs) (by unfold maxLen; omega) (by omega) hbase (fun v' w' k1 k2 _ => h v' w' k1 k2)
theorem zdu (w : World) (la lb : Option Addr) (n ca m cb : Nat) (pa pb : List SV) (hn : n = pa.length) (hm : m = pb.length) (ha : Row w la pa) (hb : Row w lb pb) (hna : n ≤ 1000) (hmb : m ≤ 1000) (hca : la = none → ca = 0) (hcb : lb = none → cb = 0) :
 Calls Tryz.prog 8 #[.slice la n ca, .slice lb m cb] w (zdA w (steps pa ++ steps pb)) := by
 have H := hH (aN ha (aN hb (aN hn (aN hm (aN hca hcb)))))
 clear ha hb hn hm hca hcb
 go_enter Tryz.func8, Tryz.ntmps8
 go_upto_region 3 with (at_builtin; refine vM rfl (.tmp 7) (.tmp 8) rfl w.heap.size (.slice none 0 0) 0 [] rfl (World.ownsRow_nil _ _ _ _) w la n ca pa rfl H.out.2.2.1 H.out.1 (Below.refl _ _) H.out.2.2.2.2.1 (by omega) (by omega) (Nat.le_refl _) ?_; intro v1 W1 hown hgrow; rw [Nat.zero_add, List.nil_append] at hown; have HE := hH (aN hown ((Below.refl w.heap.size w).grown hgrow (Nat.le_refl _) (fun y hy => by cases hy))); clear hown hgrow)
 obtain ⟨oa, oc, rfl⟩ := zw HE.out.1
 obtain ⟨wo, hwo⟩ : ∃ wo, wo = W1 := ⟨_, rfl⟩
 subst hwo
 go_upto_region 4 with (at_builtin; refine vM rfl (.tmp 10) (.tmp 11) rfl w.heap.size (.slice oa n oc) n (yl pa) rfl HE.out.1 w lb m cb pb rfl H.out.2.2.2.1 H.out.2.1 HE.out.2 H.out.2.2.2.2.2 (by omega) (by omega) HE.out.2.size ?_; intro v2 W2 hown hgrow; have HF := hH (aN hown (HE.out.2.grown hgrow HE.out.2.size (fun y hy => (zq HE.out.1 hy).1))); clear hown hgrow)
 obtain ⟨qa, qc, rfl⟩ := zw HF.out.1
 have hjs : n + m = (pa ++ pb).length := by rw [List.length_append, ← H.out.2.2.1, ← H.out.2.2.2.1]
 have hcells : yl pa ++ yl pb = yl (pa ++ pb) := by simp [yl]
 have hst : steps (pa ++ pb) = steps pa ++ steps pb := by simp [steps]
 have hrow : Row W2 qa (pa ++ pb) := by
  have h1 := HF.out.1
  rw [hcells] at h1
  refine ze4 hjs h1 (fun x hx => ?_) (fun x hx => ?_) (by omega)
  · rcases List.mem_append.1 hx with h | h
    · exact zU.on (H.out.1.lies x h) HF.out.2
    · exact zU.on (H.out.2.1.lies x h) HF.out.2
  · rcases List.mem_append.1 hx with h | h
    · exact H.out.1.fit x h
    · exact H.out.2.1.fit x h
 have HR := hH (aN hrow (aN hjs hst))
 obtain ⟨q, hq⟩ : ∃ q, q = n + m := ⟨_, rfl⟩
 have HQ := hH hq
 have HC := hH (zbN W2 qa q qc (pa ++ pb) (by rw [hq]; exact hjs) hrow)
 rw [hst] at HC
 rw [← hq]
 clear hjs hcells hst hrow hq
 obtain ⟨ck, hck⟩ : ∃ ck, ck = qf (steps pa ++ steps pb) := ⟨_, rfl⟩
 have HCK := hH hck
 go_wp2_with fail
 refine HC.out.mono ?_
 rintro e W3 ⟨rfl, hb3⟩
 rw [← hck]
 have HB3 := hH hb3
 clear hb3
 have hc3 : ck = 0 ∨ ck = 3 := by rw [hck]; unfold qf; split <;> simp
 clear hck
 rcases hc3 with rfl | rfl
 · go_wp2_with fail
   go_ret2
   exact ⟨qa, q, qc, 0, rfl, HF.out.2.trans (HB3.out.mono HF.out.2.size), HCK.out, pa ++ pb, by rw [HQ.out]; exact HR.out.2.1, HR.out.1.on HB3.out, by rw [← HCK.out, if_pos rfl]; exact HR.out.2.2⟩
 · go_wp2_with fail
   go_ret2
   exact ⟨none, 0, 0, 3, rfl, HF.out.2.trans (HB3.out.mono HF.out.2.size), HCK.out, [], rfl, ⟨fun k x hx => by simp at hx, fun x hx => by simp at hx, fun x hx => by simp at hx, by simp⟩, by rw [← HCK.out]; rfl⟩
end Go.Proofs.YtonapijgfalpaaaGreat
