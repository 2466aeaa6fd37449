/-
  .
-/
import Derived.Test.YtonapijgfalpaaaGreatJWakesQw
import Derived.Test.YtonapijgfalpaaaGreatEDownQw
import Derived.Test.YtonapijgfalpaaaGreatJPgQw
set_option maxRecDepth 100000
set_option maxHeartbeats 40000000
namespace Go.Proofs.YtonapijgfalpaaaGreat
open Go.RowKit Go.Shelf
attribute [local go_sem] Oper.semAt_some
set_option linter.unusedVariables false
set_option linter.unusedSimpArgs false
theorem jh.svs {X : World} {E : Nat → Prop} : ∀ {l : List Sf} {xs : List Value}, jh X E l xs → ∃ js : List SV, js.map SV.s = l ∧ (∀ (k : Nat) (x : SV), js[k]? = some x → zK X E x.s.sub.kids x.a x.c ∧ ∀ (j : Nat) (u : Value), (yo x.s x.a x.c)[j]? = some u → xs[k * 9 + j]? = some u)
 | [], _, _ => ⟨[], rfl, fun k x h => by simp at h⟩
 | s :: l, xs, h => by
   obtain ⟨a, c, ys, e, h1, h2⟩ := h
   obtain ⟨js, k1, k2⟩ := h2.svs
   refine ⟨⟨s, a, c⟩ :: js, by rw [List.map_cons, k1], fun k x hx => ?_⟩
   cases k with
   | zero =>
     simp at hx; subst hx
     refine ⟨h1, fun j u hj => ?_⟩
     rw [e, Nat.zero_mul, Nat.zero_add, List.getElem?_append_left (List.getElem?_eq_some_iff.1 hj).1]; exact hj
   | succ k =>
     obtain ⟨q1, q2⟩ := k2 k x (by simpa using hx)
     refine ⟨q1, fun j u hj => ?_⟩
     have hl : (yo s a c).length = 9 := rfl
     rw [e, List.getElem?_append_right (by omega), hl, show (k + 1) * 9 + j - 9 = k * 9 + j by omega]
     exact q2 j u hj
theorem zP.zgw {W : World} {F : Nat → Prop} {base BB : Nat} {ba : Option Addr} {bc : Nat} {bs : List Sf} {ys : List Value} (h : zP W F base BB ba bc bs ys) (hl : bs.length ≤ 1000000) (hf : ∀ s ∈ bs, yA s) : ∃ js : List SV, steps js = bs ∧ Row W ba js := by
 obtain ⟨js, h1, h2⟩ := h.lies.svs
 have hlen : js.length = bs.length := by rw [← h1, List.length_map]
 refine ⟨js, h1, fun k x hx => ?_, fun x hx => ?_, fun x hx => hf _ (by rw [← h1]; exact List.mem_map_of_mem hx), by omega⟩
 · have hk := (List.getElem?_eq_some_iff.1 hx).1
   obtain ⟨g, cap, e, _⟩ := h.row.form (by omega)
   cases e
   refine ⟨g, 0, rfl, (zq h.row rfl).2, fun j u hj => ?_⟩
   rw [Nat.zero_add]
   exact zy h.row rfl _ _ ((h2 k x hx).2 j u hj)
 · obtain ⟨j, hj, e⟩ := List.mem_iff_getElem.1 hx
   exact ((h2 j x (by rw [List.getElem?_eq_getElem hj, e])).1).i
def FJ (w X : World) (q : Nat) : Prop := w.heap.size ≤ q ∧ q < X.heap.size + 2
def JnI (w X : World) (QB : Nat) (l : List Sf) (k : Nat) (V : World) : Prop := ZY w X QB V ∧ ∃ ba bc ys, zP V (FJ w X) w.heap.size QB ba bc (l.take k) ys ∧ ∀ q, qG ba q → X.heap.size + 2 ≤ q
theorem zd8 (r s : RH) : flat [r, s] = r.vs ++ s.vs := by simp [flat]
def zfM (w : World) (l : List Sf) (e : Ending) (W : World) : Prop := ∃ ja jn jc n, e = .returned (.tuple #[.slice ja jn jc, .int .i64 n]) ∧ Below w.heap.size w W ∧ ((n = 0 ∧ qd l = true ∧ ∃ js : List SV, steps js = l ∧ jn = js.length ∧ Row W ja js) ∨ (n = 3 ∧ qd l = false ∧ jn = 0))
theorem zdU (w : World) (la lb : Option Addr) (na ca nb cb : Nat) (pa pb : List SV) (hna : na = pa.length) (hnb : nb = pb.length) (ha : Row w la pa) (hb : Row w lb pb) :
 Calls Tryz.prog 7 #[.slice la na ca, .slice lb nb cb] w (zfM w (steps (pa ++ pb))) := by
 obtain ⟨ls, hls⟩ : ∃ ls, ls = steps (pa ++ pb) := ⟨_, rfl⟩
 obtain ⟨rs, hrs⟩ : ∃ rs : List RH, rs = [⟨la, ca, pa⟩, ⟨lb, cb, pb⟩] := ⟨_, rfl⟩
 have hfl : flat rs = pa ++ pb := by rw [hrs, zd8]
 have hrow : ∀ {X : World} {NB R : Nat}, Below w.heap.size w X → X.heap[NB]? = some (.cells #[.slice (some ⟨R, 0, none⟩) 2 2] 91 (0, 0)) → X.heap[R]? = some (.cells #[.slice la na ca, .slice lb nb cb] 22 (0, 0)) → RowsIn X NB R rs := fun {X NB R} hX h1 h2 => by
  rw [hrs]
  refine ⟨h1, by rw [h2, hna, hnb]; rfl, fun r hr => ?_, by simp⟩
  simp only [List.mem_cons, List.not_mem_nil, or_false] at hr
  rcases hr with rfl | rfl
  · exact ha.on hX
  · exact hb.on hX
 obtain ⟨X1, hX1⟩ : ∃ X1, X1 = zo w [.cells #[.slice la na ca, .slice lb nb cb] 22, .cells #[.slice (some ⟨w.heap.size, 0, none⟩) 2 2] 91] := ⟨_, rfl⟩
 have hb1 : Below w.heap.size w X1 := by rw [hX1]; exact zk _ _
 have hck := zam X1 (w.heap.size + 1) w.heap.size rs (hrow hb1 (by rw [hX1]; exact zg _ _ 1 _ rfl) (by rw [hX1]; exact zg _ _ 0 _ rfl))
 rw [hfl, ← hls] at hck
 obtain ⟨m, hm⟩ : ∃ m, m = qf ls := ⟨_, rfl⟩
 rw [← hm] at hck
 have HCK := hH (aN hck (aN hb1 hX1))
 have HM := hH hm
 have HRW := hH (aN hfl (aN hls (aN hrs (aN ha hb))))
 have HRO : Hid (∀ {X : World} {NB R : Nat}, Below w.heap.size w X → X.heap[NB]? = some (.cells #[.slice (some ⟨R, 0, none⟩) 2 2] 91 (0, 0)) → X.heap[R]? = some (.cells #[.slice la na ca, .slice lb nb cb] 22 (0, 0)) → RowsIn X NB R rs) := hH hrow
 rw [← hls]
 clear hck hb1 hX1 hm hfl hls hrs ha hb hrow hna hnb
 refine (callsIn_wide (n := 8)).1 ?_
 refine callsIn_of_wp_marks Tryz.func7 rfl trivial ?_ rfl
 simp only [Tryz.ntmps7, List.size_toArray, List.length_cons, List.length_nil, Nat.reduceAdd, Nat.reduceSub, Array.replicate_succ, Array.replicate_zero, List.push_toArray, List.append_toArray, List.nil_append, List.cons_append]
 gi_wp2_with (refine ⟨trivial, ?_⟩; gi_at_call 24; refine (callsIn_wide.2 (qO _ _ _ _)).mono ?_; rintro e w' ⟨rfl, rfl⟩)
 refine ⟨trivial, ?_⟩
 change CallsIn _ _ _ _ _ (zo w [.cells #[.slice la na ca, .slice lb nb cb] 22, .cells #[.slice (some ⟨w.heap.size, 0, none⟩) 2 2] 91]) _
 rw [← HCK.out.2.2]
 refine (callsIn_wide.2 HCK.out.1).mono ?_
 rintro e Z1 ⟨rfl, hbz⟩
 have BZ := hH (HCK.out.2.1.trans (hbz.mono HCK.out.2.1.size))
 clear hbz HCK
 by_cases hm0 : m = 0
 rotate_left
 · have hmb : (m != 0) = true := by simpa using hm0
   have hno : qd ls = false ∧ m = 3 := by
    have := HM.out
    unfold qf at this
    split at this
    · exact absurd this hm0
    · rename_i h; exact ⟨by simpa using h, this⟩
   have HNO := hH hno
   clear hm0 hno
   gi_wp2
   exact ⟨_, results_tmp2 rfl _ _ _, none, 0, 0, m, rfl, BZ.out, .inr ⟨HNO.out.2, HNO.out.1, rfl⟩⟩
 · have ho : qd ls = true := by
    have := HM.out
    unfold qf at this
    split at this
    · assumption
    · rw [hm0] at this; cases this
   have HO := hH ho
   subst hm0
   obtain ⟨X, hX⟩ : ∃ X, X = zo Z1 [.cells #[.slice none 0 0] 22, .cells #[.slice la na ca, .slice lb nb cb] 22, .cells #[.slice (some ⟨Z1.heap.size + 1, 0, none⟩) 2 2] 91] := ⟨_, rfl⟩
   have hbX : Below w.heap.size w X := BZ.out.trans ((by rw [hX]; exact zk _ _ : Below Z1.heap.size Z1 X).mono BZ.out.size)
   have hsX : X.heap.size = Z1.heap.size + 3 := by rw [hX]; exact zx _ _
   obtain ⟨QB, hQB⟩ : ∃ QB, QB = Z1.heap.size := ⟨_, rfl⟩
   have e0 : X.heap[QB]? = some (.cells #[.slice none 0 0] 22 (0, 0)) := by rw [hX, hQB]; exact zg _ _ 0 _ rfl
   have e1 : X.heap[QB + 1]? = some (.cells #[.slice la na ca, .slice lb nb cb] 22 (0, 0)) := by rw [hX, hQB]; exact zg _ _ 1 _ rfl
   have e2 : X.heap[QB + 1 + 1]? = some (.cells #[.slice (some ⟨QB + 1, 0, none⟩) 2 2] 91 (0, 0)) := by rw [hX, hQB]; exact zg _ _ 2 _ rfl
   have hin := HRO.out hbX e2 e1
   have hwQ : w.heap.size ≤ QB := by rw [hQB]; exact BZ.out.size
   have hJ : jr X (QB + 1 + 1) (QB + 1) rs (fun q => q < X.heap.size ∧ q ≠ QB) := ⟨hin.box, hin.head, ⟨lt_of_heap e2, by omega⟩, ⟨lt_of_heap e1, by omega⟩, fun _ hy => hy.1, fun i r hr => by
    have hr2 : Row w r.a r.vs := by
     have := List.mem_of_getElem? hr
     rw [HRW.out.2.2.1] at this
     simp only [List.mem_cons, List.not_mem_nil, or_false] at this
     rcases this with rfl | rfl
     · exact HRW.out.2.2.2.1
     · exact HRW.out.2.2.2.2
    exact hr2.cells.kept fun y hy => ⟨⟨nL hy hbX.size, by omega⟩, hbX.block y hy⟩⟩
   have hI0 : JnI w X QB ls 0 X := ⟨⟨hbX, Nat.le_refl _, fun _ _ _ => rfl⟩, none, 0, [], ⟨e0, World.ownsRow_nil _ _ _ _, rfl, hbX.size⟩, fun q hq => by obtain ⟨d, e, _⟩ := hq; cases e⟩
   have HX := hH hX
   have H := hH (aN hbX (aN hsX (aN hJ (aN hI0 (aN hwQ (aN hin (lt_of_heap e0)))))))
   have HQ := hH hQB
   clear ho hX hbX hsX e0 e1 e2 hin hwQ hJ hI0 hQB
   gi_wp2_with (refine ⟨trivial, ?_⟩; gi_at_call 24; refine (callsIn_wide.2 (qO _ _ _ _)).mono ?_; rintro e w' ⟨rfl, rfl⟩)
   change Code.wpIn _ _ _ _ _ _ (zo Z1 [.cells #[.slice none 0 0] 22, .cells #[.slice la na ca, .slice lb nb cb] 22, .cells #[.slice (some ⟨Z1.heap.size + 1, 0, none⟩) 2 2] 91])
   rw [← HX.out, ← HQ.out]
   clear HX
   have hfew := H.out.2.2.2.2.2.1
   have hlsl : ls.length ≤ 60 := by have := (qB _).1 HO.out; exact this.1
   have HLS := hH hlsl
   refine jE (NB := QB + 1 + 1) (by omega) rfl (QB + 1) rs (fun q => q < X.heap.size ∧ q ≠ QB) H.out.2.2.1 (by have := hfew.few; omega) (fun r hr => (hfew.rows r hr).len) rfl (JnI w X QB ls) (fun _ _ => False) ?hI ?hIx H.out.2.2.2.1 ?round ?done ?stop
   case hI =>
    rintro k V V' ⟨h1, ba, bc, ys, h2, h3⟩ ht
    refine ⟨⟨⟨ht.os.trans h1.1.os, ht.tape.trans h1.1.tape, ht.output.trans h1.1.output, Nat.le_trans h1.1.size ht.size, fun q hq => (ht.block q (nL hq h1.1.size) (by have := H.out.1.size; omega)).trans (h1.1.block q hq)⟩, Nat.le_trans h1.2.1 ht.size, fun q hq hn => (ht.block q (by have := h1.2.1; omega) (by omega)).trans (h1.2.2 q hq hn)⟩, ba, bc, ys, h2.kept ht.size (fun q hq hn => ht.block q hq (fun e => ?_)), h3⟩
    have h8 := H.out.1.size
    rcases hn with hn | hn | hn
    · have := H.out.2.2.2.2.2.2; omega
    · have := h3 q hn; omega
    · exact hn (Or.inl ⟨by omega, by omega⟩)
   case hIx =>
    rintro c V V' h _
    exact h
   case stop =>
    rintro D c V _ h _
    exact h.elim
   case done =>
    rintro D V hD ⟨h1, ba, bc, ys, h2, h3⟩ hK
    rw [HRW.out.1] at h2
    have hlen : (pa ++ pb).length = ls.length := by rw [HRW.out.2.1, zD]
    rw [hlen, List.take_length] at h2
    obtain ⟨ln, hln⟩ : ∃ ln, ln = ls.length := ⟨_, rfl⟩
    have c0 : V.cell? ⟨QB, 0, none⟩ = some (.slice ba ln bc) := by rw [hln, cell_of_row _ _ 0 _ _ _ h2.box]; rfl
    have hpo : ∀ q, q ≠ D → (V.putObj D (.deferred none)).heap[q]? = V.heap[q]? := fun q hq => World.putObj_heap_other hq
    have h8 := H.out.1.size
    have hQX := H.out.2.2.2.2.2.2
    have hbk : zP (V.putObj D (.deferred none)) (FJ w X) w.heap.size QB ba bc ls ys := h2.kept (by simp [World.putObj]) (fun q hq hn => hpo q (fun e => by
     rcases hn with hn | hn | hn
     · omega
     · have := h3 q hn; omega
     · exact hn (Or.inl ⟨by omega, by omega⟩)))
    have hbw : Below w.heap.size w (V.putObj D (.deferred none)) := ⟨h1.1.os, h1.1.tape, h1.1.output, by simp [World.putObj]; exact h1.1.size, fun q hq => (hpo q (by omega)).trans (h1.1.block q hq)⟩
    obtain ⟨js, k1, k2⟩ := hbk.zgw (by have := HLS.out; omega) (fun s hs => by
     rw [HRW.out.2.1] at hs
     obtain ⟨y, hy, rfl⟩ := List.mem_map.1 hs
     rw [List.mem_append] at hy
     rcases hy with hy | hy
     · exact HRW.out.2.2.2.1.fit y hy
     · exact HRW.out.2.2.2.2.fit y hy)
    have HE := hH (aN hbw (aN k1 (aN k2 hln)))
    clear h1 h2 h3 hlen hpo hbk hbw k1 k2 hln h8 hQX hfew hlsl hD
    gi_wp2
    refine ⟨by simp, .inl ⟨_, _, rfl, run_takeDeferred hK, ?_⟩⟩
    exact ⟨_, results_tmp2 rfl _ _ _, ba, ln, bc, 0, rfl, HE.out.1, .inl ⟨rfl, HO.out, js, HE.out.2.1, by rw [HE.out.2.2.2, ← HE.out.2.1, zD], HE.out.2.2.1⟩⟩
   case round =>
    rintro l hl k x V hV hx hIV K hK
    obtain ⟨sn, hsn⟩ : ∃ sn, sn = zb x.s.sub.kids := ⟨_, rfl⟩
    have hxv : x.v = .agg #[.int .i8 x.s.op, .int .i64 x.s.id, .int .i64 x.s.par, .int .i64 x.s.at_, .string x.s.tx, .int .i64 x.s.sub.id, .int .i64 x.s.sub.kind, .string x.s.sub.text, .slice x.a sn x.c] := by rw [hsn]; rfl
    rw [hxv]
    have HR := hH (aN hl (aN hV (aN hx (aN hIV hsn))))
    have HK := hH hK
    clear hl hV hx hIV hsn hK hxv hfew hlsl
    gi_wp2
    refine HK.out _ _ (vV _ _) fun V1 hV1 => ?_
    clear HK
    obtain ⟨o', ev, o, ho, hoc⟩ := hV1
    obtain ⟨hl, hV, hx, ⟨hk, ba, bc, ys, hbk, hba⟩, hsn⟩ := HR.out
    have hw8 := H.out.1.size
    have hQX := H.out.2.2.2.2.2.2
    have hwQ := H.out.2.2.2.2.1
    obtain ⟨sB, hsB⟩ : ∃ sB, sB = V.heap.size := ⟨_, rfl⟩
    have hk1 : ∀ y, y < V.heap.size → y ≠ X.heap.size + 1 → V1.heap[y]? = V.heap[y]? := fun y h1 h2 => by rw [ev, World.putObj_heap_other (by omega), Below.heap_alloc _ _ _ h1]
    have hs1 : V1.heap.size = V.heap.size + 1 := by rw [ev]; simp [World.putObj]
    have hstep : V1.heap[sB]? = some (.cells #[.int .i8 x.s.op, .int .i64 x.s.id, .int .i64 x.s.par, .int .i64 x.s.at_, .string x.s.tx, .int .i64 x.s.sub.id, .int .i64 x.s.sub.kind, .string x.s.sub.text, .slice x.a sn x.c] 49 (0, 0)) := by rw [ev, hsB, World.putObj_heap_other (by omega)]; exact heap_alloc_new _ _
    have hos : V1.os = V.os ∧ V1.tape = V.tape ∧ V1.output = V.output := by rw [ev]; exact ⟨rfl, rfl, rfl⟩
    obtain ⟨F2, hF2⟩ : ∃ F2 : Nat → Prop, F2 = fun q => FJ w X q ∨ q = sB := ⟨_, rfl⟩
    have hbaV : ∀ q, qG ba q → q < V.heap.size := fun q hq => (zq hbk.row (qL.2 hq).symm).2
    have hbk1 : zP V1 F2 w.heap.size QB ba bc (ls.take k) ys := by
     rw [hF2]
     refine (hbk.Y7 (R := sB) (by omega)).kept (by omega) (fun q hq hn => hk1 q hq (fun e => ?_))
     rcases hn with hn | hn | hn
     · omega
     · have := hba q hn; omega
     · exact hn (Or.inl (Or.inl ⟨by omega, by omega⟩))
    have hbw1 : Below w.heap.size w V1 := ⟨hos.1.trans hk.1.os, hos.2.1.trans hk.1.tape, hos.2.2.trans hk.1.output, by have := hk.1.size; omega, fun q hq => (hk1 q (by have := hk.1.size; omega) (by omega)).trans (hk.1.block q hq)⟩
    have hxw : qE w x ∧ yA x.s := by
     have := List.mem_of_getElem? hx
     rw [HRW.out.1, List.mem_append] at this
     rcases this with h | h
     · exact ⟨HRW.out.2.2.2.1.lies x h, HRW.out.2.2.2.1.fit x h⟩
     · exact ⟨HRW.out.2.2.2.2.lies x h, HRW.out.2.2.2.2.fit x h⟩
    have hkl : ls[k]? = some x.s := by rw [HRW.out.2.1, ← HRW.out.1]; exact yD hx
    have hklt := (List.getElem?_eq_some_iff.1 hkl).1
    obtain ⟨E, hE⟩ : ∃ E : Nat → Prop, E = Ex F2 ba := ⟨_, rfl⟩
    have hEw : ∀ q, E q → w.heap.size ≤ q ∧ q < V1.heap.size := fun q hq => by
     rw [hE] at hq
     rcases hq with hq | hq
     · rw [hF2] at hq
       rcases hq with hq | hq
       · exact ⟨hq.1, by have := hq.2; omega⟩
       · omega
     · have := hba q hq
       have := hbaV q hq
       omega
    have hcp := zdD (X := V1) (E := E) (fun q hq => (hEw q hq).2) (zU.n hxw.1 hbw1 (fun q hq => (hEw q hq).1)) hsn (by have := hxw.2.size; omega)
    have HCP := hH hcp
    have HBK := hH (aN hbk1 (aN hbw1 (aN hstep (aN hs1 (aN hk1 (aN hsB (aN hkl (aN hE (aN hEw (aN hxw.2 (aN hba (aN hk (aN hbaV (aN hF2 hos))))))))))))))
    obtain ⟨n, hn⟩ : ∃ n, n = (ls.take k).length := ⟨_, rfl⟩
    have HNN := hH hn
    have hn60 : n ≤ 60 := by rw [hn, List.length_take]; have := HLS.out; omega
    obtain ⟨m0, m1, m2, m3, m4, m5, m6, m7, m8⟩ := yP hstep
    rw [← hsB]
    clear hl hV hx hk hbk hba hsn hw8 hQX hwQ hk1 hs1 hstep hos hF2 hbaV hbk1 hbw1 hxw hkl hklt hE hEw hcp hn hsB ev ho hoc
    gi_wp2
    refine ⟨trivial, ?_⟩
    refine (CallsIn.inRound l (callsIn_wide.2 HCP.out)).mono ?_
    clear HCP m0 m1 m2 m3 m4 m5 m6 m7 m8
    rintro e w2 ⟨va, vc, rfl, hl2, hb2⟩
    obtain ⟨hbk1, hbw1, hstep, hs1, hk1, hsB, hkl, hE, hEw, hfit, hba, hk, hbaV, hF2, hos⟩ := HBK.out
    have e2 := (hb2.block _ (lt_of_heap hstep)).trans hstep
    obtain ⟨A1, a1, p1, o1, os1, ot1, oo1, oz1⟩ := one_set (i := 5) (u := .int .i64 x.s.sub.id) e2
    obtain ⟨A2, a2, p2, o2, os2, ot2, oo2, oz2⟩ := one_set (i := 6) (u := .int .i64 x.s.sub.kind) p1
    obtain ⟨A3, a3, p3, o3, os3, ot3, oo3, oz3⟩ := one_set (i := 7) (u := .string x.s.sub.text) p2
    obtain ⟨A4, a4, p4, o4, os4, ot4, oo4, oz4⟩ := one_set (i := 8) (u := .slice va sn vc) p3
    have hA4 : A4 = (((w2.setCell ⟨sB, 5, none⟩ (.int .i64 x.s.sub.id)).setCell ⟨sB, 6, none⟩ (.int .i64 x.s.sub.kind)).setCell ⟨sB, 7, none⟩ (.string x.s.sub.text)).setCell ⟨sB, 8, none⟩ (.slice va sn vc) := by rw [a4, a3, a2, a1]
    have p5 : A4.heap[sB]? = some (.cells #[.int .i8 x.s.op, .int .i64 x.s.id, .int .i64 x.s.par, .int .i64 x.s.at_, .string x.s.tx, .int .i64 x.s.sub.id, .int .i64 x.s.sub.kind, .string x.s.sub.text, .slice va sn vc] 49 (0, 0)) := by simpa using p4
    have hoA : ∀ q, q ≠ sB → A4.heap[q]? = w2.heap[q]? := fun q hq => by rw [o4 q hq, o3 q hq, o2 q hq, o1 q hq]
    have hzA : A4.heap.size = w2.heap.size := by rw [oz4, oz3, oz2, oz1]
    have hsz2 := hb2.size
    have hsBlt := lt_of_heap hstep
    have hX8 := H.out.1.size
    have hQX := H.out.2.2.2.2.2.2
    have hsBX : X.heap.size + 2 ≤ sB := by rw [hsB]; exact HR.out.2.1
    have hQs : QB ≠ sB := by omega
    have hkA : zP A4 F2 w.heap.size QB ba bc (ls.take k) ys := (hbk1.on hb2).kept (by omega) (fun q hq hn => hoA q (fun e => by
     rcases hn with hn | hn | hn
     · omega
     · have := hbaV q hn; omega
     · exact hn (Or.inl (by rw [hF2]; exact Or.inr e))))
    have hlA : zK A4 (Ex F2 ba) x.s.sub.kids va vc := ⟨hl2.1, hl2.2.kept fun q hq => ⟨⟨by rw [hzA]; exact hq.1, by rw [← hE]; exact hq.2⟩, hoA q (fun e => hq.2 (by rw [hE, hF2]; exact Or.inl (Or.inr e)))⟩⟩
    have hbx := hkA.box
    have hrow := hkA.row
    rw [← HNN.out] at hbx hrow
    have hwA : w.heap.size ≤ A4.heap.size := by have := hbw1.size; omega
    have HROW : Hid (((((w2.setCell ⟨sB, 5, none⟩ (.int .i64 x.s.sub.id)).setCell ⟨sB, 6, none⟩ (.int .i64 x.s.sub.kind)).setCell ⟨sB, 7, none⟩ (.string x.s.sub.text)).setCell ⟨sB, 8, none⟩ (.slice va sn vc)).ownsRow w.heap.size 49 9 (.slice ba n bc) n ys) := hH (by rw [← hA4]; exact hrow)
    have HSZ : Hid (w.heap.size ≤ ((((w2.setCell ⟨sB, 5, none⟩ (.int .i64 x.s.sub.id)).setCell ⟨sB, 6, none⟩ (.int .i64 x.s.sub.kind)).setCell ⟨sB, 7, none⟩ (.string x.s.sub.text)).setCell ⟨sB, 8, none⟩ (.slice va sn vc)).heap.size) := hH (by rw [← hA4]; exact hwA)
    have HBX : Hid (((((w2.setCell ⟨sB, 5, none⟩ (.int .i64 x.s.sub.id)).setCell ⟨sB, 6, none⟩ (.int .i64 x.s.sub.kind)).setCell ⟨sB, 7, none⟩ (.string x.s.sub.text)).setCell ⟨sB, 8, none⟩ (.slice va sn vc)).heap[QB]? = some (.cells #[.slice ba n bc] 22 (0, 0))) := hH (by rw [← hA4]; exact hbx)
    have HNB : Hid ((((((w2.setCell ⟨sB, 5, none⟩ (.int .i64 x.s.sub.id)).setCell ⟨sB, 6, none⟩ (.int .i64 x.s.sub.kind)).setCell ⟨sB, 7, none⟩ (.string x.s.sub.text)).setCell ⟨sB, 8, none⟩ (.slice va sn vc)).alloc (.cells #[.int .i8 x.s.op, .int .i64 x.s.id, .int .i64 x.s.par, .int .i64 x.s.at_, .string x.s.tx, .int .i64 x.s.sub.id, .int .i64 x.s.sub.kind, .string x.s.sub.text, .slice va sn vc] 49)).heap[w2.heap.size]? = some (.cells #[.int .i8 x.s.op, .int .i64 x.s.id, .int .i64 x.s.par, .int .i64 x.s.at_, .string x.s.tx, .int .i64 x.s.sub.id, .int .i64 x.s.sub.kind, .string x.s.sub.text, .slice va sn vc] 49 (0, 0))) := hH (by rw [← hA4]; have h := heap_alloc_new A4 (.cells #[.int .i8 x.s.op, .int .i64 x.s.id, .int .i64 x.s.par, .int .i64 x.s.at_, .string x.s.tx, .int .i64 x.s.sub.id, .int .i64 x.s.sub.kind, .string x.s.sub.text, .slice va sn vc] 49); rw [hzA] at h; exact h)
    have q0 : ((((w2.setCell ⟨sB, 5, none⟩ (.int .i64 x.s.sub.id)).setCell ⟨sB, 6, none⟩ (.int .i64 x.s.sub.kind)).setCell ⟨sB, 7, none⟩ (.string x.s.sub.text)).setCell ⟨sB, 8, none⟩ (.slice va sn vc)).cell? ⟨QB, 0, none⟩ = some (.slice ba n bc) := by rw [← hA4, cell_of_row _ _ 0 _ _ _ hbx]; rfl
    obtain ⟨y0, y1, y2, y3, y4, y5, y6, y7, y8⟩ := yP p5
    rw [hA4] at y0 y1 y2 y3 y4 y5 y6 y7 y8
    obtain ⟨z0, z1, z2, z3, z4, z5, z6, z7, z8⟩ := yP e2
    have zf : ∀ j, w2.frozen? ⟨sB, j, none⟩ = false := fun j => frozen_of_row _ _ j _ _ e2
    obtain ⟨i1, zz, hi1, hy0, hy1, hy2, hy3⟩ := yC Tryz.Yx
    have HI1 := hH (aN hi1 (aN hy0 (aN hy1 (aN hy2 hy3))))
    have HA4 := hH hA4
    have HA := hH (aN hkA (aN hlA (aN hoA (aN hzA (aN hb2 (aN (show A4.os = w2.os ∧ A4.tape = w2.tape ∧ A4.output = w2.output from ⟨by rw [os4, os3, os2, os1], by rw [ot4, ot3, ot2, ot1], by rw [oo4, oo3, oo2, oo1]⟩) p5))))))
    clear hkA hlA hoA hzA hb2 p1 p2 p3 p4 p5 a1 a2 a3 a4 o1 o2 o3 o4 os1 os2 os3 os4 ot1 ot2 ot3 ot4 oo1 oo2 oo3 oo4 oz1 oz2 oz3 oz4 hA4 e2 hl2 hi1 hy0 hy1 hy2 hy3 hbx hrow hwA hbk1 hbw1 hstep hs1 hk1 hsB hkl hE hEw hfit hba hk hbaV hF2 hos hsz2 hsBlt hX8 hQX hsBX hQs
    gi_wp2_with (gi_at_builtin; refine qp _ rfl (.tmp 26) (.tmp 28) _ rfl w.heap.size 49 i1 zz 9 104 Tryz.underlying22 HI1.out.1 HI1.out.2.1 HI1.out.2.2.1 HI1.out.2.2.2.1 HI1.out.2.2.2.2 (by omega) (.slice ba n bc) n ys rfl (HROW.out.alloc _) ⟨w2.heap.size, 0, none⟩ 1 1 [.int .i8 x.s.op, .int .i64 x.s.id, .int .i64 x.s.par, .int .i64 x.s.at_, .string x.s.tx, .int .i64 x.s.sub.id, .int .i64 x.s.sub.kind, .string x.s.sub.text, .slice va sn vc] rfl rfl (World.news_of_block (cs := #[.int .i8 x.s.op, .int .i64 x.s.id, .int .i64 x.s.par, .int .i64 x.s.at_, .string x.s.tx, .int .i64 x.s.sub.id, .int .i64 x.s.sub.kind, .string x.s.sub.text, .slice va sn vc]) (t := 49) (fr := (0, 0)) HNB.out) (by simp [Value.oneCell']) (by unfold maxLen; omega) (by omega) (by have := HSZ.out; rw [World.size_alloc]; omega) ?_; intro v' W7 hown7 hgrow7 hat7; obtain ⟨g1, c1, rfl⟩ := ownsRow_succ hown7; have H7 := hH (aN hown7 (aN hgrow7 hat7)); clear hown7 hgrow7 hat7; have hB7 : W7.heap[QB]? = some (.cells #[.slice ba n bc] 22 (0, 0)) := (H7.out.2.1.block QB (by rw [World.size_alloc]; have := lt_of_heap HBX.out; omega) (fun e => by obtain ⟨d, hd⟩ := ZO HROW.out e.symm; exact absurd (zd2 HBX.out hd) (by decide))).trans ((Below.heap_alloc _ _ _ (lt_of_heap HBX.out)).trans HBX.out); have b7 : W7.cell? ⟨QB, 0, none⟩ = some (.slice ba n bc) := (by rw [cell_of_row _ _ 0 _ _ _ hB7]; rfl); have f7 : W7.frozen? ⟨QB, 0, none⟩ = false := frozen_of_row _ _ 0 _ _ hB7; have HB7 := hH hB7; clear hB7)
    obtain ⟨hkA, hlA, hoA, hzA, hb2, hosA, p5⟩ := HA.out
    obtain ⟨hbk1, hbw1, hstep, hs1, hk1, hsB, hkl, hE, hEw, hfit, hba, hk, hbaV, hF2, hos⟩ := HBK.out
    have h7 := H7.out
    rw [← HA4.out] at h7
    obtain ⟨hown7, hgrow7, hat7⟩ := h7
    have hX8 := H.out.1.size
    have hQX := H.out.2.2.2.2.2.2
    have hs7 := hgrow7.size
    rw [World.size_alloc] at hs7
    have hVX := HR.out.2.1
    have hsz2 := hb2.size
    have hold7 : ∀ q, q < A4.heap.size → ¬ qG ba q → W7.heap[q]? = A4.heap[q]? := fun q h1 h2 => (hgrow7.block q (by rw [World.size_alloc]; omega) (fun e => h2 (qL.1 e))).trans (Below.heap_alloc _ _ _ h1)
    obtain ⟨W8, hW8, r1, r2, r3, r4, r5, r6⟩ := one_set (i := 0) (u := .slice (some ⟨g1, 0, none⟩) (n + 1) c1) HB7.out
    rw [← hW8]
    have hg1 : ∀ q, qG (some ⟨g1, 0, none⟩) q → qG ba q ∨ A4.heap.size ≤ q := fun q hq => by
     obtain ⟨d, e, hd⟩ := hq
     cases e
     simp only at hd
     subst hd
     rcases hat7 with h | h
     · exact Or.inl (qL.1 h)
     · right
       have : some g1 = some (A4.alloc (.cells #[.int .i8 x.s.op, .int .i64 x.s.id, .int .i64 x.s.par, .int .i64 x.s.at_, .string x.s.tx, .int .i64 x.s.sub.id, .int .i64 x.s.sub.kind, .string x.s.sub.text, .slice va sn vc] 49)).heap.size := h
       rw [World.size_alloc] at this
       cases this; omega
    have hold8 : ∀ q, q < A4.heap.size → q ≠ QB → ¬ qG ba q → W8.heap[q]? = A4.heap[q]? := fun q h1 h2 h3 => (r2 q h2).trans (hold7 q h1 h3)
    have hkeep : ∀ q, q < V.heap.size → q ≠ QB → ¬ qG ba q → W8.heap[q]? = V1.heap[q]? := fun q h1 h2 h3 => (hold8 q (by omega) h2 h3).trans ((hoA q (by omega)).trans (hb2.block q (by omega)))
    have hEE : ∀ f a c, zK A4 (Ex F2 ba) f a c → zK W8 (Ex (FJ w X) (some ⟨g1, 0, none⟩)) f a c := fun f a c h => ⟨h.1, h.2.kept fun q hq => by
     have h1 : ¬ F2 q := fun h => hq.2 (Or.inl h)
     have h2 : ¬ qG ba q := fun h => hq.2 (Or.inr h)
     have h3 : ¬ FJ w X q := fun h => h1 (by rw [hF2]; exact Or.inl h)
     have h4 : q ≠ QB := fun e => h3 ⟨by have := H.out.2.2.2.2.1; omega, by omega⟩
     refine ⟨⟨by rw [r6]; have := hq.1; omega, fun he => ?_⟩, hold8 q hq.1 h4 h2⟩
     rcases he with he | he
     · exact h3 he
     · rcases hg1 q he with h | h
       · exact h2 h
       · have := hq.1; omega⟩
    have hJn : JnI w X QB ls (k + 1) W8 := by
     refine ⟨⟨⟨r3.trans (hgrow7.os.trans (hosA.1.trans (hb2.os.trans hbw1.os))), r4.trans (hgrow7.tape.trans (hosA.2.1.trans (hb2.tape.trans hbw1.tape))), r5.trans (hgrow7.output.trans (hosA.2.2.trans (hb2.output.trans hbw1.output))), by rw [r6]; have := hbw1.size; omega, fun q hq => ?_⟩, by rw [r6]; omega, fun q hq hn => ?_⟩, some ⟨g1, 0, none⟩, c1, ys ++ [.int .i8 x.s.op, .int .i64 x.s.id, .int .i64 x.s.par, .int .i64 x.s.at_, .string x.s.tx, .int .i64 x.s.sub.id, .int .i64 x.s.sub.kind, .string x.s.sub.text, .slice va sn vc], ⟨?_, ?_, ?_, by rw [r6]; have := hbw1.size; omega⟩, fun q hq => ?_⟩
     · have hq2 : ¬ qG ba q := fun h => by have := hba q h; omega
       exact (hkeep q (by omega) (by have := H.out.2.2.2.2.1; omega) hq2).trans (hbw1.block q hq)
     · have hq2 : ¬ qG ba q := fun h => by have := hba q h; omega
       exact (hkeep q (by omega) hn hq2).trans ((hk1 q (by omega) (by omega)).trans (hk.2.2 q hq hn))
     · rw [r1, List.take_add_one, hkl, List.length_append, ← HNN.out]; rfl
     · rw [List.take_add_one, hkl, List.length_append, ← HNN.out]
       exact zB hown7 (fun q cur hc hq => r2 q (fun e => by
        rw [e, HB7.out] at hc
        cases hc))
     · rw [List.take_add_one, hkl]
       have hsl : ([.int .i8 x.s.op, .int .i64 x.s.id, .int .i64 x.s.par, .int .i64 x.s.at_, .string x.s.tx, .int .i64 x.s.sub.id, .int .i64 x.s.sub.kind, .string x.s.sub.text, .slice va sn vc] : List Value) = yo x.s va vc := by rw [HR.out.2.2.2.2]; rfl
       rw [hsl]
       exact jh.snoc (hEE _ _ _ hlA) (hkA.lies.kept hEE)
     · rcases hg1 q hq with h | h
       · exact hba q h
       · omega
    refine ⟨by rw [r6]; omega, fun y hy => ?_, .inl ⟨rfl, hJn⟩⟩
    have hyk : ∀ q, q < X.heap.size + 2 → ¬ qG ba q := fun q hq h => by have := hba q h; omega
    rcases hy with hy | hy | hy
    · exact hkeep y (by omega) (by omega) (hyk y (by omega))
    · exact hkeep y (by omega) (by omega) (hyk y (by omega))
    · exact hkeep y (by omega) hy.2 (hyk y (by omega))
end Go.Proofs.YtonapijgfalpaaaGreat
