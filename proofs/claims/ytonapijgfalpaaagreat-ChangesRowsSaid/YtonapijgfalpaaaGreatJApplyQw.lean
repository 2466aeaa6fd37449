/-
  .
-/
import Derived.Deep.Cut
import Derived.Deep.RegionHeld
import Derived.Test.YtonapijgfalpaaaGreatJGreatQw
import Derived.Test.YtonapijgfalpaaaGreatJDoQw
import Derived.Test.YtonapijgfalpaaaGreatERowQw
import Derived.Test.YtonapijgfalpaaaGreatJPgQw
set_option maxRecDepth 100000
set_option maxHeartbeats 40000000
namespace Go.Proofs.YtonapijgfalpaaaGreat
open Go.RowKit Go.Shelf
set_option linter.unusedVariables false
set_option linter.unusedSimpArgs false
def zhb (N0 : Nat) (q : Nat) : Prop := N0 ≤ q ∧ q < N0 + 7
structure YG (w : World) (GB : Nat) (g : Gr) (ga : Option Addr) (gc : Nat) : Prop where
 box : w.heap[GB]? = some (.cells #[.slice ga g.kinds.length gc, .int .i64 g.root] 34 (0, 0))
 all : ∀ Y, Below w.heap.size w Y → GrV Y (.agg #[.slice ga g.kinds.length gc, .int .i64 g.root]) g
 few : g.few
theorem YG.on {w X : World} {GB : Nat} {g : Gr} {ga : Option Addr} {gc : Nat} (h : YG w GB g ga gc) (hb : Below w.heap.size w X) : YG X GB g ga gc :=
 ⟨(hb.block _ (lt_of_heap h.box)).trans h.box, fun Y hY => h.all Y (hb.trans (hY.mono hb.size)), h.few⟩
def IsN (V : World) (E : Nat → Prop) (v : NV) (x : Tr) : Prop := v.i = x.id ∧ v.k = x.kind ∧ v.tx = x.text ∧ v.n = zb x.kids ∧ zK V E x.kids v.a v.c
theorem Jp {X V V' : World} (h : Below X.heap.size X V) (ht : zi V V' (fun x => X.heap.size ≤ x ∧ x < X.heap.size + 7)) : Below X.heap.size X V' :=
 ⟨ht.os.trans h.os, ht.tape.trans h.tape, ht.output.trans h.output, Nat.le_trans h.size ht.size, fun q hq => (ht.block q (nL hq h.size) (by omega)).trans (h.block q hq)⟩
def za2 (N0 : Nat) (E0 : Nat → Prop) (q : Nat) : Prop := zhb N0 q ∨ E0 q
theorem zK.own {N0 : Nat} {E0 : Nat → Prop} {V V' : World} {f : Fo} {a : Option Addr} {c : Nat} (h : zK V (za2 N0 E0) f a c) (ht : zi V V' (fun x => N0 ≤ x ∧ x < N0 + 7)) : zK V' (za2 N0 E0) f a c :=
 ⟨h.1, h.2.kept fun q hq => ⟨⟨nL hq.1 ht.size, hq.2⟩, ht.block q hq.1 (fun hn => hq.2 (Or.inl hn))⟩⟩
def ApJ (X : World) (E0 : Nat → Prop) (g : Gr) (t : Tr) (l : List Sf) (k : Nat) (v : NV) (V : World) : Prop := Below X.heap.size X V ∧ ∃ x, goT g t (l.take k) = some x ∧ Way x ∧ IsN V (za2 X.heap.size E0) v x
def ApX (X : World) (E0 : Nat → Prop) (g : Gr) (t : Tr) (l : List Sf) (k : Nat) (v : NV) (n : Int) (V : World) : Prop := Below X.heap.size X V ∧ (∃ x s, goT g t (l.take k) = some x ∧ l[k]? = some s ∧ (doK g (s.on x)).2 = n) ∧ ∃ x, IsN V (za2 X.heap.size E0) v x
theorem zb3 (g : Gr) (r : Tr × Int) : zY (doK g r) = (doK g r).1 := by
 unfold zY doK
 by_cases h1 : r.2 = 0
 · rw [if_pos h1]
   by_cases h2 : (jC g r.1).2 = 0
   · rw [if_pos h2, if_pos rfl]
   · rw [if_neg h2, if_neg h2]
 · rw [if_neg h1, if_neg h1]
theorem zdl {Y0 X : World} {E0 : Nat → Prop} {g : Gr} {t : Tr} {ga : Option Addr} {gc GB : Nat} {rs : List RH} (hY : Below Y0.heap.size Y0 X) (h : ∀ x ∈ flat rs, qE Y0 x ∧ yA x.s ∧ ZW x.s.op) (hE0 : ∀ q, E0 q → Y0.heap.size ≤ q ∧ q < X.heap.size) (hg : YG X GB g ga gc) : DoN Tryz.prog 40 #[.pointer (some ⟨GB, 0, none⟩)] X.heap.size (fun q => q < X.heap.size) (flat rs) (ApJ X E0 g t (steps (flat rs))) (ApX X E0 g t (steps (flat rs))) := by
 refine ⟨enters_of Tryz.func40 (by kernel_rfl) rfl, ?_, ?_, ?_⟩
 · rintro k v V V' ⟨h1, x, h2, h3, h4, h5, h6, h7, h8⟩ ht
   exact ⟨Jp h1 ht, x, h2, h3, h4, h5, h6, h7, h8.own ht⟩
 · rintro k v n V V' ⟨h1, h2, x, h4, h5, h6, h7, h8⟩ ht
   exact ⟨Jp h1 ht, h2, x, h4, h5, h6, h7, h8.own ht⟩
 · rintro k x v W hx hW ⟨hb, y, hy, hwy, h4, h5, h6, h7, h8⟩
   obtain ⟨hl, hf, hO⟩ := h x (List.mem_of_getElem? hx)
   have hxs := yD hx
   have hGW := hg.on hb
   have hE : ∀ q, za2 X.heap.size E0 q → q < W.heap.size := fun q hq => by rcases hq with hq | hq; have := hq.2; omega; have := (hE0 q hq).2; omega
   have hd := doN (E := za2 X.heap.size E0) hE hGW.box hGW.all hGW.few h8 (zU.n hl (Below.refl _ _) (fun q hq => by rcases hq with hq | hq; have := hq.1; have := hY.size; omega; exact (hE0 q hq).1)) (hY.trans (hb.mono hY.size)) hwy hf h7 hO
   rw [show v.v = .agg #[.int .i64 y.id, .int .i64 y.kind, .string y.text, .slice v.a v.n v.c] by rw [NV.v, h4, h5, h6]]
   refine hd.mono ?_
   rintro e W' ⟨va, vc, rfl, hlv, hb2⟩
   rw [zb3] at hlv ⊢
   refine ⟨⟨_, _, _, va, _, vc⟩, _, rfl, hb2.size, fun q hq => hb2.block q (by rcases hq with hq | hq; have := hb.size; omega; omega), fun hm => ?_, fun hm => ?_⟩
   · refine ⟨hb.trans (hb2.mono hb.size), _, ?_, zdE hf hwy hm, rfl, rfl, rfl, rfl, hlv⟩
     rw [List.take_add_one, hxs]
     exact zel hy hm
   · exact ⟨hb.trans (hb2.mono hb.size), ⟨y, x.s, hy, hxs, rfl⟩, y, h4, h5, h6, h7, h8.on hb2⟩
theorem zex {X : World} {E0 : Nat → Prop} {g : Gr} {t : Tr} {l : List Sf} {len : Nat} {e : Ending} {w' : World} (hl : len = l.length) (h : zgA len (ApJ X E0 g t l) (ApX X E0 g t l) e w') : ∃ v : NV, e = .returned (.tuple #[v.v, .int .i64 ((qh g t l).2.1 : Int), .int .i64 (qh g t l).2.2]) ∧ Below X.heap.size X w' ∧ ((qh g t l).2.2 = 0 → IsN w' (za2 X.heap.size E0) v (qh g t l).1) ∧ ∃ x, IsN w' (za2 X.heap.size E0) v x := by
 obtain ⟨k, v, n, rfl, hh⟩ := h
 subst hl
 rcases hh with ⟨rfl, rfl, hb, x, h1, h2, h3⟩ | ⟨hn, hk, hb, ⟨x, s, h1, h2, h3⟩, hx⟩
 · rw [List.take_length] at h1
   rw [QQ h1]
   exact ⟨v, rfl, hb, fun _ => h3, x, h3⟩
 · rw [Qk h1 h2 h3 hn]
   exact ⟨v, rfl, hb, fun h => absurd h hn, hx⟩
def ApO (r : Tr × Nat × Int) (X : World) (e : Ending) (W : World) : Prop := ∃ va vc, e = .returned (.tuple #[.agg #[.int .i64 r.1.id, .int .i64 r.1.kind, .string r.1.text, .slice va (zb r.1.kids) vc], .int .i64 (r.2.1 : Int), .int .i64 r.2.2]) ∧ zU W r.1.kids va vc ∧ Below X.heap.size X W
def ApY (Y0 : World) (r : Tr × Nat × Int) (X : World) (e : Ending) (W : World) : Prop := ∃ va vc, e = .returned (.tuple #[.agg #[.int .i64 r.1.id, .int .i64 r.1.kind, .string r.1.text, .slice va (zb r.1.kids) vc], .int .i64 (r.2.1 : Int), .int .i64 r.2.2]) ∧ zK W (fun q => Y0.heap.size ≤ q ∧ q < X.heap.size) r.1.kids va vc ∧ Below X.heap.size X W
def FY (Y0 w : World) (q : Nat) : Prop := Y0.heap.size ≤ q ∧ q < w.heap.size + 3
theorem YR {P : Program} {fn : Func} {p u v : Tmp} {ty : TypeId} (h : fn.results = #[.cell p ty, .tmp u, .tmp v]) (tmps : Array Value) (w : World) (g : Nat) (t : TypeId) (cs : Array Value) (fr : Nat × Nat) (d : TypeDesc) (x y : Value)
 (hp : tmps.getD p undef = .pointer (some ⟨g, 0, none⟩)) (hg : w.heap[g]? = some (.cells cs t fr)) (hu : P.underlying ty = some d) (hd : (match d with | .struct _ | .array _ _ => true | _ => false) = true) (hi : (P.info? ty).map (·.size) = some cs.size) (hp2 : tmps.getD u undef = x) (hp3 : tmps.getD v undef = y) :
 (results fn tmps).run P w = .ok (.tuple #[.agg cs, x, y]) w := by
 have hp' : tmps[p]?.getD undef = .pointer (some ⟨g, 0, none⟩) := by simpa using hp
 have hp2' : tmps[u]?.getD undef = x := by simpa using hp2
 have hp3' : tmps[v]?.getD undef = y := by simpa using hp3
 simp [results, h, hp', hp2', hp3', asAddr, run_loadVar_row w g t ty cs fr d hg hu hd hi]
theorem zb5 {Y0 : World} {fn : Func} (h : fn.results = #[.cell 6 37, .tmp 7, .tmp 8]) {w W : World} {tmps : Array Value} {r : Tr × Nat × Int} {g m kc : Nat} {kb : Option Addr} (hb : Below w.heap.size w W) (hz : W.heap[g]? = some (.cells #[.int .i64 r.1.id, .int .i64 r.1.kind, .string r.1.text, .slice kb m kc] 37 (0, 0))) (hm : m = zb r.1.kids) (hl : zK W (fun q => Y0.heap.size ≤ q ∧ q < w.heap.size) r.1.kids kb kc)
 (h1 : tmps.getD 6 undef = .pointer (some ⟨g, 0, none⟩)) (h2 : tmps.getD 7 undef = .int .i64 (r.2.1 : Int)) (h3 : tmps.getD 8 undef = .int .i64 r.2.2) : bodyPost Tryz.prog fn (ApY Y0 r w) .ret { tmps, defers := [] } W := by
 refine bodyPost_ret (YR h tmps W g 37 _ _ _ (.int .i64 (r.2.1 : Int)) (.int .i64 r.2.2) h1 hz Tryz.underlying37 rfl (by kernel_rfl) h2 h3) rfl ?_
 exact ⟨kb, kc, by rw [hm], hl, hb⟩
theorem zdD {X : World} {E : Nat → Prop} {t : Tr} {ta : Option Addr} {tn tc : Nat} (hE : ∀ q, E q → q < X.heap.size) (h : zK X E t.kids ta tc) (hn : tn = zb t.kids) (hz : ze t.kids + 1 ≤ 2000) : Calls Tryz.prog 25 #[.agg #[.int .i64 t.id, .int .i64 t.kind, .string t.text, .slice ta tn tc]] X fun e W => ∃ va vc, e = .returned (.agg #[.int .i64 t.id, .int .i64 t.kind, .string t.text, .slice va tn vc]) ∧ zK W E t.kids va vc ∧ Below X.heap.size X W := by
 subst hn
 have ht : zL X (fun x => zZ X x ∧ (x < X.heap.size ∧ ¬ E x)) (.agg #[.int .i64 t.id, .int .i64 t.kind, .string t.text, .slice ta (zb t.kids) tc]) t := ⟨ta, tc, rfl, h.1, vG h.2⟩
 refine (j5 X (fun x => zZ X x ∧ (x < X.heap.size ∧ ¬ E x)) _ t (fun x hx => hx.1) ht (by omega)).mono ?_
 rintro e W ⟨v, rfl, ⟨va, vc, rfl, hc, hf⟩, hb⟩
 exact ⟨va, vc, rfl, ⟨hc, hf.kept fun q hq => ⟨⟨hq.1.lt, fun he => by rcases hq.2 with h | h; exact h.2.2 he; have := hE q he; omega⟩, rfl⟩⟩, hb⟩
theorem zbM (Y0 w : World) (g : Gr) (t : Tr) (ga ta la : Option Addr) (gn gc tn tc n c : Nat) (vs : List SV) (hY : Below Y0.heap.size Y0 w) (hgn : gn = g.kinds.length) (hg : ∀ Y, Below Y0.heap.size Y0 Y → GrV Y (.agg #[.slice ga g.kinds.length gc, .int .i64 g.root]) g) (hf : g.few) (htn : tn = zb t.kids) (ht : zU Y0 t.kids ta tc) (hw : Way t) (hn : n = vs.length) (h : Row Y0 la vs) (hO : ∀ x ∈ vs, ZW x.s.op) :
 Calls Tryz.prog 18 #[.agg #[.slice ga gn gc, .int .i64 g.root], .agg #[.int .i64 t.id, .int .i64 t.kind, .string t.text, .slice ta tn tc], .slice la n c] w (ApY Y0 (apK g t (steps vs)) w) := by
 obtain ⟨B, hB⟩ : ∃ B, B = zo w [.cells #[.slice ga gn gc, .int .i64 g.root] 34, .cells #[.int .i64 t.id, .int .i64 t.kind, .string t.text, .slice ta tn tc] 37, .cells #[.int .i64 0, .int .i64 0, .string ⟨#[]⟩, .slice none 0 0] 37] := ⟨_, rfl⟩
 have hb : Below w.heap.size w B := by rw [hB]; exact zk _ _
 have hsz : B.heap.size = w.heap.size + 3 := by rw [hB]; exact zx _ _
 have e0 : B.heap[w.heap.size]? = some (.cells #[.slice ga gn gc, .int .i64 g.root] 34 (0, 0)) := by rw [hB]; exact zg _ _ 0 _ rfl
 have e1 : B.heap[w.heap.size + 1]? = some (.cells #[.int .i64 t.id, .int .i64 t.kind, .string t.text, .slice ta tn tc] 37 (0, 0)) := by rw [hB]; exact zg _ _ 1 _ rfl
 have e2 : B.heap[w.heap.size + 1 + 1]? = some (.cells #[.int .i64 0, .int .i64 0, .string ⟨#[]⟩, .slice none 0 0] 37 (0, 0)) := by rw [hB]; exact zg _ _ 2 _ rfl
 have hgB : YG B w.heap.size g ga gc := ⟨by rw [← hgn]; exact e0, fun Y hY2 => hg Y (hY.trans ((hb.trans (hY2.mono hb.size)).mono hY.size)), hf⟩
 have hck := Jn B la n c vs hn (h.on (hY.trans (hb.mono hY.size)))
 have HCK := hH hck
 have HT := hH (aN htn (aN ht (aN hw (aN hn (aN h hO)))))
 have HB := hH (aN hb (aN hsz (aN e1 e2)))
 have HG := hH hgB
 have HBE := hH hB
 have HYY := hH hY
 obtain ⟨m, hm⟩ : ∃ m, m = qf (steps vs) := ⟨_, rfl⟩
 rw [← hm] at HCK
 have HM := hH hm
 clear hY hb hsz e0 e1 e2 hgB hck hB hm htn ht hw hn h hg hf hgn hO
 go_enter Tryz.func18, Tryz.ntmps18
 go_wp2_with fail
 change Calls _ _ _ (zo w [.cells #[.slice ga gn gc, .int .i64 g.root] 34, .cells #[.int .i64 t.id, .int .i64 t.kind, .string t.text, .slice ta tn tc] 37, .cells #[.int .i64 0, .int .i64 0, .string ⟨#[]⟩, .slice none 0 0] 37]) _
 rw [← HBE.out]
 clear HBE
 refine HCK.out.mono ?_
 rintro e W1 ⟨rfl, hb1⟩
 have HB1 := hH hb1
 clear hb1 HCK
 by_cases hm0 : m = 0
 · have ho : qd (steps vs) = true := by
    have := HM.out
    rw [hm0, qf] at this
    by_cases h : qd (steps vs) = true
    · exact h
    · rw [if_neg h] at this; cases this
   have HO := hH ho
   subst hm0
   clear ho
   go_wp2_with fail
   obtain ⟨RB, hRB⟩ : ∃ RB, RB = w.heap.size + 1 + 1 := ⟨_, rfl⟩
   have hbw1 : Below w.heap.size w W1 := HB.out.1.trans (HB1.out.mono HB.out.1.size)
   have e1 := (HB1.out.block _ (lt_of_heap HB.out.2.2.1)).trans HB.out.2.2.1
   have e2 := (HB1.out.block _ (lt_of_heap HB.out.2.2.2)).trans HB.out.2.2.2
   rw [← hRB] at e2 ⊢
   have hnc : ∀ X, zi W1 X (fun y => y = RB) → X.cell? ⟨w.heap.size + 1, 0, none⟩ = some (.int .i64 t.id) ∧ X.cell? ⟨w.heap.size + 1, 1, none⟩ = some (.int .i64 t.kind) ∧ X.cell? ⟨w.heap.size + 1, 2, none⟩ = some (.string t.text) ∧ X.cell? ⟨w.heap.size + 1, 3, none⟩ = some (.slice ta tn tc) := fun X hX => zJ ((hX.block _ (lt_of_heap e1) (by omega)).trans e1)
   have HNC := hH hnc
   have HE := hH (aN hbw1 (aN e1 (aN e2 (aN hRB (show W1.heap.size ≥ w.heap.size + 3 by have := HB1.out.size; have := HB.out.2.1; omega)))))
   clear hnc e1 e2 hbw1 hRB
   refine wp_region_held_drew (S := fun X => zi W1 X (fun y => y = RB)) (by kernel_rfl) (zi.refl _ _).drew (fun hHeld => ?_)
   refine tkH (i := 0) (.agg #[.int .i64 t.id, .int .i64 t.kind, .string t.text, .slice ta tn tc]) rfl (Or.inl ⟨by rfl, ?_⟩) (by assumption) ?_
   · clear hHeld; intro X hSw; obtain ⟨n0, n1, n2, n3⟩ := HNC.out X hSw; clear hSw; go_simp
   simp only [Act.put, pg]
   refine tkH (i := 1) (.slice la n c) rfl (Or.inl ⟨by rfl, ?_⟩) (by assumption) ?_
   · clear hHeld; intro X hSw; obtain ⟨n0, n1, n2, n3⟩ := HNC.out X hSw; clear hSw; go_simp
   simp only [Act.put, pg]
   refine tkH (i := 4) (.func (.func 40) #[] #[.pointer (some ⟨w.heap.size, 0, none⟩)]) rfl (Or.inl ⟨by rfl, ?_⟩) (by assumption) ?_
   · clear hHeld; intro X hSw; obtain ⟨n0, n1, n2, n3⟩ := HNC.out X hSw; clear hSw; go_simp
   simp only [Act.put, pg]
   refine wpAnyH_ready (rs := [2]) (by kernel_rfl) (by simp) ?_
   refine AllReadyH.cons (o := _) rfl (fun K hK => ?_) AllReadyH.nil
   rw [if_pos (by rfl)]
   simp only [pg3]
   have HK := hH hK
   have HS := hH hHeld
   clear hK hHeld
   go_wp2_with fail
   obtain ⟨WA, hWA⟩ : ∃ WA, WA = (World.alloc W1 (.cells #[.slice la n c] 22)).drew := ⟨_, rfl⟩
   rw [← hWA]
   have hba : Below W1.heap.size W1 WA := by rw [hWA]; exact below_drewN (zh _ _) 1
   have hsa : WA.heap.size = W1.heap.size + 1 := by rw [hWA]; exact World.size_alloc _ _
   have hra : WA.heap[W1.heap.size]? = some (.cells #[.slice la n c] 22 (0, 0)) := by rw [hWA]; exact heap_alloc_new W1 _
   refine HK.out _ _ ⟨hba.os, hba.tape, hba.output, hba.size, fun y h1 _ => hba.block y h1⟩ (fun hHeld => ?_)
   have HA := hH (aN hba (aN hsa hra))
   obtain ⟨R, hR⟩ : ∃ R, R = W1.heap.size := ⟨_, rfl⟩
   rw [← hR]
   have HR := hH hR
   clear HK HS hWA hba hsa hra hR
   refine wpAnyH_ready (rs := [3]) (by kernel_rfl) (by simp) ?_
   refine AllReadyH.cons (o := _) rfl (fun K hK => ?_) AllReadyH.nil
   rw [if_pos (by rfl)]
   simp only [pg3]
   have HK := hH hK
   have HS := hH hHeld
   clear hK hHeld
   go_wp2_with (go_at_call 24; refine (qO _ _ _ _).mono ?_; rintro e w4 ⟨rfl, hw4⟩)
   have hb4 : Below WA.heap.size WA w4 := by rw [← hw4]; exact zh _ _
   have hn4 : w4.heap[WA.heap.size]? = some (.cells #[.slice (some ⟨R, 0, none⟩) 1 1] 91 (0, 0)) := by rw [← hw4]; exact heap_alloc_new _ _
   have hbw4 : Below W1.heap.size W1 w4 := HA.out.1.trans (hb4.mono HA.out.1.size)
   have hr4 : w4.heap[R]? = some (.cells #[.slice la vs.length c] 22 (0, 0)) := by rw [HR.out, ← HT.out.2.2.2.1]; exact (hb4.block _ (by have := HA.out.2.1; omega)).trans HA.out.2.2
   have hbz : Below w.heap.size w w4 := HE.out.1.trans (hbw4.mono HE.out.1.size)
   have hYz := HYY.out.trans (hbz.mono HYY.out.size)
   have hrow := Y3 (HT.out.2.2.2.2.1.on hYz) hn4 hr4
   have hG4 := HG.out.on (HB1.out.trans (hbw4.mono HB1.out.size))
   have hDo := zdl (t := t) (rs := [⟨la, c, vs⟩]) (E0 := FY Y0 w) hYz (fun x hx => by rw [qJ] at hx; exact ⟨HT.out.2.2.2.2.1.lies x hx, HT.out.2.2.2.2.1.fit x hx, HT.out.2.2.2.2.2 x hx⟩) (fun q hq => ⟨hq.1, by have := hq.2; have := HE.out.2.2.2.2; have := hbw4.size; omega⟩) hG4
   have hfo := Q5 w4 WA.heap.size R ⟨t.id, t.kind, t.text, ta, tn, tc⟩ hDo hrow.j (by simp) (fun r hr => (hrow.rows r hr).len) (by have := J8 hrow; omega) ⟨Below.refl _ _, t, rfl, HT.out.2.2.1, rfl, rfl, rfl, HT.out.1, zU.n HT.out.2.1 hYz (fun q hq => by
    rcases hq with hq | hq
    · have := hq.1; have := hYz.size; omega
    · exact hq.1)⟩
   have hfo2 := hfo.mono (fun e w' h => zex (by rw [qJ, zD]) h)
   rw [qJ] at hfo2
   obtain ⟨r, hr⟩ : ∃ r, r = qh g t (steps vs) := ⟨_, rfl⟩
   rw [← hr] at hfo2
   obtain ⟨r1, hr1⟩ : ∃ r1, r1 = r.2.1 := ⟨_, rfl⟩
   obtain ⟨r2, hr2⟩ : ∃ r2, r2 = r.2.2 := ⟨_, rfl⟩
   rw [← hr1, ← hr2] at hfo2
   have HFO := hH hfo2
   have HRR := hH (aN hr (aN hr1 hr2))
   have HB4 := hH hbw4
   have HN4 := hH (show w4.heap.size ≥ w.heap.size + 3 by have := hbw4.size; have := HE.out.2.2.2.2; omega)
   obtain ⟨NB, hNB⟩ : ∃ NB, NB = WA.heap.size := ⟨_, rfl⟩
   rw [← hNB] at HFO ⊢
   refine HK.out _ _ ⟨hbw4.os, hbw4.tape, hbw4.output, hbw4.size, fun y h1 _ => hbw4.block y h1⟩ (fun hHeld => ?_)
   clear HK HS hfo hfo2 hDo hG4 hrow hbz hr4 hbw4 hn4 hb4 hw4 hr hr1 hr2 hNB
   refine wpAnyH_ready (rs := [5]) (by kernel_rfl) (by simp) ?_
   refine AllReadyH.cons (o := _) rfl (fun K hK => ?_) AllReadyH.nil
   rw [if_pos (by rfl)]
   simp only [pg3]
   have HK := hH hK
   have HS := hH hHeld
   clear hK hHeld
   go_wp2_with (go_at_call 39; refine HFO.out.mono ?_; rintro e w5 ⟨v, rfl, hb5, hv5, hv6⟩)
   obtain ⟨i2, k2, x2, a2, n2, c2⟩ := v
   simp only [NV.v]
   have HB5 := hH (HB4.out.trans (hb5.mono HB4.out.size))
   have HV5 := hH (aN hv5 hv6)
   refine HK.out _ _ ⟨HB5.out.os, HB5.out.tape, HB5.out.output, HB5.out.size, fun y h1 _ => HB5.out.block y h1⟩ (fun hHeld => ?_)
   clear HK HS hb5 hv5 hv6
   refine tkH (i := 6) (.tuple #[.agg #[.int .i64 i2, .int .i64 k2, .string x2, .slice a2 n2 c2], .int .i64 (r1 : Int), .int .i64 r2]) rfl (Or.inl ⟨by rfl, fun X _ => by clear hHeld; go_simp⟩) (by assumption) ?_
   simp only [Act.put, pg]
   refine tkH (i := 7) (.agg #[.int .i64 i2, .int .i64 k2, .string x2, .slice a2 n2 c2]) rfl (Or.inl ⟨by rfl, fun X _ => by clear hHeld; go_simp⟩) (by assumption) ?_
   simp only [Act.put, pg]
   refine tkH (i := 8) (.int .i64 (r1 : Int)) rfl (Or.inl ⟨by rfl, fun X _ => by clear hHeld; go_simp⟩) (by assumption) ?_
   simp only [Act.put, pg]
   refine tkH (i := 9) (.int .i64 r2) rfl (Or.inl ⟨by rfl, fun X _ => by clear hHeld; go_simp⟩) (by assumption) ?_
   simp only [Act.put, pg]
   refine wpAnyH_ready (rs := [10]) (by kernel_rfl) (by simp) ?_
   refine AllReadyH.cons (o := _) rfl (fun K hK => ?_) AllReadyH.nil
   rw [if_pos (by rfl)]
   simp only [pg3]
   have HK := hH hK
   have HS := hH hHeld
   clear hK hHeld
   have e5 := (HB5.out.block _ (lt_of_heap HE.out.2.2.1)).trans HE.out.2.2.1
   obtain ⟨z0, z1, z2, z3⟩ := zJ e5
   have zf : ∀ j, w5.frozen? ⟨RB, j, none⟩ = false := fun j => frozen_of_row _ _ j _ _ e5
   obtain ⟨V, hV, s1, s2, s3, s4, s5, s6⟩ := zu (u0 := .int .i64 i2) (u1 := .int .i64 k2) (u2 := .string x2) (u3 := .slice a2 n2 c2) e5
   have hbV : Below w.heap.size w V := by
    have hb := HE.out.1.trans (HB5.out.mono HE.out.1.size)
    exact ⟨s3.trans hb.os, s4.trans hb.tape, s5.trans hb.output, by rw [s6]; exact hb.size, fun y hy => (s2 y (by have := HE.out.2.2.2.1; omega)).trans (hb.block y hy)⟩
   have htV : zi W1 V (fun y => y = RB) := ⟨s3.trans HB5.out.os, s4.trans HB5.out.tape, s5.trans HB5.out.output, by rw [s6]; exact HB5.out.size, fun y h1 h2 => (s2 y h2).trans (HB5.out.block y h1)⟩
   have HVV := hH (aN hV (aN s1 (aN s2 (aN s6 (aN hbV htV)))))
   clear hV s1 s2 s3 s4 s5 s6 hbV htV e5
   go_wp2_with fail
   rw [← HVV.out.1]
   refine HK.out _ _ HVV.out.2.2.2.2.2 (fun hHeld => ?_)
   clear HK HS z0 z1 z2 z3 zf
   refine tkH (i := 11) (.int .i64 (r1 : Int)) rfl (Or.inl ⟨by rfl, fun X _ => by clear hHeld; go_simp⟩) (by assumption) ?_
   simp only [Act.put, pg]
   refine tkH (i := 12) (.int .i64 r2) rfl (Or.inl ⟨by rfl, fun X _ => by clear hHeld; go_simp⟩) (by assumption) ?_
   simp only [Act.put, pg]
   refine wpAnyH_done (by kernel_rfl) ?_ _
   clear hHeld
   by_cases hr0 : r2 = 0
   · obtain ⟨x, hx⟩ : ∃ x, x = r.1 := ⟨_, rfl⟩
     have HAP := hH (show apK g t (steps vs) = (x, r1, r2) by rw [apK, if_pos HO.out, ← HRR.out.1, ← HRR.out.2.2, if_pos hr0, ← HRR.out.2.1, ← hx])
     obtain ⟨h1, h2, h3, h4, h5⟩ := HV5.out.1 hr0
     rw [← hx] at h1 h2 h3 h4 h5
     simp only at h1 h2 h3 h4 h5
     subst h1 h2 h3
     have hRF : FY Y0 w RB := ⟨by have := HE.out.2.2.2.1; have := HYY.out.size; omega, by have := HE.out.2.2.2.1; omega⟩
     have hlV : zK V (FY Y0 w) x.kids a2 c2 := ⟨h5.1, h5.2.kept fun q hq => ⟨⟨by rw [HVV.out.2.2.2.1]; exact hq.1, fun e => hq.2 (Or.inr e)⟩, HVV.out.2.2.1 q (fun e => hq.2 (Or.inr (e ▸ hRF)))⟩⟩
     have HRF := hH hRF
     clear hRF
     have hway : Way x := by rw [hx, HRR.out.1]; exact zeX (fun s hs => by obtain ⟨y, hy, rfl⟩ := List.mem_map.1 hs; exact HT.out.2.2.2.2.1.fit y hy) HT.out.2.2.1 (zaK (by rw [← HRR.out.1, ← HRR.out.2.2]; exact hr0)).1
     have HNN := hH h4
     have hrb : (r2 != 0) = false := by simpa using hr0
     have HLV := hH (aN hlV hway)
     clear h4 h5 hlV hway hr0 hx
     obtain ⟨y0, y1, y2, y3⟩ := zJ HVV.out.2.1
     have HCP := hH (zdD (E := FY Y0 w) (fun q hq => by have := hq.2; have := HE.out.2.2.2.2; have := HVV.out.2.2.2.2.2.size; omega) HLV.out.1 HNN.out (by have := HLV.out.2.size; omega))
     have HBW := hH HVV.out.2.2.2.2.1
     have HRW := hH HVV.out.2.1
     go_wp2_with fail
     refine HCP.out.mono ?_
     clear y0 y1 y2 y3
     rintro e w6 ⟨va, vc, rfl, hl6, hb6⟩
     have e6 := (hb6.block _ (lt_of_heap HRW.out)).trans HRW.out
     have hb7 := HBW.out.trans (hb6.mono HBW.out.size)
     obtain ⟨z0, z1, z2, z3⟩ := zJ e6
     have zf : ∀ j, w6.frozen? ⟨RB, j, none⟩ = false := fun j => frozen_of_row _ _ j _ _ e6
     obtain ⟨U, hU, s1, s2, s3, s4, s5, s6⟩ := zu (u0 := .int .i64 x.id) (u1 := .int .i64 x.kind) (u2 := .string x.text) (u3 := .slice va n2 vc) e6
     have hlU : zK U (fun q => Y0.heap.size ≤ q ∧ q < w.heap.size) x.kids va vc := ⟨hl6.1, hl6.2.kept fun q hq => ⟨⟨by rw [s6]; exact hq.1, fun e => hq.2 ⟨e.1, by have := e.2; omega⟩⟩, s2 q (fun e => hq.2 (e ▸ HRF.out))⟩⟩
     have HU := hH (aN hU (aN s1 (aN s2 (aN s3 (aN s4 (aN s5 (aN s6 (aN hlU hb7))))))))
     clear hU s1 s2 s3 s4 s5 s6 hlU hb7 hb6 hl6 e6
     go_wp2_with fail
     rw [← HU.out.1]
     obtain ⟨hU, s1, s2, s3, s4, s5, s6, hlU, hb7⟩ := HU.out
     exact zb5 rfl (r := apK g t (steps vs)) ⟨s3.trans hb7.os, s4.trans hb7.tape, s5.trans hb7.output, by rw [s6]; exact hb7.size, fun k hk => (s2 k (by have := HE.out.2.2.2.1; omega)).trans (hb7.block k hk)⟩ (by rw [HAP.out]; exact s1) (by rw [HAP.out]; exact HNN.out) (by rw [HAP.out]; exact hlU) rfl (by rw [HAP.out]; rfl) (by rw [HAP.out]; rfl)
   · have HAP := hH (show apK g t (steps vs) = (t, r1, r2) by rw [apK, if_pos HO.out, ← HRR.out.1, ← HRR.out.2.2, if_neg hr0, ← HRR.out.2.1])
     have hrb : (r2 != 0) = true := by simpa using hr0
     obtain ⟨n0, n1, n2', n3⟩ := HNC.out V HVV.out.2.2.2.2.2
     obtain ⟨z0, z1, z2, z3⟩ := zJ HVV.out.2.1
     have zf : ∀ j, V.frozen? ⟨RB, j, none⟩ = false := fun j => frozen_of_row _ _ j _ _ HVV.out.2.1
     obtain ⟨V7, hV7, s1, s2, s3, s4, s5, s6⟩ := zu (u0 := .int .i64 t.id) (u1 := .int .i64 t.kind) (u2 := .string t.text) (u3 := .slice ta tn tc) HVV.out.2.1
     have hbv := HVV.out.2.2.2.2.1
     have hb7 : Below w.heap.size w V7 := ⟨s3.trans hbv.os, s4.trans hbv.tape, s5.trans hbv.output, by rw [s6]; exact hbv.size, fun k hk => (s2 k (by have := HE.out.2.2.2.1; omega)).trans (hbv.block k hk)⟩
     have H7 := hH (aN hV7 (aN s1 hb7))
     clear hV7 s1 s2 s3 s4 s5 s6 hb7 hbv hr0
     go_upto_region 7 with fail
     rw [← H7.out.1]
     clear n0 n1 n2' n3 z0 z1 z2 z3 zf
     obtain ⟨y0, y1, y2, y3⟩ := zJ H7.out.2.1
     have HRF := hH (show FY Y0 w RB from ⟨by have := HE.out.2.2.2.1; have := HYY.out.size; omega, by have := HE.out.2.2.2.1; omega⟩)
     have HCP := hH (zdD (E := FY Y0 w) (fun q hq => by have := hq.2; have := lt_of_heap H7.out.2.1; have := HE.out.2.2.2.1; omega) (zU.n HT.out.2.1 (HYY.out.trans (H7.out.2.2.mono HYY.out.size)) (fun q hq => hq.1)) HT.out.1 (by have := HT.out.2.2.1.size; omega))
     have HBW := hH H7.out.2.2
     have HRW := hH H7.out.2.1
     go_wp2_with fail
     refine HCP.out.mono ?_
     clear y0 y1 y2 y3
     rintro e w6 ⟨va, vc, rfl, hl6, hb6⟩
     have e6 := (hb6.block _ (lt_of_heap HRW.out)).trans HRW.out
     have hb7 := HBW.out.trans (hb6.mono HBW.out.size)
     obtain ⟨z0, z1, z2, z3⟩ := zJ e6
     have zf : ∀ j, w6.frozen? ⟨RB, j, none⟩ = false := fun j => frozen_of_row _ _ j _ _ e6
     obtain ⟨U, hU, s1, s2, s3, s4, s5, s6⟩ := zu (u0 := .int .i64 t.id) (u1 := .int .i64 t.kind) (u2 := .string t.text) (u3 := .slice va tn vc) e6
     have hlU : zK U (fun q => Y0.heap.size ≤ q ∧ q < w.heap.size) t.kids va vc := ⟨hl6.1, hl6.2.kept fun q hq => ⟨⟨by rw [s6]; exact hq.1, fun e => hq.2 ⟨e.1, by have := e.2; omega⟩⟩, s2 q (fun e => hq.2 (e ▸ HRF.out))⟩⟩
     have HU := hH (aN hU (aN s1 (aN s2 (aN s3 (aN s4 (aN s5 (aN s6 (aN hlU hb7))))))))
     clear hU s1 s2 s3 s4 s5 s6 hlU hb7 hb6 hl6 e6
     go_wp2_with fail
     rw [← HU.out.1]
     obtain ⟨hU, s1, s2, s3, s4, s5, s6, hlU, hb7⟩ := HU.out
     exact zb5 rfl (r := apK g t (steps vs)) ⟨s3.trans hb7.os, s4.trans hb7.tape, s5.trans hb7.output, by rw [s6]; exact hb7.size, fun k hk => (s2 k (by have := HE.out.2.2.2.1; omega)).trans (hb7.block k hk)⟩ (by rw [HAP.out]; exact s1) (by rw [HAP.out]; exact HT.out.1) (by rw [HAP.out]; exact hlU) rfl (by rw [HAP.out]; rfl) (by rw [HAP.out]; rfl)
 · have ho : ¬ qd (steps vs) = true := fun h => hm0 (by rw [HM.out, qf, if_pos h])
   have hm3 : m = 3 := by rw [HM.out, qf, if_neg ho]
   have HAP := hH (show apK g t (steps vs) = (zA, 0, 3) by rw [apK, if_neg ho])
   subst hm3
   have e2 := (HB1.out.block _ (lt_of_heap HB.out.2.2.2)).trans HB.out.2.2.2
   have hbw1 : Below w.heap.size w W1 := HB.out.1.trans (HB1.out.mono HB.out.1.size)
   obtain ⟨z0, z1, z2, z3⟩ := zJ e2
   have zf : ∀ j, W1.frozen? ⟨w.heap.size + 1 + 1, j, none⟩ = false := fun j => frozen_of_row _ _ j _ _ e2
   obtain ⟨U, hU, s1, s2, s3, s4, s5, s6⟩ := zu (u0 := .int .i64 0) (u1 := .int .i64 0) (u2 := .string ⟨#[]⟩) (u3 := .slice none 0 0) e2
   have HU := hH (aN hU (aN s1 (aN s2 (aN s3 (aN s4 (aN s5 (aN s6 hbw1)))))))
   clear hU s1 s2 s3 s4 s5 s6 hbw1 e2 ho hm0
   go_wp2_with fail
   rw [← HU.out.1]
   obtain ⟨hU, s1, s2, s3, s4, s5, s6, hb7⟩ := HU.out
   exact zb5 rfl (r := apK g t (steps vs)) (g := w.heap.size + 1 + 1) (m := 0) (kb := none) (kc := 0) ⟨s3.trans hb7.os, s4.trans hb7.tape, s5.trans hb7.output, by rw [s6]; exact hb7.size, fun k hk => (s2 k (by omega)).trans (hb7.block k hk)⟩ (by rw [HAP.out]; exact s1) (by rw [HAP.out]; rfl) (by rw [HAP.out]; exact ⟨Nat.le_refl _, True.intro⟩) rfl (by rw [HAP.out]; rfl) (by rw [HAP.out]; rfl)
theorem zdh (w : World) (g : Gr) (t : Tr) (ga ta la : Option Addr) (gn gc tn tc n c : Nat) (vs : List SV) (hgn : gn = g.kinds.length) (hg : ∀ Y, Below w.heap.size w Y → GrV Y (.agg #[.slice ga g.kinds.length gc, .int .i64 g.root]) g) (hf : g.few) (htn : tn = zb t.kids) (ht : zU w t.kids ta tc) (hw : Way t) (hn : n = vs.length) (h : Row w la vs) (hO : ∀ x ∈ vs, ZW x.s.op) :
 Calls Tryz.prog 18 #[.agg #[.slice ga gn gc, .int .i64 g.root], .agg #[.int .i64 t.id, .int .i64 t.kind, .string t.text, .slice ta tn tc], .slice la n c] w (ApO (apK g t (steps vs)) w) := by
 refine (zbM w w g t ga ta la gn gc tn tc n c vs (Below.refl _ _) hgn hg hf htn ht hw hn h hO).mono ?_
 rintro e W ⟨va, vc, he, hl, hb⟩
 exact ⟨va, vc, he, hl.i, hb⟩
end Go.Proofs.YtonapijgfalpaaaGreat
