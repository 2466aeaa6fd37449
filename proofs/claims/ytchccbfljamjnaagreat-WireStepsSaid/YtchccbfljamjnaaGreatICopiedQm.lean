/-
  .
-/
import Derived.Deep.LoopGhost
import Derived.Test.YtchccbfljamjnaaGreatIOwnQm
import Derived.Test.YtchccbfljamjnaaGreatICopyPQm
import Derived.Test.YtchccbfljamjnaaGreatJPgQm
set_option maxRecDepth 100000
set_option maxHeartbeats 40000000
namespace Go.Proofs.YtchccbfljamjnaaGreat
open Go.RowKit Go.Shelf
set_option linter.unusedVariables false
set_option linter.unusedSimpArgs false
structure Wr where
 a : Option Addr
 f : Fo
 cap : Nat
def Wr.v (x : Wr) : Value := .slice x.a (foLen x.f) x.cap
def qa : List Wr → Nat
 | [] => 0
 | x :: l => zb x.f + 1 + qa l
theorem yP : ∀ (l m : List Wr), qa (l ++ m) = qa l + qa m
 | [], m => by simp [qa]
 | x :: l, m => by simp only [List.cons_append, qa, yP l m]; omega
theorem ku : ∀ l : List Wr, l.length ≤ qa l
 | [] => Nat.le_refl _
 | x :: l => by have := ku l; simp only [List.length_cons, qa]; omega
def Jo (S : Nat → Prop) (w X : World) (r : Wr) : Prop := foLen r.f ≤ r.cap ∧ zi X (SN S w.heap.size X) r.f r.a ∧ (0 < foLen r.f → ∃ g, r.a = some ⟨g, 0, none⟩ ∧ w.heap.size + 3 ≤ g ∧ NB X g)
structure CpI (S : Nat → Prop) (w : World) (t : Tr) (L : List Wr) (X : World) : Prop where
 wait : ∃ a c, X.heap[w.heap.size + 1 + 1]? = some (.cells #[.slice a L.length c] 214 (0, 0)) ∧ X.ownsRow (w.heap.size + 3) 33 1 (.slice a L.length c) L.length (L.map Wr.v)
 root : ∃ ka kc, X.heap[w.heap.size]? = some (.cells #[.int .i64 t.id, .int .i64 t.kind, .string t.text, .slice ka (foLen t.kids) kc] 35 (0, 0)) ∧ foLen t.kids ≤ kc ∧ zi X (SN S w.heap.size X) t.kids ka
 res : X.heap[w.heap.size + 1]? = some (.cells #[.int .i64 0, .int .i64 0, .string ⟨#[]⟩, .slice none 0 0] 35 (0, 0))
 rows : ∀ r ∈ L, Jo S w X r
 below : Below w.heap.size w X
 size : w.heap.size + 3 ≤ X.heap.size
theorem QZ {w : World} {B g n cap : Nat} {e : TypeId} {xs : List Value} {u : Value} (h : w.ownsRow B e 1 (.slice (some ⟨g, 0, none⟩) (n + 1) cap) (n + 1) (xs ++ [u])) (hn : n = xs.length) : w.ownsRow B e 1 (.slice (some ⟨g, 0, none⟩) n cap) n xs := by
 rcases h.2 with ⟨hv, _⟩ | ⟨g', cap', cur, hv, hB, hh, h3, h4, h5, h6⟩
 · cases hv
 · cases hv
   refine ⟨by omega, Or.inr ⟨g, cap, cur, rfl, hB, hh, by omega, h4, h5, ?_⟩⟩
   have h7 : (cur.toList.take ((n + 1) * 1)).take (n * 1) = (xs ++ [u]).take (n * 1) := by rw [h6]
   rw [List.take_take, Nat.min_eq_left (by omega)] at h7
   rw [h7, List.take_left' (by omega)]
theorem CpI.own {S : Nat → Prop} {w X V : World} {t : Tr} {L : List Wr} {wa : Option Addr} {wc b off : Nat} {f : Fo} (h : CpI S w t L X) (hw : X.heap[w.heap.size + 1 + 1]? = some (.cells #[.slice wa L.length wc] 214 (0, 0))) (hrow : X.ownsRow (w.heap.size + 3) 33 1 (.slice wa L.length wc) L.length (L.map Wr.v))
 (hb : (b = w.heap.size ∧ off = 0 ∧ f = t.kids) ∨ w.heap.size + 3 ≤ b) (o : zaQ S w.heap.size (w.heap.size + 1 + 1) (w.heap.size + 3) X wa L.length wc (L.map Wr.v) b off f V) : ∃ r, r.f = f ∧ CpI S w t (L ++ [r]) V ∧ (∀ l a, zi X (SN S w.heap.size X) l a → zi V (SN S w.heap.size V) l a) ∧ ∀ y, NB X y → NB V y := by
 obtain ⟨wa', wc', ka', kc', o1, o2, o3, o4, o5, ⟨o6, o7, o8, o9⟩, oa, ob, oc, od⟩ := o
 have hs := h.size
 have hne : ∀ y, y < w.heap.size + 3 → some y ≠ (Value.slice wa L.length wc).ownBlock := fun y hy e => by have := (zA hrow e.symm).1; omega
 refine ⟨⟨ka', f, kc'⟩, rfl, ⟨?_, ?_, ?_, fun r hr => ?_, ⟨o7.trans h.below.os, o8.trans h.below.tape, o9.trans h.below.output, Nat.le_trans h.below.size o6, fun y hy => ?_⟩, by omega⟩, oa, ob⟩
 · refine ⟨wa', wc', ?_, ?_⟩
   · rw [List.length_append, List.length_singleton]; exact o1
   · rw [List.length_append, List.length_singleton, List.map_append]; exact o2
 · obtain ⟨ka, kc, r1, r2, r3⟩ := h.root
   rcases hb with ⟨rfl, rfl, rfl⟩ | hb
   · exact ⟨ka', kc', by rw [o5 _ r1]; simp, o3, oc⟩
   · exact ⟨ka, kc, (o4 _ (by omega) (by omega) (by omega) (hne _ (by omega))).trans r1, r2, oa _ _ r3⟩
 · refine (o4 _ (by omega) ?_ (by omega) (hne _ (by omega))).trans h.res
   rcases hb with ⟨rfl, _⟩ | hb <;> omega
 · rcases List.mem_append.1 hr with hr | hr
   · obtain ⟨h1, h2, h3⟩ := h.rows r hr
     exact ⟨h1, oa _ _ h2, fun h0 => by obtain ⟨g, e, hg, hn⟩ := h3 h0; exact ⟨g, e, hg, ob g hn⟩⟩
   · have : r = ⟨ka', f, kc'⟩ := by simpa using hr
     subst this
     exact ⟨o3, oc, fun h0 => by obtain ⟨g, e, hg, hn⟩ := od h0; exact ⟨g, e, by omega, hn⟩⟩
 · refine (o4 y (by omega) ?_ (by omega) (hne _ (by omega))).trans (h.below.block y hy)
   rcases hb with ⟨rfl, _⟩ | hb <;> omega
theorem CpI.pop {S : Nat → Prop} {w X : World} {t : Tr} {L : List Wr} {r : Wr} {g wc n : Nat} (h : CpI S w t (L ++ [r]) X) (hS : ∀ y, S y → y < w.heap.size) (hn : n = L.length) (hw : X.heap[w.heap.size + 1 + 1]? = some (.cells #[.slice (some ⟨g, 0, none⟩) (n + 1) wc] 214 (0, 0))) (hrow : X.ownsRow (w.heap.size + 3) 33 1 (.slice (some ⟨g, 0, none⟩) (n + 1) wc) (n + 1) ((L ++ [r]).map Wr.v)) :
 CpI S w t L (X.setCell ⟨w.heap.size + 1 + 1, 0, none⟩ (.slice (some ⟨g, 0, none⟩) n wc)) ∧ Jo S w (X.setCell ⟨w.heap.size + 1 + 1, 0, none⟩ (.slice (some ⟨g, 0, none⟩) n wc)) r := by
 obtain ⟨V, hV⟩ : ∃ V, V = X.setCell ⟨w.heap.size + 1 + 1, 0, none⟩ (.slice (some ⟨g, 0, none⟩) n wc) := ⟨_, rfl⟩
 have ho : ∀ y, y ≠ w.heap.size + 1 + 1 → V.heap[y]? = X.heap[y]? := fun y hy => by rw [hV]; exact Below.heap_setCell _ _ _ _ hy
 have hk : ∀ y, SN S w.heap.size X y → SN S w.heap.size V y ∧ V.heap[y]? = X.heap[y]? := fun y hy => by
  have hne : y ≠ w.heap.size + 1 + 1 := fun e => by
   rcases hy with hy | ⟨_, _, cs, hcs⟩
   · have := hS y hy; omega
   · exact absurd (vS (by rw [e]; exact hw) hcs) (by decide)
  exact ⟨hy.imp (fun h => h) (fun h => ⟨h.1, h.2.1, h.2.2.ji (ho y hne)⟩), ho y hne⟩
 have hrw : ∀ x ∈ L ++ [r], Jo S w V x := fun x hx => by
  obtain ⟨h1, h2, h3⟩ := h.rows x hx
  exact ⟨h1, h2.kept hk, fun h0 => by obtain ⟨g', e, hg, hN⟩ := h3 h0; exact ⟨g', e, hg, (hN.ji (ho g' (by omega)))⟩⟩
 rw [← hV]
 have hs := h.size
 have hgb := zA hrow (g := g) rfl
 refine ⟨⟨⟨some ⟨g, 0, none⟩, wc, ?_, ?_⟩, ?_, (ho _ (by omega)).trans h.res, fun x hx => hrw x (List.mem_append_left _ hx), ?_, ?_⟩, hrw r (by simp)⟩
 · rw [hV, heap_setCell_same X _ 0 _ _ _ hw, ← hn]; simp
 · rw [← hn]
   have h1 := zw (w' := V) hrow (fun g' cur hc hg' => ho g' (by simp only [Value.ownBlock, Option.some.injEq] at hg'; omega))
   rw [List.map_append, List.map_cons, List.map_nil] at h1
   exact QZ h1 (by rw [List.length_map]; exact hn)
 · obtain ⟨ka, kc, r1, r2, r3⟩ := h.root
   exact ⟨ka, kc, (ho _ (by omega)).trans r1, r2, r3.kept hk⟩
 · rw [hV]; exact h.below.setCell (by simp only; omega) _
 · rw [hV]; simp [World.setCell]; omega
theorem Zh : ∀ (L : List Wr), L = [] ∨ ∃ A s, L = A ++ [s] := fun L => by
 rcases List.eq_nil_or_concat L with h | ⟨A, s, h⟩
 · exact Or.inl h
 · exact Or.inr ⟨A, s, by simpa using h⟩
theorem zC {P : Program} {fn : Func} {p : Tmp} {ty : TypeId} (h : fn.results = #[.cell p ty]) (tmps : Array Value) (w : World) (g : Nat) (t : TypeId) (cs : Array Value) (fr : Nat × Nat) (d : TypeDesc)
 (hp : tmps.getD p undef = .pointer (some ⟨g, 0, none⟩)) (hg : w.heap[g]? = some (.cells cs t fr)) (hu : P.underlying ty = some d) (hd : (match d with | .struct _ | .array _ _ => true | _ => false) = true) (hi : (P.info? ty).map (·.size) = some cs.size) :
 (results fn tmps).run P w = .ok (.agg cs) w := by
 have hp' : tmps[p]?.getD undef = .pointer (some ⟨g, 0, none⟩) := by simpa using hp
 simp [results, h, hp', asAddr, run_loadVar_row w g t ty cs fr d hg hu hd hi]
def vF (w : World) (S : Nat → Prop) (t : Tr) (e : Ending) (w' : World) : Prop := ∃ v, e = .returned v ∧ qj w' (fun y => (S y ∨ w.heap.size ≤ y) ∧ y < w'.heap.size) v t ∧ Below w.heap.size w w'
theorem ZQ {f : Fo} {k : Nat} {u : Tr} (h : vP f k = some u) : zb (zJ (k + 1) f) = zb (zJ k f) + zb u.kids + 1 := by
 have := congrArg List.length (ZT f k u h)
 rw [List.length_append, yZ, yZ, YL] at this
 omega
theorem kR : ∀ (j : Nat) (f : Fo), zb (zJ j f) ≤ zb f
 | 0, f => by cases f <;> simp [zJ, zb]
 | j + 1, .nil => by simp [zJ, zb]
 | j + 1, .node _ _ _ l r => by have := kR j r; simp only [zJ, zb]; omega
theorem YA (w : World) (S : Nat → Prop) (nv : Value) (t : Tr) (hS : ∀ y, S y → y < w.heap.size) (ht : qj w S nv t) (hsz : zb t.kids ≤ 100000) : Calls Tryz.prog 153 #[nv] w (vF w S t) := by
 obtain ⟨ka, tc, rfl, hcap, hk⟩ := ht
 obtain ⟨nk, hnk⟩ : ∃ nk, nk = foLen t.kids := ⟨_, rfl⟩
 rw [← hnk]
 have hmf : ∀ (fn : Fn) (first cap : Array Value) (w : World), (Instr.makeFunc fn first cap).run Tryz.prog w = .ok (.func fn first cap) w := fun _ _ _ _ => rfl
 obtain ⟨B, hB⟩ : ∃ B, B = zl w [.cells #[.int .i64 t.id, .int .i64 t.kind, .string t.text, .slice ka nk tc] 35, .cells #[.int .i64 0, .int .i64 0, .string ⟨#[]⟩, .slice none 0 0] 35, .cells #[.slice none 0 0] 214] := ⟨_, rfl⟩
 have hb : Below w.heap.size w B := by rw [hB]; exact zh _ _
 have hs : B.heap.size = w.heap.size + 3 := by rw [hB]; exact yL _ _
 have ht0 : B.heap[w.heap.size]? = some (.cells #[.int .i64 t.id, .int .i64 t.kind, .string t.text, .slice ka nk tc] 35 (0, 0)) := by rw [hB]; exact zg _ _ 0 _ rfl
 have hr0 : B.heap[w.heap.size + 1]? = some (.cells #[.int .i64 0, .int .i64 0, .string ⟨#[]⟩, .slice none 0 0] 35 (0, 0)) := by rw [hB]; exact zg _ _ 1 _ rfl
 have hw0 : B.heap[w.heap.size + 1 + 1]? = some (.cells #[.slice none 0 0] 214 (0, 0)) := by rw [hB]; exact zg _ _ 2 _ rfl
 have hfo : zi B (SN S w.heap.size B) t.kids ka := hk.kept fun y hy => ⟨Or.inl hy, hb.block y (hS y hy)⟩
 have hI0 : CpI S w t [] B := ⟨⟨none, 0, hw0, World.ownsRow_nil _ _ _ _⟩, ⟨ka, tc, by rw [← hnk]; exact ht0, hcap, hfo⟩, hr0, fun r hr => (by cases hr), hb, by omega⟩
 have hfl := yN t.kids
 have hcall := Qh S w.heap.size (w.heap.size + 1 + 1) (w.heap.size + 3) B none 0 0 [] w.heap.size 0 tc ka t.kids hS (by omega) (by omega) (by omega) hw0 (World.ownsRow_nil _ _ _ _) (by omega) ⟨_, ht0⟩ (Nat.le_refl _) (by rw [cell_of_row _ _ _ _ _ _ ht0, ← hnk]; rfl) hfo (by omega) (by omega)
 have HC := hH hcall
 have HSS := hH hS
 have HI0 := hH (aN hI0 hw0)
 have HBE := hH hB
 have HSZ := hH hsz
 clear hcall hI0 hfo hw0 hr0 ht0 hs hb hB hnk hk hcap hS hfl hsz
 go_enter Tryz.func153, Tryz.ntmps153
 go_upto_region 2 with fail
 change Code.wp _ _ _ _ (zl w [.cells #[.int .i64 t.id, .int .i64 t.kind, .string t.text, .slice ka nk tc] 35, .cells #[.int .i64 0, .int .i64 0, .string ⟨#[]⟩, .slice none 0 0] 35, .cells #[.slice none 0 0] 214])
 rw [← HBE.out]
 clear HBE
 go_wp2_with fail
 refine HC.out.mono ?_
 rintro e V0 ⟨rfl, ho⟩
 obtain ⟨r0, hr0, hI1, _, _⟩ := HI0.out.1.own HI0.out.2 (World.ownsRow_nil _ _ _ _) (Or.inl ⟨rfl, rfl, rfl⟩) ho
 rw [List.nil_append] at hI1
 have hm0 : qa [r0] ≤ 100001 := by simp only [qa, hr0]; have := HSZ.out; omega
 have HI1 := hH (aN hI1 hm0)
 clear hI1 ho hr0 HI0 HC hm0 HSZ
 go_wp2_with fail
 go_loopg [5] (qa [r0]) (fun gk s5 wr => ∃ L : List Wr, gk = qa L ∧ Hid (CpI S w t L wr ∧ qa L ≤ 100001))
 case atStart => exact ⟨[r0], rfl, HI1⟩
 case round =>
  obtain ⟨L, hgk, hh⟩ := hrel
  obtain ⟨wo, hwo⟩ : ∃ wo, wo = wr := ⟨_, rfl⟩
  subst hwo
  obtain ⟨wa, wc, hw, hrow⟩ := hh.out.1.wait
  rcases Zh L with rfl | ⟨L0, r, rfl⟩
  · have c0 : wo.cell? ⟨w.heap.size + 1 + 1, 0, none⟩ = some (.slice wa 0 wc) := by rw [cell_of_row _ _ 0 _ _ _ hw]; rfl
    obtain ⟨rka, rkc, q1, q2, q3⟩ := hh.out.1.root
    have q4 := hh.out.1.res
    have q5 := hh.out.1.below
    have q6 := hh.out.1.size
    obtain ⟨k0, k1, k2, k3⟩ := zbg q1
    obtain ⟨z0, z1, z2, z3⟩ := zbg q4
    have zf : ∀ j, wo.frozen? ⟨w.heap.size + 1, j, none⟩ = false := fun j => frozen_of_row _ _ j _ _ q4
    obtain ⟨m, hm⟩ : ∃ m, m = foLen t.kids := ⟨_, rfl⟩
    rw [← hm] at q1 q2 k3
    obtain ⟨V, hV, r1, r2, r3, r4, r5, r6⟩ := JI (u0 := .int .i64 t.id) (u1 := .int .i64 t.kind) (u2 := .string t.text) (u3 := .slice rka m rkc) q4
    have HEND : Hid (vF w S t (.returned (.agg #[.int .i64 t.id, .int .i64 t.kind, .string t.text, .slice rka m rkc])) V) := hH ⟨_, rfl, ⟨rka, rkc, by rw [hm], by omega, q3.kept fun y hy => by
     have hlt := hy.lt HSS.out (by omega)
     exact ⟨⟨hy.imp (fun h => h) (fun h => h.2.1), show y < V.heap.size by omega⟩, r2 y (by rcases hy with hy | ⟨hy, _⟩; have := HSS.out y hy; omega; omega)⟩⟩, ⟨r3.trans q5.os, r4.trans q5.tape, r5.trans q5.output, by rw [r6]; exact q5.size, fun y hy => (r2 y (by omega)).trans (q5.block y hy)⟩⟩
    have HV := hH (aN hV r1)
    clear hh hw hrow q1 q2 q3 q4 q5 q6 hm hV r1 r2 r3 r4 r5 r6 HI1
    go_wp2_with fail
    rw [← HV.out.1]
    refine bodyPost_ret (zC rfl _ _ (w.heap.size + 1) 35 _ (0, 0) _ rfl HV.out.2 Tryz.underlying35 rfl (by kernel_rfl)) rfl ?_
    exact HEND.out
  · obtain ⟨n, hn⟩ : ∃ n, n = L0.length := ⟨_, rfl⟩
    have hlen : (L0 ++ [r]).length = n + 1 := by simp [hn]
    rw [hlen] at hw hrow
    obtain ⟨g, cap2, e, _⟩ := hrow.form (by omega)
    cases e
    have c0 : wo.cell? ⟨w.heap.size + 1 + 1, 0, none⟩ = some (.slice (some ⟨g, 0, none⟩) (n + 1) wc) := by rw [cell_of_row _ _ 0 _ _ _ hw]; rfl
    have cf : ∀ j, wo.frozen? ⟨w.heap.size + 1 + 1, j, none⟩ = false := fun j => frozen_of_row _ _ j _ _ hw
    obtain ⟨rn, hrn⟩ : ∃ rn, rn = foLen r.f := ⟨_, rfl⟩
    have t0 : wo.cell? ⟨g, n, none⟩ = some (.slice r.a rn r.cap) := zK hrow rfl n _ (by
     rw [List.map_append, List.getElem?_append_right (by rw [List.length_map]; omega), List.length_map, ← hn, Nat.sub_self, hrn]; rfl)
    have hnc : n + 1 ≤ wc := by
     rcases hrow.2 with ⟨hv, _⟩ | ⟨_, _, _, hv, _, _, h3, _⟩
     · cases hv
     · cases hv; exact h3
    obtain ⟨hp1, hp2⟩ := hh.out.1.pop HSS.out hn hw hrow
    obtain ⟨V, hV⟩ : ∃ V, V = wo.setCell ⟨w.heap.size + 1 + 1, 0, none⟩ (.slice (some ⟨g, 0, none⟩) n wc) := ⟨_, rfl⟩
    rw [← hV] at hp1 hp2
    have hw6 := hh.out.2
    have hws : qa (L0 ++ [r]) = qa L0 + zb r.f + 1 := by rw [yP]; simp only [qa]; omega
    have hwl := ku L0
    have hfr := yN r.f
    rw [hws] at hgk hw6
    have hn6 : n ≤ 100000 := by omega
    have hr6 : rn ≤ 100001 := by omega
    have HV := hH hV
    have HP := hH (aN hp1 (aN hp2 (aN hgk (aN hw6 hrn))))
    clear hh hw hrow hlen hp1 hp2 hgk hw6 hws hwl hfr hrn hV hn HI1
    go_wp2_with fail
    rw [← HV.out]
    go_loopw [26] (fun i wr => ∃ (k : Nat) (L1 : List Wr), k ≤ rn ∧ i = .int .i64 (k : Int) ∧ Hid (CpI S w t (L0 ++ L1) wr ∧ Jo S w wr r ∧ qa L1 = zb (zJ k r.f))) (fun i _ => rn - (intOf i).toNat)
    case atStart => exact ⟨0, [], Nat.zero_le _, rfl, hH ⟨by rw [List.append_nil]; exact HP.out.1, HP.out.2.1, by cases r.f <;> rfl⟩⟩
    case round =>
     obtain ⟨k, L1, hk, rfl, hh⟩ := hrel
     by_cases hlt : k < rn
     · have hki : (k : Int) < (rn : Int) := by omega
       obtain ⟨hI, ⟨hr1, hr2, hr3⟩, hws⟩ := hh.out
       have hrn := HP.out.2.2.2.2
       have hw6 := HP.out.2.2.2.1
       obtain ⟨g3, ha, hg3, hN3⟩ := hr3 (by omega)
       obtain ⟨b0, o0, key, ll, rr, hd, g2, go, na, nc, hka, hSg, q0, q1, q2, q3, qc, qk⟩ := hr2.at k (by omega)
       rw [ha] at hka
       cases hka
       have hkid : vP r.f k = some ⟨key.1, key.2.1, key.2.2, ll⟩ := by rw [vP, hd]; rfl
       have hksz := QM hkid
       have hll := yN ll
       have hts := ZQ hkid
       have htl := kR k r.f
       have hwa : qa (L0 ++ L1) = qa L0 + qa L1 := yP _ _
       have hwl := ku (L0 ++ L1)
       obtain ⟨wa2, wc2, hw2, hrow2⟩ := hI.wait
       simp only at hksz hts
       rw [Nat.zero_add] at q3
       have hcall := Qh S w.heap.size (w.heap.size + 1 + 1) (w.heap.size + 3) wr wa2 (L0 ++ L1).length wc2 ((L0 ++ L1).map Wr.v) g3 (k * 4) nc na ll HSS.out (by omega) (by omega) hI.size hw2 hrow2 (by omega) hN3 (by omega) q3 qk (by omega) (by omega)
       have HC := hH hcall
       have HN := hH (aN hlt (aN hts (aN hg3 (aN hI (aN hw2 (aN hrow2 (aN hr1 (aN hr2 (aN hr3 (aN hws (aN ha hkid)))))))))))
       have hk0 : (0 : Int) ≤ (k : Int) := by omega
       clear hcall hlt hts hg3 hI hw2 hrow2 hr1 hr2 hr3 hws hkid hksz hll htl hwa hwl hN3 hd hSg q0 q1 q2 q3 qc qk hh hrn hw6 hk t0 cf c0
       rw [ha]
       go_wp2_with fail
       refine HC.out.mono ?_
       rintro e V2 ⟨rfl, ho⟩
       obtain ⟨hlt, hts, hg3, hI, hw2, hrow2, hr1, hr2, hr3, hws, ha', hkid⟩ := HN.out
       obtain ⟨r2, hrf, hI2, hkeep, hNB⟩ := hI.own hw2 hrow2 (Or.inr hg3) ho
       have HR := hH (show CpI S w t (L0 ++ (L1 ++ [r2])) V2 ∧ Jo S w V2 r ∧ qa (L1 ++ [r2]) = zb (zJ (k + 1) r.f) from ⟨by rw [← List.append_assoc]; exact hI2, ⟨hr1, hkeep _ _ hr2, fun h0 => by obtain ⟨g, e, h1, h2⟩ := hr3 h0; exact ⟨g, e, h1, hNB g h2⟩⟩, by rw [yP, hws, hts]; simp only [qa, hrf]; omega⟩)
       have HLT := hH hlt
       clear hlt hts hg3 hI hw2 hrow2 hr1 hr2 hr3 hws ha' hkid hI2 hkeep hNB ho HN HC hrf
       go_wp2_with fail
       exact ⟨⟨k + 1, L1 ++ [r2], by have := HLT.out; omega, by go_num, HR⟩, by have := HLT.out; simp [intOf]; omega⟩
     · have hki : ¬ (k : Int) < (rn : Int) := by omega
       have HKN := hH (show k = rn by omega)
       clear hlt hk t0 cf c0
       go_wp2_with fail
       go_roundg (gk - 1)
       case measure => have := HP.out.2.2.1; omega
       case rel =>
        refine ⟨L0 ++ L1, ?_, hH ⟨hh.out.1, ?_⟩⟩
        all_goals
         have h1 := hh.out.2.2
         rw [HKN.out, HP.out.2.2.2.2, qx _ r.f (Nat.le_refl _)] at h1
         have h2 := yP L0 L1
         have h3 := HP.out.2.2.1
         have h4 := HP.out.2.2.2.1
         omega
end Go.Proofs.YtchccbfljamjnaaGreat
