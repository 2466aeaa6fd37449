/-
  A reader of layer 3 reads steps, one behind the other. No condition.
-/
import Derived.Test.YtljlijdgocfofaaCStepR
namespace Go.Proofs.Ytljlijdgocfofaa
open Go.RowKit
open Extern.Stop (cell)

theorem Try.infoSt : (Try.prog.info? 54).map (fun i => (i.size, i.bytes, i.zero.map (fun z => z.cells.size))) = some (9, 104, some 9) := by kernel_rfl
/-- The cells of a row of steps. -/
def StRow (w : World) (S : Nat → Prop) : List Stp → List Value → Prop
  | [], xs => xs = []
  | x :: l, xs => ∃ ka cap ys, xs = stepCells x ka cap ++ ys ∧ foLen x.sub.kids ≤ cap ∧ FoAt w S x.sub.kids ka ∧ StRow w S l ys
theorem StRow.kept {w w' : World} {S S' : Nat → Prop} (hS : ∀ k, S k → S' k ∧ w'.heap[k]? = w.heap[k]?) : ∀ {l : List Stp} {xs : List Value}, StRow w S l xs → StRow w' S' l xs
  | [], _, h => h
  | _ :: _, _, h => by
    obtain ⟨ka, cap, ys, e, hp, hl, hr⟩ := h
    exact ⟨ka, cap, ys, e, hp, hl.kept hS, hr.kept hS⟩
theorem StRow.snoc {w : World} {S : Nat → Prop} {x : Stp} {ka : Option Addr} (hl : FoAt w S x.sub.kids ka) (cap : Nat) (hp : foLen x.sub.kids ≤ cap) : ∀ {l : List Stp} {xs : List Value}, StRow w S l xs → StRow w S (l ++ [x]) (xs ++ stepCells x ka cap)
  | [], xs, h => by subst h; exact ⟨ka, cap, [], by simp, hp, hl, rfl⟩
  | _ :: _, xs, h => by
    obtain ⟨ka', cap', ys, e, hp', hl', hr⟩ := h
    exact ⟨ka', cap', _, by rw [e, List.append_assoc], hp', hl', StRow.snoc hl cap hp hr⟩
theorem StRow.lies {w : World} {S : Nat → Prop} {g : Nat} : ∀ {l : List Stp} {xs : List Value} (off : Nat), StRow w S l xs → (∀ j u, xs[j]? = some u → w.cell? ⟨g, off + j, none⟩ = some u) →
    ∀ k x, l[k]? = some x → ∃ ka cap, (∀ j u, (stepCells x ka cap)[j]? = some u → w.cell? ⟨g, off + k * 9 + j, none⟩ = some u) ∧ foLen x.sub.kids ≤ cap ∧ FoAt w S x.sub.kids ka
  | [], _, _, _, _, k, x, hx => by simp at hx
  | y :: l, xs, off, h, hc, k, x, hx => by
    obtain ⟨ka, cap, ys, e, hp, hl, hr⟩ := h
    subst e
    cases k with
    | zero =>
      simp only [List.getElem?_cons_zero, Option.some.injEq] at hx
      subst hx
      refine ⟨ka, cap, fun j u hj => ?_, hp, hl⟩
      rw [Nat.zero_mul, Nat.add_zero]
      exact hc j u (by rw [List.getElem?_append_left (List.getElem?_eq_some_iff.1 hj).1]; exact hj)
    | succ k =>
      have hlen : (stepCells y ka cap).length = 9 := rfl
      obtain ⟨ka', cap', h1, h2⟩ := StRow.lies (off + 9) hr (fun j u hj => by
        have := hc (j + 9) u (by rw [List.getElem?_append_right (by omega), hlen]; simpa using hj)
        rw [show off + 9 + j = off + (j + 9) by omega]; exact this) k x (by simpa using hx)
      refine ⟨ka', cap', fun j u hj => ?_, h2⟩
      rw [show off + (k + 1) * 9 + j = off + 9 + k * 9 + j by omega]
      exact h1 j u hj
theorem StRow.at {w : World} {S : Nat → Prop} {g : Nat} {l : List Stp} {xs : List Value} (h : StRow w S l xs) (hg : S g) (hc : ∀ j u, xs[j]? = some u → w.cell? ⟨g, j, none⟩ = some u) : StepsAt w S (some ⟨g, 0, none⟩) l := fun _ =>
  ⟨g, 0, rfl, hg, fun k x hx => by
    obtain ⟨ka, cap, h1, h2⟩ := StRow.lies 0 h (fun j u hj => by rw [Nat.zero_add]; exact hc j u hj) k x hx
    exact ⟨ka, cap, h1 0 _ rfl, h1 1 _ rfl, h1 2 _ rfl, h1 3 _ rfl, h1 4 _ rfl, h1 5 _ rfl, h1 6 _ rfl, h1 7 _ rfl, h1 8 _ rfl, h2⟩⟩

/-- One step; no number goes along. -/
def oneS (d : List UInt8) : Nat → Nat → Got (Stp × Nat) := fun m q => match pStep d q with
  | .error e => .error e
  | .ok (x, q') => .ok ((x, m), q')
def oneErr {α : Type} : Got (α × Nat) → Got α
  | .error e => .error e
  | .ok ((l, _), q) => .ok (l, q)
def pSteps (d : List UInt8) (p : Nat) : Got (List Stp) := match pCount d 57 60 p with
  | .error e => .error e
  | .ok (n, q) => oneErr (pList (oneS d) n 0 q)
structure LSInv (w : World) (b : Nat) (dv : Value) (s : Rd) (rv : Value) (k : Nat) (xs : List Value) (l : List Stp) (qk : Nat) (wr : World) : Prop where
  rd : RdAt wr b dv { s with pos := qk }
  low : b < w.heap.size ∧ ∀ g, dv.ownBlock = some g → g < w.heap.size
  tch : Touched w wr (fun k => k = b)
  row : wr.ownsRow w.heap.size 54 9 rv k xs
  fo : StRow wr (MidN w wr rv) l xs
  len : l.length = k
theorem LSInv.next {w wr w2 w3 : World} {b : Nat} {dv : Value} {s : Rd} {rv : Value} {k : Nat} {xs : List Value} {l : List Stp} {qk q2 gg cap' : Nat} {x : Stp} {ka : Option Addr} {kcap : Nat} {o : Obj} (h : LSInv w b dv s rv k xs l qk wr)
    (hcp : foLen x.sub.kids ≤ kcap) (hk : FoAt w2 (Fresh wr w2) x.sub.kids ka) (hst : RdAt w2 b dv { s with pos := q2 }) (ht : Touched wr w2 (fun k => k = b))
    (hrow : w3.ownsRow w.heap.size 54 9 (.slice (some ⟨gg, 0, none⟩) (k + 1) cap') (k + 1) (xs ++ stepCells x ka kcap)) (hg : (w2.alloc o).grownBy w3 rv.ownBlock) (hat : rv.ownBlock = some gg ∨ gg = w2.heap.size + 1) :
    LSInv w b dv s (.slice (some ⟨gg, 0, none⟩) (k + 1) cap') (k + 1) (xs ++ stepCells x ka kcap) (l ++ [x]) q2 w3 := by
  have hrv : ∀ g, rv.ownBlock = some g → w.heap.size ≤ g ∧ g < wr.heap.size := fun g hg => owns_bounds h.row hg
  have hb := h.low.1
  have hs1 := h.tch.size
  have hs2 := ht.size
  have hs3 := hg.size
  rw [World.size_alloc] at hs3
  have t3 : Touched w2 w3 (fun x => rv.ownBlock = some x) := ((Touched.refl w2 _).alloc o).trans (S' := fun x => rv.ownBlock = some x) ⟨hg.os, hg.tape, hg.output, hg.size, fun x hx hn => hg.block x hx (fun e => hn e.symm)⟩ (fun x hx => Or.inl hx)
  have tch3 : Touched w w3 (fun k => k = b) := (h.tch.trans ht (fun x hx => Or.inl hx)).trans t3 (fun x hx => Or.inr (hrv x hx).1)
  refine ⟨hst.kept t3 (fun e => by have := hrv _ e; omega) (fun g hg' e => by have := hrv _ e; have := h.low.2 g hg'; omega), h.low, tch3, hrow, ?_, by simp [h.len]⟩
  have f1 : StRow w3 (MidN w w3 (.slice (some ⟨gg, 0, none⟩) (k + 1) cap')) l xs := h.fo.kept fun x hx => by
    have hx3 : rv.ownBlock ≠ some x := hx.2.2
    have hxw := hx.1
    have hxr := hx.2.1
    refine ⟨⟨hx.1, by omega, fun e => ?_⟩, ?_⟩
    · simp only [Value.ownBlock, Option.some.injEq] at e
      rcases hat with h' | h'
      · exact hx3 (by rw [h', e])
      · omega
    · rw [t3.block x (by omega) hx3, ht.block x hxr (by omega)]
  have f2 : FoAt w3 (MidN w w3 (.slice (some ⟨gg, 0, none⟩) (k + 1) cap')) x.sub.kids ka := hk.kept fun x hx => by
    have hx1 := hx.1
    have hx2 := hx.2
    have hne : rv.ownBlock ≠ some x := fun e => by have := hrv x e; omega
    refine ⟨⟨by omega, by omega, fun e => ?_⟩, t3.block x hx2 hne⟩
    simp only [Value.ownBlock, Option.some.injEq] at e
    rcases hat with h' | h'
    · exact hne (by rw [h', e])
    · omega
  exact StRow.snoc f2 kcap hcp f1

def StepsV (w : World) : List Stp → Value → World → Prop := fun l v w' => ∃ a n cap, v = .slice a n cap ∧ n = l.length ∧ n ≤ cap ∧ StepsAt w' (Fresh w w') a l

set_option maxRecDepth 100000 in
set_option maxHeartbeats 2000000 in
theorem listS_any (w : World) (b : Nat) (dv : Value) (s : Rd) (h : RdAt w b dv s) (n : Nat) (hn2 : n ≤ 1000000) :
    Calls Try.prog 69 #[.int .i64 (n : Int), .func (.func 70) #[.pointer (some ⟨b, 0, none⟩)] #[]] w (OutC (StepsV w) w b dv s (oneErr (pList (oneS s.data) n 0 s.pos))) := by
  obtain ⟨out, hout⟩ : ∃ out, out = oneErr (pList (oneS s.data) n 0 s.pos) := ⟨_, rfl⟩
  rw [← hout]
  have HO := Lib.hid hout
  have H0 : Hid (LSInv w b dv s (.slice none 0 0) 0 [] [] s.pos w) := Lib.hid ⟨h, ⟨lt_of_heap h.here, owns_lt h.owns⟩, Touched.refl _ _, World.ownsRow_nil _ _ _ _, rfl, rfl⟩
  obtain ⟨i0, z0, hi0, hz0, hz1, hz2, hz3⟩ := info_wide Try.infoSt
  have HI := Lib.hid (And.intro hi0 (And.intro hz0 (And.intro hz1 (And.intro hz2 hz3))))
  clear h hout hi0 hz0 hz1 hz2 hz3
  go_enter Try.func69, Try.ntmps69
  go_wp2_with fail
  go_loopg [5, 7] n (fun gk rv i wr => ∃ (k : Nat) (xs : List Value) (l : List Stp) (qk : Nat), k + gk = n ∧ i = .int .i64 (k : Int) ∧ Hid (LSInv w b dv s rv k xs l qk wr ∧ pList (oneS s.data) k 0 s.pos = .ok ((l, 0), qk)))
  case atStart => exact ⟨0, [], [], s.pos, by omega, rfl, Lib.hid ⟨H0.out, rfl⟩⟩
  case round =>
    obtain ⟨k, xs, l, qk, hkn, rfl, HL⟩ := hrel
    obtain ⟨ra, rc, hrv⟩ := owns_slice HL.out.1.row
    subst hrv
    by_cases hlt : k < n
    · have hkl : (k : Int) < (n : Int) := by omega
      have hsub := step_any wr b dv { s with pos := qk } HL.out.1.rd
      cases hp : pStep s.data qk with
      | error p =>
        have hsub2 : Calls Try.prog 70 #[.pointer (some ⟨b, 0, none⟩)] wr (OutC (StpV wr) wr b dv { s with pos := qk } (.error p)) := by rw [← hp]; exact hsub
        have HS := Lib.hid hsub2
        have ho : out = .error p := by rw [HO.out, pList_err HL.out.2 (show oneS s.data 0 qk = .error p by simp only [oneS, hp]) n hlt]; rfl
        subst ho
        clear hsub hsub2 hp HO
        go_wp2_with (go_at_call 70; refine HS.out.mono ?_; rintro e w1 ⟨rfl, h1, h2⟩)
        exact ⟨rfl, rfl, h1, HL.out.1.tch.trans h2 (fun x hx => Or.inl hx)⟩
      | ok y =>
        obtain ⟨x, q2⟩ := y
        have hsub2 : Calls Try.prog 70 #[.pointer (some ⟨b, 0, none⟩)] wr (OutC (StpV wr) wr b dv { s with pos := qk } (.ok (x, q2))) := by rw [← hp]; exact hsub
        have HS := Lib.hid hsub2
        have hnx : pList (oneS s.data) (k + 1) 0 s.pos = .ok ((l ++ [x], 0), q2) := by simp only [pList, HL.out.2, oneS, hp]
        have HX := Lib.hid hnx
        clear hsub hsub2 hp hnx
        go_wp2_with (first
          | (go_at_call 70; refine HS.out.mono ?_; clear HS; rintro e w2 ⟨v, rfl, ⟨ka, kcap, rfl, hcp, hk⟩, h1, h2⟩; obtain ⟨ln, hln⟩ : ∃ ln, ln = foLen x.sub.kids := ⟨_, rfl⟩; rw [← hln]; have hrow2 := owns_keep HL.out.1.row (fun g hg => h2.block g (owns_lt HL.out.1.row g hg) (fun e => by have h3 := (owns_bounds HL.out.1.row hg).1; have h4 := HL.out.1.low.1; omega)); have hsz := HL.out.1.tch.size; have H2 := Lib.hid (And.intro hcp (And.intro hk (And.intro h1 (And.intro h2 (And.intro hln (And.intro hrow2 (Nat.le_trans hsz h2.size))))))); clear hcp hk h1 h2 hln hrow2 hsz)
          | (at_builtin; refine wpList_append_lies _ rfl (.tmp 9) (.tmp 12) _ rfl w.heap.size 54 i0 z0 9 104 Try.underlying26 HI.out.1 HI.out.2.1 HI.out.2.2.1 HI.out.2.2.2.1 HI.out.2.2.2.2 (by omega) (.slice ra k rc) k xs rfl (H2.out.2.2.2.2.2.1.alloc _) ⟨w2.heap.size, 0, none⟩ 1 1 [.int .i8 x.op, .int .i64 x.id, .int .i64 x.parent, .int .i64 x.place, .string x.text, .int .i64 x.sub.id, .int .i64 x.sub.kind, .string x.sub.text, .slice ka ln kcap] rfl rfl (World.news_of_block (cs := #[.int .i8 x.op, .int .i64 x.id, .int .i64 x.parent, .int .i64 x.place, .string x.text, .int .i64 x.sub.id, .int .i64 x.sub.kind, .string x.sub.text, .slice ka ln kcap]) (t := 54) (fr := (0, 0)) (heap_alloc_new w2 _)) (by simp [Value.oneCell']) (by omega) (by unfold maxLen; omega) (by omega) (by have := H2.out.2.2.2.2.2.2; simp; omega) (w2.heap.size + 1) (by simp) ?_; intro gg cap' w3 hown3 hgrow hat hlt3; have H3 := Lib.hid (And.intro hown3 (And.intro hgrow hat)); clear hown3 hgrow hat hlt3))
        have h5 := H2.out.2.2.2.2.1
        have h6 := H3.out.1
        have h7 := H3.out.2.1
        rw [h5] at h6
        have h8 := LSInv.next HL.out.1 H2.out.1 H2.out.2.1 H2.out.2.2.1 H2.out.2.2.2.1 h6 h7 H3.out.2.2
        go_roundg (gk - 1)
        case measure => omega
        case rel => exact ⟨k + 1, _, l ++ [x], q2, by omega, by go_num, Lib.hid ⟨h8, HX.out⟩⟩
    · have hkk : k = n := by omega
      have HKK := Lib.hid hkk
      have hkl : ¬ (k : Int) < (n : Int) := by omega
      have ho : out = .ok (l, qk) := by rw [HO.out, ← hkk, HL.out.2]; rfl
      subst ho
      clear hkk HO
      go_wp2_with fail
      go_ret
      have hrow := HL.out.1.row
      refine ⟨_, rfl, ⟨ra, k, rc, rfl, HL.out.1.len.symm, ?_, ?_⟩, HL.out.1.rd, HL.out.1.tch⟩
      · rcases hrow.2 with ⟨h1, h2⟩ | ⟨g', cap', cur, hv, _, hh, h3, _⟩
        · omega
        · cases hv; exact h3
      · rcases hrow.2 with ⟨h1, h2⟩ | ⟨g', cap', cur, hv, hB, hh, _⟩
        · have h3 : l = [] := List.eq_nil_of_length_eq_zero (by have := HL.out.1.len; omega)
          subst h3
          exact fun h0 => by simp at h0
        · cases hv
          exact (HL.out.1.fo.kept (S' := Fresh w wr) fun x hx => ⟨⟨hx.1, hx.2.1⟩, rfl⟩).at ⟨hB, lt_of_heap hh⟩ (fun j u hu => owns_cell hrow rfl j u hu)

set_option maxHeartbeats 1000000 in
theorem steps_any (w : World) (b : Nat) (dv : Value) (s : Rd) (h : RdAt w b dv s) : Calls Try.prog 53 #[.pointer (some ⟨b, 0, none⟩)] w (OutC (StepsV w) w b dv s (pSteps s.data s.pos)) := by
  have hmf : ∀ (fn : Fn) (first cap : Array Value) (w : World), (Instr.makeFunc fn first cap).run Try.prog w = .ok (.func fn first cap) w := fun _ _ _ _ => rfl
  have hn := count_any w b dv s h 57 60 (by omega) (by omega)
  unfold pSteps
  cases hp : pCount s.data 57 60 s.pos with
  | error p =>
    rw [hp] at hn
    have HN := Lib.hid hn
    clear hn h hp
    go_enter Try.func53, Try.ntmps53
    go_wp2_with (go_at_call 57; refine HN.out.mono ?_; clear HN; rintro e w1 ⟨rfl, h1, h2⟩)
    exact ⟨rfl, rfl, h1, h2⟩
  | ok nq =>
    obtain ⟨n, q⟩ := nq
    have hn60 := (pCount_ok hp).2.2.1
    rw [hp] at hn
    have HN := Lib.hid hn
    have HT : Hid (∀ w1, RdAt w1 b dv { s with pos := q } → Calls Try.prog 69 #[.int .i64 (n : Int), .func (.func 70) #[.pointer (some ⟨b, 0, none⟩)] #[]] w1 (OutC (StepsV w1) w1 b dv { s with pos := q } (oneErr (pList (oneS s.data) n 0 q)))) := Lib.hid fun w1 h1 => listS_any w1 b dv { s with pos := q } h1 n (by omega)
    show Calls _ _ _ _ (OutC (StepsV w) w b dv s (oneErr (pList (oneS s.data) n 0 q)))
    cases hpl : pList (oneS s.data) n 0 q with
    | error p =>
      rw [hpl] at HT
      clear hn h hp hn60 hpl
      go_enter Try.func53, Try.ntmps53
      go_wp2_with (first
        | (go_at_call 57; refine HN.out.mono ?_; clear HN; rintro e w1 ⟨v, rfl, rfl, h1, h2⟩; have H1 := Lib.hid (And.intro h1 h2); clear h1 h2)
        | (go_at_call 69; refine (HT.out _ H1.out.1).mono ?_; clear HT; rintro e w2 ⟨rfl, h1, h2⟩))
      exact ⟨rfl, rfl, h1, H1.out.2.trans h2 (fun k hk => Or.inl hk)⟩
    | ok y =>
      obtain ⟨⟨l, m⟩, q'⟩ := y
      rw [hpl] at HT
      clear hn h hp hn60 hpl
      go_enter Try.func53, Try.ntmps53
      go_wp2_with (first
        | (go_at_call 57; refine HN.out.mono ?_; clear HN; rintro e w1 ⟨v, rfl, rfl, h1, h2⟩; have H1 := Lib.hid (And.intro h1 h2); clear h1 h2)
        | (go_at_call 69; refine (HT.out _ H1.out.1).mono ?_; clear HT; rintro e w2 ⟨v, rfl, ⟨a, k, cap, rfl, hk1, hk2, hk3⟩, h1, h2⟩; have H2 := Lib.hid (And.intro (And.intro hk1 (And.intro hk2 hk3)) (And.intro h1 h2)); clear hk1 hk2 hk3 h1 h2))
      go_ret
      have hs := H1.out.2.size
      exact ⟨_, rfl, ⟨a, k, cap, rfl, H2.out.1.1, H2.out.1.2.1, H2.out.1.2.2.kept fun x hx => ⟨⟨Nat.le_trans hs hx.1, hx.2⟩, rfl⟩⟩, H2.out.2.1, H1.out.2.trans H2.out.2.2 (fun k hk => Or.inl hk)⟩
end Go.Proofs.Ytljlijdgocfofaa
