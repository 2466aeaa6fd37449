/-
  .
-/
import Derived.Test.YtonapijgfalpaaaRSameQw
import Derived.OwnWalk
import Derived.Test.YtonapijgfalpaaaECopyQw
import Derived.Deep.AppendLies
import Derived.Test.YtonapijgfalpaaaERevQw
import Derived.RangeFuncNested
import Derived.RangeFuncBound
import Derived.RangeFuncCalls
import Derived.RangeFuncLeaves
import Derived.RangeFuncWrites
import Derived.Shelf.RegionOpen
import Derived.OwnWalkIn
import Derived.TacticsInMore
import Derived.LoopNIn
import Derived.LoopIn
import Derived.OrdersIn
set_option linter.unusedVariables false
set_option linter.unusedSimpArgs false
namespace Go.Proofs.Ytonapijgfalpaaa
open Go.RowKit
theorem spF_snoc (d : Nat) : ∀ (f : Fo) (b o : Nat) (k : Int × Int × ByteArray) (l : Fo), spF d (foSnoc f b o k l) = spF d f ++ ((d, k, l) :: spF (d + 1) l)
 | .nil, _, _, _, _ => by simp [foSnoc, spF]
 | .node _ _ _ l' r, b, o, k, l => by simp [foSnoc, spF, spF_snoc d r b o k l, List.append_assoc]
def spT (d : Nat) (t : Tr) : List Sp := (d, (t.id, t.kind, t.text), t.kids) :: spF (d + 1) t.kids
theorem spT_root (t : Tr) : spT 1 t = spF 1 (rootF t) := by simp [spT, rootF, spF]
def SpotAt (w : World) (S : Nat → Prop) (xs : List Value) (i : Nat) (x : Sp) : Prop :=
 xs[i * 5]? = some (.int .i64 x.2.1.1) ∧ xs[i * 5 + 1]? = some (.int .i64 x.2.1.2.1) ∧ xs[i * 5 + 2]? = some (.string x.2.1.2.2) ∧ (∃ ka cap, xs[i * 5 + 3]? = some (.slice ka (foLen x.2.2) cap) ∧ foLen x.2.2 ≤ cap ∧ FoAt w S x.2.2 ka) ∧ xs[i * 5 + 4]? = some (.int .i64 (x.1 : Int))
def SpotsN (S : Nat → Prop) (w : World) (B : Nat) (rv : Value) (n : Nat) (T : List Sp) : Prop := T.length = n ∧ ∃ xs, w.ownsRow B 51 5 rv n xs ∧ ∀ i x, T[i]? = some x → SpotAt w S xs i x
theorem SpotAt.kept {w w' : World} {S : Nat → Prop} {xs : List Value} {i : Nat} {x : Sp} (h : SpotAt w S xs i x) (hk : ∀ k, S k → w'.heap[k]? = w.heap[k]?) : SpotAt w' S xs i x := by
 obtain ⟨a, b, c, ⟨ka, cap, e, f, g⟩, z⟩ := h
 exact ⟨a, b, c, ⟨ka, cap, e, f, g.kept fun k hs => ⟨hs, hk k hs⟩⟩, z⟩
theorem SpotsN.bounds {S : Nat → Prop} {w : World} {B : Nat} {rv : Value} {n : Nat} {T : List Sp} (h : SpotsN S w B rv n T) {g : Nat} (hg : rv.ownBlock = some g) : B ≤ g ∧ g < w.heap.size := by
 obtain ⟨_, xs, ho, _⟩ := h
 exact owns_bounds ho hg
theorem Grew.lowN {S : Nat → Prop} {w wr : World} {B n : Nat} {rv l : Value} {T : List Sp} (h : Grew w wr rv l) (hs : SpotsN S w B rv n T) (hB : B ≤ w.heap.size) : ∀ k, k < B → wr.heap[k]? = w.heap[k]? := fun k hk =>
 h.1.block k (by omega) (fun e => by have := (hs.bounds e.symm).1; omega)
theorem spotsN_snoc {w w' : World} {S : Nat → Prop} {xs : List Value} {n : Nat} {T : List Sp} {x : Sp} {ka : Option Addr} {cap : Nat} (hl : xs.length = n * 5) (hT : T.length = n) (hx : ∀ i y, T[i]? = some y → SpotAt w S xs i y) (hk : ∀ k, S k → w'.heap[k]? = w.heap[k]?) (hc : foLen x.2.2 ≤ cap) (hf : FoAt w' S x.2.2 ka) :
 ∀ i y, (T ++ [x])[i]? = some y → SpotAt w' S (xs ++ [.int .i64 x.2.1.1, .int .i64 x.2.1.2.1, .string x.2.1.2.2, .slice ka (foLen x.2.2) cap, .int .i64 (x.1 : Int)]) i y := fun i y hi => by
 by_cases h : i < n
 · rw [List.getElem?_append_left (by omega)] at hi
   obtain ⟨a, b, c, ⟨kb, cb, e, f, g⟩, z⟩ := (hx i y hi).kept hk
   exact ⟨by rw [List.getElem?_append_left (by omega)]; exact a, by rw [List.getElem?_append_left (by omega)]; exact b, by rw [List.getElem?_append_left (by omega)]; exact c, ⟨kb, cb, by rw [List.getElem?_append_left (by omega)]; exact e, f, g⟩, by rw [List.getElem?_append_left (by omega)]; exact z⟩
 · have hil := (List.getElem?_eq_some_iff.1 hi).1
   have : i = n := by simp at hil; omega
   subst this
   rw [List.getElem?_append_right (by omega), hT, Nat.sub_self] at hi
   simp at hi
   subst hi
   refine ⟨?_, ?_, ?_, ⟨ka, cap, ?_, hc, hf⟩, ?_⟩ <;> (rw [List.getElem?_append_right (by omega), hl]; simp)
theorem Try.infoInt : (Try.prog.info? 3).map (fun i => (i.zero, i.size, i.bytes)) = some (some (.int .i64 0), 1, 8) := by kernel_rfl
def intV (n : Int) : Value := .int .i64 n
theorem info_wideV {P : Program} {e : TypeId} {size bytes : Nat} (h : (P.info? e).map (fun i => (i.size, i.bytes, i.zero.map (fun z => z.cells.size))) = some (size, bytes, some size)) :
 ∃ i z, P.info? e = some i ∧ i.zero = some z ∧ i.size = size ∧ i.bytes = bytes ∧ z.cells.size = size := by
 rw [Option.map_eq_some_iff] at h
 obtain ⟨i, hi, he⟩ := h
 simp only [Prod.mk.injEq, Option.map_eq_some_iff] at he
 obtain ⟨h1, h2, z, hz, h3⟩ := he
 exact ⟨i, z, hi, hz, h1, h2, h3⟩
theorem takeM_more {α : Type} (M : Nat) (A B : List α) : ((A.take M) ++ B).take M = (A ++ B).take M := by
 rw [List.take_append, List.take_append, List.take_take, Nat.min_self, List.length_take]
 congr 2
 omega
theorem spF_mem_size : ∀ (d : Nat) (f : Fo) (x : Sp), x ∈ spF d f → foSize x.2.2 + 1 ≤ foSize f ∧ d ≤ x.1 ∧ x.1 + foSize x.2.2 < d + foSize f
 | _, .nil, x, h => by simp [spF] at h
 | d, .node _ _ k l r, x, h => by
   simp only [spF, List.mem_cons, List.mem_append] at h
   simp only [foSize]
   rcases h with rfl | h | h
   · simp only; omega
   · have := spF_mem_size (d + 1) l x h; omega
   · have := spF_mem_size d r x h; omega
def trOf (x : Sp) : Tr := ⟨x.2.1.1, x.2.1.2.1, x.2.1.2.2, x.2.2⟩
end Go.Proofs.Ytonapijgfalpaaa
namespace Go.Proofs.Ytonapijgfalpaaa
open Go.RowKit Go.Shelf
attribute [local go_sem] Oper.semAt_some
theorem YieldAt.anyDepthV {m : Nat} (m' : Nat) {P : Program} {l : Nat} {args : Array Value} {W : World} {R : Ending → World → Prop} (h : YieldAt Fence.wide m P l args W R) : YieldAt Fence.wide m' P l args W R := by
 obtain ⟨fn, tmps, assign, body, hy, hr⟩ := h
 exact ⟨fn, tmps, assign, body, hy, hr.1, fun c cs _ => hr.2 c cs (room_wide _)⟩
structure PBody (P : Program) (m l n₀ : Nat) (S : Nat → Prop) (tot : List Sp) (J : List Sp → World → Prop) (Jx : World → Prop) : Prop where
 turn : ∀ {pre : List Sp} {V V' : World}, J pre V → Below n₀ V V' → J pre V'
 turnx : ∀ {V V' : World}, Jx V → Below n₀ V V' → Jx V'
 yield : ∀ {pre rest : List Sp} {d : Nat} {key : Int × Int × ByteArray} {k : Fo} {V : World} {b off kc : Nat} {ka : Option Addr}, tot = pre ++ (d, key, k) :: rest → J pre V → n₀ ≤ V.heap.size → S b →
  V.cell? ⟨b, off, none⟩ = some (.int .i64 key.1) → V.cell? ⟨b, off + 1, none⟩ = some (.int .i64 key.2.1) → V.cell? ⟨b, off + 2, none⟩ = some (.string key.2.2) → V.cell? ⟨b, off + 3, none⟩ = some (.slice ka (foLen k) kc) → foLen k ≤ kc → FoAt V S k ka →
  YieldAt Fence.wide m P l #[.int .i64 (d : Int), .pointer (some ⟨b, off, none⟩)] V fun e V' => (V.heap.size ≤ V'.heap.size ∧ (∀ y, S y → V'.heap[y]? = V.heap[y]?)) ∧ ((e = .returned (.bool true) ∧ J (pre ++ [(d, key, k)]) V') ∨ (e = .returned (.bool false) ∧ Jx V'))
def BelowC (S : Nat → Prop) (J : List Sp → World → Prop) (Jx : World → Prop) (pre L : List Sp) (w : World) (e : Ending) (w' : World) : Prop :=
 ∃ bl, e = .returned (.bool bl) ∧ w.heap.size ≤ w'.heap.size ∧ (∀ y, S y → w'.heap[y]? = w.heap[y]?) ∧ (bl = true → J (pre ++ L) w') ∧ (bl = false → Jx w')
theorem spF_split : ∀ (j d : Nat) (f : Fo), spF d f = spF d (foTake j f) ++ spF d (foDrop j f)
 | 0, _, f => by cases f <;> simp [foTake, foDrop, spF]
 | _ + 1, _, .nil => by simp [foTake, foDrop, spF]
 | j + 1, d, .node _ _ k l r => by simp only [foTake, foDrop, spF, List.cons_append, List.append_assoc]; rw [spF_split j d r]
def BelowR (S : Nat → Prop) (J : List Sp → World → Prop) (w : World) (d : Nat) (key : Int × Int × ByteArray) (k : Fo) (pre : List Sp) (j : Nat) (wr : World) : Prop :=
 J (pre ++ (d, key, k) :: spF (d + 1) (foTake j k)) wr ∧ w.heap.size ≤ wr.heap.size ∧ ∀ y, S y → wr.heap[y]? = w.heap[y]?
set_option maxRecDepth 100000 in
set_option maxHeartbeats 4000000 in
theorem below_any {m l n₀ : Nat} {S : Nat → Prop} {tot : List Sp} {J : List Sp → World → Prop} {Jx : World → Prop} (hB : PBody Try.prog m l n₀ S tot J Jx) : ∀ (q d : Nat) (key : Int × Int × ByteArray) (k : Fo) (pre rest : List Sp) (w : World) (b off kc : Nat) (ka : Option Addr), foSize k < q → q ≤ 1000000 → d + q ≤ 2000000 → tot = pre ++ ((d, key, k) :: (spF (d + 1) k ++ rest)) → J pre w → n₀ ≤ w.heap.size → S b →
 w.cell? ⟨b, off, none⟩ = some (.int .i64 key.1) → w.cell? ⟨b, off + 1, none⟩ = some (.int .i64 key.2.1) → w.cell? ⟨b, off + 2, none⟩ = some (.string key.2.2) → w.cell? ⟨b, off + 3, none⟩ = some (.slice ka (foLen k) kc) → foLen k ≤ kc → FoAt w S k ka →
 Calls Try.prog 178 #[.pointer (some ⟨b, off, none⟩), .int .i64 (d : Int), .func (.yield l) #[] #[]] w (BelowC S J Jx pre ((d, key, k) :: spF (d + 1) k) w) := by
 intro q
 induction q with
 | zero => intro d key k pre rest w b off kc ka h; omega
 | succ q ih =>
   intro d key k pre rest w b off kc ka hq hq6 hdq htot hJ hn0 hSb c0 c1 c2 c3 hcp hk
   obtain ⟨fn, tmps, assign, body, hy, hR⟩ := YieldAt.anyDepthV 5 (hB.yield htot hJ hn0 hSb c0 c1 c2 c3 hcp hk)
   obtain ⟨n, hn⟩ : ∃ n, n = foLen k := ⟨_, rfl⟩
   have hn6 : n ≤ 1000000 := by have := foLen_le k; omega
   have hd6 : (d : Int) ≤ 2000000 := by omega
   have hd0 : (0 : Int) ≤ (d : Int) := by omega
   rw [← hn] at c3 hcp
   have H := Lib.hid (And.intro hq (And.intro hq6 (And.intro hdq (And.intro htot (And.intro hn0 (And.intro hSb (And.intro c3 (And.intro hcp (And.intro hk hn)))))))))
   have HR := Lib.hid hR
   have HIH := Lib.hid ih
   clear hq hq6 hdq htot hJ hn0 hSb c0 c1 c2 c3 hcp hk hn hR ih
   refine (callsIn_wide (n := 6)).1 ?_
   refine callsIn_of_wp Try.func178 rfl trivial ?_ rfl
   simp only [Try.ntmps178, List.size_toArray, List.length_cons, List.length_nil, Nat.reduceAdd, Nat.reduceSub, Array.replicate_succ, Array.replicate_zero, List.push_toArray, List.append_toArray, List.nil_append, List.cons_append]
   gi_wp2
   refine HR.out.mono ?_
   clear HR hy
   rintro e w1 ⟨⟨hs1, hS1⟩, (⟨rfl, hJ1⟩ | ⟨rfl, hx1⟩)⟩
   · have p3 : w1.cell? ⟨b, off + 3, none⟩ = some (.slice ka n kc) := (World.cell?_of_block (a := ⟨b, off + 3, none⟩) (hS1 b H.out.2.2.2.2.2.1)).trans H.out.2.2.2.2.2.2.1
     have HS := Lib.hid (show BelowR S J w d key k pre 0 w1 from ⟨by simpa [foTake, spF] using hJ1, hs1, hS1⟩)
     clear hJ1 hs1 hS1
     gi_wp2
     gi_loopw [7, 18] (fun _ i wr => ∃ j : Nat, j ≤ n ∧ i = .int .i64 (j : Int) ∧ Hid (BelowR S J w d key k pre j wr)) (fun _ i _ => n - (intOf i).toNat)
     case atStart => exact ⟨0, Nat.zero_le _, rfl, HS⟩
     case round =>
      obtain ⟨j, hj, rfl, hh⟩ := hrel
      have p3r : wr.cell? ⟨b, off + 3, none⟩ = some (.slice ka n kc) := (World.cell?_of_block (a := ⟨b, off + 3, none⟩) (hh.out.2.2 b H.out.2.2.2.2.2.1)).trans H.out.2.2.2.2.2.2.1
      by_cases hlt : j < n
      · have hk1 : FoAt wr S k ka := H.out.2.2.2.2.2.2.2.2.1.kept fun x hx => ⟨hx, hh.out.2.2 x hx⟩
        obtain ⟨b0, o0, kkey, l', r, hd1', b', off', a1, n1, rfl, hSb', e0, e1, e2, e3, hc1, hl1⟩ := hk1.at j (by have := H.out.2.2.2.2.2.2.2.2.2; omega)
        obtain ⟨_, _, _, _, _, f1, f2, hsz1, htk⟩ := foDrop_node j k (by have := H.out.2.2.2.2.2.2.2.2.2; omega)
        rw [hd1'] at f1; cases f1
        have htot2 : tot = (pre ++ (d, key, k) :: spF (d + 1) (foTake j k)) ++ ((d + 1, kkey, l') :: (spF (d + 1 + 1) l' ++ (spF (d + 1) r ++ rest))) := by
         rw [H.out.2.2.2.1, spF_split j (d + 1) k, hd1']
         simp [spF, List.append_assoc]
        have hcall := HIH.out (d + 1) kkey l' (pre ++ (d, key, k) :: spF (d + 1) (foTake j k)) (spF (d + 1) r ++ rest) wr b' (off' + j * 4) n1 a1 (by have := H.out.1; omega) (by have := H.out.2.1; omega) (by have := H.out.2.2.1; omega) htot2 hh.out.1 (Nat.le_trans H.out.2.2.2.2.1 hh.out.2.1) hSb' e0 e1 e2 e3 hc1 hl1
        have hcast : (((d + 1 : Nat)) : Int) = (d : Int) + 1 := by omega
        rw [hcast] at hcall
        have hnx : (pre ++ (d, key, k) :: spF (d + 1) (foTake j k)) ++ ((d + 1, kkey, l') :: spF (d + 1 + 1) l') = pre ++ (d, key, k) :: spF (d + 1) (foTake (j + 1) k) := by rw [htk, spF_snoc]; simp [List.append_assoc]
        have HC := Lib.hid (And.intro hcall hnx)
        have hji : (j : Int) < (n : Int) := by omega
        clear hk1 hd1' f2 hsz1 htk htot2 hcall hcast hnx e0 e1 e2 e3 hc1 hl1 hSb'
        have hlt5 : (j : Int) + 1 ≤ 1000001 := by omega
        have HLT := Lib.hid hlt
        clear hlt
        gi_wp2_with (refine ⟨trivial, ?_⟩; gi_at_call 178; refine (callsIn_wide.2 HC.out.1).mono ?_; rintro e w2 ⟨bl, rfl, hs2, hS2, hJ2, hx2⟩; have HE := Lib.hid (And.intro hs2 (And.intro hS2 (And.intro hJ2 hx2))); clear hs2 hS2 hJ2 hx2; cases bl)
        · go_ret
          exact ⟨false, rfl, Nat.le_trans hh.out.2.1 HE.out.1, fun y hy => (HE.out.2.1 y hy).trans (hh.out.2.2 y hy), (fun e => by cases e), fun _ => HE.out.2.2.2 (by first | rfl | trivial)⟩
        · refine ⟨⟨j + 1, by have := HLT.out; omega, by go_num, Lib.hid ⟨?_, Nat.le_trans hh.out.2.1 HE.out.1, fun y hy => (HE.out.2.1 y hy).trans (hh.out.2.2 y hy)⟩⟩, by have := HLT.out; simp [intOf]; omega⟩
          have h := HE.out.2.2.1 (by first | rfl | trivial)
          rw [HC.out.2] at h
          exact h
      · have hjn : ¬ (j : Int) < (n : Int) := by omega
        have HJN := Lib.hid (show j = n by omega)
        clear hlt
        gi_wp2
        go_ret
        refine ⟨true, rfl, hh.out.2.1, hh.out.2.2, fun _ => ?_, fun e => by cases e⟩
        have h := hh.out.1
        rw [foTake_all j k (by rw [HJN.out, H.out.2.2.2.2.2.2.2.2.2]; exact Nat.le_refl _)] at h
        exact h
   · have HE := Lib.hid (And.intro hs1 (And.intro hS1 hx1))
     clear hs1 hS1 hx1
     gi_wp2
     go_ret
     exact ⟨false, rfl, HE.out.1, HE.out.2.1, (fun e => by cases e), fun _ => HE.out.2.2⟩
end Go.Proofs.Ytonapijgfalpaaa
namespace Go.Proofs.Ytonapijgfalpaaa
open Go.RowKit Go.Shelf
attribute [local go_sem] Oper.semAt_some
def NodeAtV (w : World) (S : Nat → Prop) (t : Tr) (TB : Nat) : Prop := ∃ ka kc, S TB ∧ w.heap[TB]? = some (.cells #[.int .i64 t.id, .int .i64 t.kind, .string t.text, .slice ka (foLen t.kids) kc] 24 (0, 0)) ∧ foLen t.kids ≤ kc ∧ FoAt w S t.kids ka
set_option maxRecDepth 100000 in
theorem walk1_anyV {m l : Nat} {SS : Nat → Prop} {t : Tr} {J : List Sp → World → Prop} {Jx : World → Prop} (w : World) (hB : PBody Try.prog m l w.heap.size SS (spF 1 (rootF t)) J Jx) (TB : Nat) (hw : NodeAtV w SS t TB) (hsz : foSize t.kids + 1 ≤ 500000) (h0 : J [] w) :
 Calls Try.prog 177 #[.func (.yield l) #[] #[], .pointer (some ⟨TB, 0, none⟩)] w fun e V => (∃ v, e = .returned v) ∧ (J (spF 1 (rootF t)) V ∨ Jx V) := by
 obtain ⟨ka, kc, hS, hb, hc, hk⟩ := hw
 have hcall := below_any hB 500001 1 (t.id, t.kind, t.text) t.kids [] [] w TB 0 kc ka (by omega) (by omega) (by omega) (by simp [rootF, spF]) h0 (Nat.le_refl _) hS (by rw [cell_of_row _ _ 0 _ _ _ hb]; rfl) (by rw [cell_of_row _ _ 1 _ _ _ hb]; rfl) (by rw [cell_of_row _ _ 2 _ _ _ hb]; rfl) (by rw [cell_of_row _ _ 3 _ _ _ hb]; rfl) hc hk
 have HC := Lib.hid hcall
 clear hcall hS hb hc hk h0 hB
 go_enter Try.func177, Try.ntmps177
 go_wp2_with fail
 refine HC.out.mono ?_
 rintro e w2 ⟨bl, rfl, _, _, hJ2, hx2⟩
 have HE := Lib.hid (And.intro hJ2 hx2)
 clear hJ2 hx2
 go_wp2_with fail
 cases bl
 · exact bodyPost_end (results_none rfl _ _ _) rfl ⟨⟨_, rfl⟩, .inr (HE.out.2 rfl)⟩
 · refine bodyPost_end (results_none rfl _ _ _) rfl ⟨⟨_, rfl⟩, .inl ?_⟩
   have h := HE.out.1 rfl
   simpa [rootF, spF] using h
def LeftP (B : Nat) (SS : Nat → Prop) (I : List Sp → World → Prop) (Ix : Code → World → Prop) (pre : List Sp) (W : World) (e : Exit) (_ : Act) (V : World) : Prop :=
 (W.heap.size ≤ V.heap.size ∧ ∀ y, (B ≤ y ∨ SS y) → y < W.heap.size → V.heap[y]? = W.heap[y]?) ∧ ((e = .normal ∧ I pre V) ∨ (e = .ret ∧ Ix .ret V) ∨ ∃ id, e = .exit id ∧ Ix (.exit id) V)
theorem range_p {n : Nat} {g : Operand} {ps : Array Tmp} {assign body : Code} {Q : Exit → Act → World → Prop} {a : Act} {w : World} (h1 : 1 ≤ n) {TB : Nat} (hg : a.eval g = .func (.func 177) #[] #[.pointer (some ⟨TB, 0, none⟩)])
 (SS : Nat → Prop) (t : Tr) (hwa : NodeAtV w SS t TB) (hSS : ∀ x, SS x → x < w.heap.size) (hsz : foSize t.kids + 1 ≤ 500000) (hps : ps.size = 2)
 (I : List Sp → World → Prop) (Ix : Code → World → Prop) (hI : ∀ {pre : List Sp} {V V' : World}, I pre V → Below w.heap.size V V' → I pre V') (hIx : ∀ {c : Code} {V V' : World}, Ix c V → Below w.heap.size V V' → Ix c V')
 (h0 : I [] w)
 (hround : ∀ (l : Nat), l = w.heap.size + 1 → ∀ (pre rest : List Sp) (d : Nat) (key : Int × Int × ByteArray) (k : Fo) (V : World) (b off kc : Nat) (ka : Option Addr), spF 1 (rootF t) = pre ++ (d, key, k) :: rest → w.heap.size + 2 ≤ V.heap.size → I pre V → SS b →
   V.cell? ⟨b, off, none⟩ = some (.int .i64 key.1) → V.cell? ⟨b, off + 1, none⟩ = some (.int .i64 key.2.1) → V.cell? ⟨b, off + 2, none⟩ = some (.string key.2.2) → V.cell? ⟨b, off + 3, none⟩ = some (.slice ka (foLen k) kc) → foLen k ≤ kc → FoAt V SS k ka →
   ∀ (K : Act → World → Prop), (∀ a₁ V0, Below V.heap.size V V0 → (∀ V', (∃ o', V' = V0.putObj l o' ∧ ∃ o, V0.heap[l]? = some o ∧ o.isCells = false) → body.wpIn (Fence.wide.inRound l) (n - 1 - 1) Try.prog (LeftP w.heap.size SS I Ix (pre ++ [(d, key, k)]) V') a₁ V') → K a₁ V0) →
    assign.wpIn (Fence.wide.inRound l) (n - 1 - 1) Try.prog (Exit.then K (fun _ _ _ => False)) { tmps := (ps.zip #[.int .i64 (d : Int), .pointer (some ⟨b, off, none⟩)]).foldl (fun t (p, v) => t.setIfInBounds p v) a.tmps, defers := [] } V)
 (hdone : ∀ (D : Nat) (V : World), w.heap.size ≤ D → I (spF 1 (rootF t)) V → V.heap[D]? = some (.deferred (some [])) → Q .normal { a with defers := { target := .collected D, args := #[] } :: a.defers } V)
 (hstop : ∀ (D : Nat) (c : Code) (V : World), w.heap.size ≤ D → Ix c V → V.heap[D]? = some (.deferred (some [])) → c.wpIn Fence.wide n Try.prog Q { a with defers := { target := .collected D, args := #[] } :: a.defers } V) :
 (Code.rangeFunc g ps assign body).wpIn Fence.wide n Try.prog Q a w := by
 obtain ⟨B, hB⟩ : ∃ B, w.heap.size = B := ⟨_, rfl⟩
 simp only [hB] at hI hIx hround hdone hstop
 refine wpIn_rangeFunc fun fn hfn => ?_
 obtain ⟨rec, hrec⟩ : ∃ rec : LoopState → Option Code → Loop, rec = fun st pe => { state := st, pending := pe, fn, tmps := a.tmps, params := ps, assign, body, defers := B } := ⟨_, rfl⟩
 obtain ⟨W1, hW1⟩ : ∃ W1, W1 = (w.alloc (.deferred (some []))).alloc (.loop (rec .ready none)) := ⟨_, rfl⟩
 have hsz1 : W1.heap.size = B + 2 := by rw [hW1]; simp [hB]
 have hblk : ∀ x, x < B → W1.heap[x]? = w.heap[x]? := fun x hx => by rw [hW1, Below.heap_alloc _ _ _ (by simp; omega), Below.heap_alloc _ _ _ (by omega)]
 have hbk : Book B (rec .ready none) W1 := by
  rw [hW1, ← hB]
  refine ⟨?_, (Below.heap_alloc _ _ _ (by simp)).trans (World.alloc_heap_new w _)⟩
  have := World.alloc_heap_new (w.alloc (.deferred (some []))) (.loop (rec .ready none))
  rwa [World.size_alloc] at this
 have hI1 : I [] W1 := hI h0 (by rw [hW1, ← hB]; exact ((Below.refl _ w).alloc (Nat.le_refl _) _).alloc (by simp) _)
 have hSl : ∀ x, SS x → x < B := fun x hx => by have := hSS x hx; omega
 have hwa1 : NodeAtV W1 SS t TB := by
  obtain ⟨ka, kc, c0, c1, c2, c3⟩ := hwa
  exact ⟨ka, kc, c0, (hblk _ (hSl _ c0)).trans c1, c2, c3.kept fun x hx => ⟨hx, hblk x (hSl x hx)⟩⟩
 refine ⟨B + 1, [{ target := .collected B, args := #[] }], W1, { target := .fn (.func 177) #[.pointer (some ⟨TB, 0, none⟩)], args := #[.func (.yield (B + 1)) #[] #[]] }, W1, 177, #[.func (.yield (B + 1)) #[] #[]] ++ #[.pointer (some ⟨TB, 0, none⟩)], W1, ?_, ?_, ?_, ?_, fun _ => h1, ?_⟩
 · rw [hW1, hrec, ← hB]; exact run_enterLoop_outer _ _ _ _ _
 · simp only [resolve, hg]
   simp [go_sem]
 · intro f' hf'; simp [Target.leads] at hf'; subst hf'; exact trivial
 · simp [invoke, go_sem]
 · obtain ⟨J, hJ⟩ : ∃ J : List Sp → World → Prop, J = fun pre V => I pre V ∧ Book B (rec .ready none) V := ⟨_, rfl⟩
   obtain ⟨Jx, hJx⟩ : ∃ Jx : World → Prop, Jx = fun V => ∃ c, Ix c V ∧ Book B (rec .done (some c)) V := ⟨_, rfl⟩
   have hbody : PBody Try.prog (n - 1 - 1) (B + 1) W1.heap.size SS (spF 1 (rootF t)) J Jx := by
    subst hJ hJx
    refine ⟨?_, ?_, ?_⟩
    · rintro pre V V' ⟨j1, j2⟩ hb
      rw [hsz1] at hb
      exact ⟨hI j1 (hb.mono (by omega)), (hb.block _ (by omega)).trans j2.1, (hb.block _ (by omega)).trans j2.2⟩
    · rintro V V' ⟨c, j1, j2⟩ hb
      rw [hsz1] at hb
      exact ⟨c, hIx j1 (hb.mono (by omega)), (hb.block _ (by omega)).trans j2.1, (hb.block _ (by omega)).trans j2.2⟩
    · rintro pre rest d key k V b off kc ka htot ⟨j1, j2⟩ hV hSb e0 e1 e2 e3 ec hk
      rw [hsz1] at hV
      have hr := hround (B + 1) rfl pre rest d key k V b off kc ka htot hV j1 hSb e0 e1 e2 e3 ec hk
      have hy := run_yield (P := Try.prog) (args := #[.int .i64 (d : Int), .pointer (some ⟨b, off, none⟩)]) j2.1 (by rw [hrec]; exact hps.symm)
      rw [hrec] at hy
      refine ⟨fn, _, assign, body, hy, roundIn_of_wpIn hfn (hr _ fun a₁ V0 hb0 hb => ?_)⟩
      have j20 : Book B (rec .ready none) V0 := ⟨(hb0.block _ (lt_of_heap j2.1)).trans j2.1, (hb0.block _ (lt_of_heap j2.2)).trans j2.2⟩
      refine ⟨_, run_beginRound j20.1 (by rw [hrec]), ?_⟩
      have hb2 : Book B { rec .ready none with state := .busy } (V0.putObj (B + 1) (.loop { rec .ready none with state := .busy })) := j20.put
      refine wpIn_mono (hb _ ⟨_, rfl, _, j20.1, rfl⟩) ?_
      rintro e3 a3 U ⟨⟨hk1, hk2⟩, hp⟩
      have hb3 : Book B { rec .ready none with state := .busy } U := ⟨(hk2 _ (Or.inl (by omega)) (lt_of_heap hb2.1)).trans hb2.1, (hk2 _ (Or.inl (Nat.le_refl _)) (lt_of_heap hb2.2)).trans hb2.2⟩
      have fin := fun jump => run_endRound (P := Try.prog) jump hb3.1
      rw [hrec] at fin hb3
      have hs0 := hb0.size
      have hsU : V0.heap.size ≤ U.heap.size := by simpa [World.putObj] using hk1
      have hall : ∀ o', V.heap.size ≤ (U.putObj (B + 1) o').heap.size ∧ ∀ y, SS y → (U.putObj (B + 1) o').heap[y]? = V.heap[y]? := fun o' => ⟨by simp [World.putObj]; omega, fun y hy => by
       have hyl := hSl y hy
       have hyB : y ≠ B + 1 := by omega
       rw [World.putObj_heap_other hyB, hk2 y (Or.inr hy) (by simp [World.putObj]; omega), World.putObj_heap_other hyB, hb0.block y (by omega)]⟩
      have hpb : ∀ o', Below B U (U.putObj (B + 1) o') := fun o' => ⟨rfl, rfl, rfl, by simp [World.putObj], fun y hy => World.putObj_heap_other (by omega)⟩
      rcases hp with ⟨rfl, hi3⟩ | ⟨rfl, hi3⟩ | ⟨id, rfl, hi3⟩
      · refine ⟨_, _, fin none, hall _, .inl ⟨rfl, hI hi3 (hpb _), ?_⟩⟩
        rw [hrec]; exact hb3.put
      · refine ⟨_, _, fin (some .ret), hall _, .inr ⟨rfl, .ret, hIx hi3 (hpb _), ?_⟩⟩
        rw [hrec]; exact hb3.put
      · refine ⟨_, _, fin (some (.exit id)), hall _, .inr ⟨rfl, .exit id, hIx hi3 (hpb _), ?_⟩⟩
        rw [hrec]; exact hb3.put
   have hstart : J [] W1 := by rw [hJ]; exact ⟨hI1, hbk⟩
   refine (callsIn_wide.2 (walk1_anyV W1 hbody TB hwa1 hsz hstart)).mono ?_
   rintro e W2 ⟨⟨v, rfl⟩, (hj | hj)⟩
   · rw [hJ] at hj
     obtain ⟨hi, hb⟩ := hj
     have := run_endLoop (P := Try.prog) hb.1 (by rw [hrec]; simp)
     rw [hrec] at this
     exact ⟨none, _, this, hdone B _ (Nat.le_refl _) (hI hi ⟨rfl, rfl, rfl, by simp [World.putObj], fun y hy => World.putObj_heap_other (by omega)⟩) ((World.putObj_heap_other (by omega)).trans hb.2)⟩
   · rw [hJx] at hj
     obtain ⟨c, hi, hb⟩ := hj
     have := run_endLoop (P := Try.prog) hb.1 (by rw [hrec]; simp)
     rw [hrec] at this
     exact ⟨some c, _, this, hstop B c _ (Nat.le_refl _) (hIx hi ⟨rfl, rfl, rfl, by simp [World.putObj], fun y hy => World.putObj_heap_other (by omega)⟩) ((World.putObj_heap_other (by omega)).trans hb.2)⟩
end Go.Proofs.Ytonapijgfalpaaa
