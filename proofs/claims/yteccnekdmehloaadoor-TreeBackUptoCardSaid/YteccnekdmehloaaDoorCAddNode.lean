/-
  The program's addNode: a tree behind bytes that a call owns. No condition but that there are not too many of them.
-/
import Derived.Test.YteccnekdmehloaaDoorCWakes
import Derived.Deep.LoopGhost
import Derived.Deep.MidRow
namespace Go.Proofs.YteccnekdmehloaaDoor
open Go.RowKit
open Extern.Stop (cell)

/-- From wr to wr' nothing turns that lay below w's end, and no bytes. -/
def Other (w wr wr' : World) : Prop := Below w.heap.size wr wr' ∧ ∀ (k : Nat) (o : Obj), wr.heap[k]? = some o → notU8 o = false → wr'.heap[k]? = some o
theorem OwnS.other {B : Nat} {v : Value} {n : Nat} {xs : List Value} {w wr wr' : World} (h : OwnS B v n xs w wr) (hB : B ≤ w.heap.size) (ho : Other w wr wr') : OwnS B v n xs w wr' := by
  obtain ⟨⟨⟨h1, h2⟩, h3, h4⟩, h5⟩ := h
  refine ⟨⟨⟨h1, ?_⟩, h3.trans (ho.1.mono hB), Nat.le_trans h4 ho.1.size⟩, fun k o hk hn => ?_⟩
  · rcases h2 with h2 | ⟨g, cap, cur, fz, hv, hg, hh, r⟩
    · exact Or.inl h2
    · exact Or.inr ⟨g, cap, cur, fz, hv, hg, ho.2 g _ hh (by simp [notU8]), r⟩
  · rw [ho.1.block k (lt_of_heap hk)]; exact h5 k o hk hn
theorem Other.refl (w wr : World) : Other w wr wr := ⟨Below.refl _ _, fun _ _ h _ => h⟩
theorem Other.trans {w a b c : World} (h : Other w a b) (k : Other w b c) : Other w a c := ⟨h.1.trans k.1, fun i o hi ho => k.2 i o (h.2 i o hi ho) ho⟩
theorem Other.alloc {w a b : World} (h : Other w a b) (hs : w.heap.size ≤ b.heap.size) (o : Obj) : Other w a (b.alloc o) := ⟨h.1.alloc hs o, fun i x hi hx => by
  have := h.2 i x hi hx
  rw [Below.heap_alloc _ _ _ (lt_of_heap this)]; exact this⟩
theorem Other.setCell {w a b : World} (h : Other w a b) {p : Addr} (hp : w.heap.size ≤ p.block) {o : Obj} (hb : b.heap[p.block]? = some o) (hn : notU8 o = true) (u : Value) : Other w a (b.setCell p u) := ⟨h.1.setCell hp u, fun i x hi hx => by
  have := h.2 i x hi hx
  rw [Below.heap_setCell _ _ _ _ (fun e => by rw [e, hb] at this; cases this; rw [hn] at hx; cases hx)]; exact this⟩

/-- What holds at the head of each round: rows wait, the last one comes first. -/
structure AInv (w : World) (B rowB : Nat) (rc : Array Value) (S : Nat → Prop) (total : List UInt8) (v wv : Value) (rows : List Wait) (bs : List UInt8) (wr : World) : Prop where
  own : OwnB B v bs w wr
  wait : wr.ownsRow w.heap.size 23 1 wv rows.length (rows.map Wait.v)
  row : w.heap.size ≤ rowB ∧ wr.heap[rowB]? = some (.cells rc 25 (0, 0))
  nodes : ∀ r ∈ rows, FoAt wr (fun k => S k ∨ k = rowB) r.f r.a ∧ foLen r.f ≤ r.cap
  all : bs ++ encR rows = total

theorem start_inv {w : World} {B : Nat} {v : Value} {bs : List UInt8} {S : Nat → Prop} {t : Tr} {ka : Option Addr} {cap : Nat} (h : OwnB B v bs w w) (hS : ∀ k, S k → k < B) (hk : FoAt w S t.kids ka) (hcap : foLen t.kids ≤ cap) (o : Obj) (c : Nat) (hc : 1 ≤ c) :
    AInv w B (w.heap.size + 1) #[.int .i64 t.id, .int .i64 t.kind, .string t.text, .slice ka (foLen t.kids) cap] S (bs ++ encT t) v (.slice (some ⟨w.heap.size + 1 + 1, 0, none⟩) 1 1) [⟨some ⟨w.heap.size + 1, 0, none⟩, c, .node 0 0 (t.id, t.kind, t.text) t.kids .nil⟩] bs
      (((w.alloc o).alloc (.cells #[.int .i64 t.id, .int .i64 t.kind, .string t.text, .slice ka (foLen t.kids) cap] 25)).alloc (.cells #[.slice (some ⟨w.heap.size + 1, 0, none⟩) 1 c] 23)) := by
  have hB : B ≤ w.heap.size := h.1.2.2
  have hrow : (((w.alloc o).alloc (.cells #[.int .i64 t.id, .int .i64 t.kind, .string t.text, .slice ka (foLen t.kids) cap] 25)).alloc (.cells #[.slice (some ⟨w.heap.size + 1, 0, none⟩) 1 c] 23)).heap[w.heap.size + 1]? = some (.cells #[.int .i64 t.id, .int .i64 t.kind, .string t.text, .slice ka (foLen t.kids) cap] 25 (0, 0)) := by
    rw [Below.heap_alloc _ _ _ (by simp)]; exact heap_alloc2_new w _ _
  refine ⟨((h.alloc _).alloc _).alloc _, ?_, ⟨by omega, hrow⟩, fun r hr => ?_, ?_⟩
  · have hlit := World.ownsRow_lit (base := w.heap.size) (size := 1) (e := 23) ((w.alloc o).alloc (.cells #[.int .i64 t.id, .int .i64 t.kind, .string t.text, .slice ka (foLen t.kids) cap] 25)) #[.slice (some ⟨w.heap.size + 1, 0, none⟩) 1 c] 1 (by simp; omega) (by unfold maxLen; omega) rfl
    rw [World.size_alloc, World.size_alloc] at hlit
    exact hlit
  · rw [List.mem_singleton] at hr
    subst hr
    refine ⟨⟨w.heap.size + 1, 0, ka, cap, rfl, Or.inr rfl, by rw [cell_of_row _ _ 0 _ _ _ hrow]; rfl, by rw [cell_of_row _ _ 1 _ _ _ hrow]; rfl, by rw [cell_of_row _ _ 2 _ _ _ hrow]; rfl, by rw [cell_of_row _ _ 3 _ _ _ hrow]; rfl, hcap, hk.kept (fun k hk => ⟨Or.inl hk, ?_⟩), True.intro⟩, by simpa [foLen] using hc⟩
    have := hS k hk
    rw [Below.heap_alloc _ _ _ (by simp; omega), Below.heap_alloc _ _ _ (by simp; omega), Below.heap_alloc _ _ _ (by omega)]
  · show bs ++ (encF (.node 0 0 (t.id, t.kind, t.text) t.kids .nil) ++ []) = bs ++ encT t
    simp [encF, encT]
theorem owns_pop {w : World} {B g n cap : Nat} {e : TypeId} {xs : List Value} {u : Value} (h : w.ownsRow B e 1 (.slice (some ⟨g, 0, none⟩) (n + 1) cap) (n + 1) (xs ++ [u])) (hn : n = xs.length) : w.ownsRow B e 1 (.slice (some ⟨g, 0, none⟩) n cap) n xs := by
  rcases h.2 with ⟨hv, _⟩ | ⟨g', cap', cur, hv, hB, hh, h3, h4, h5, h6⟩
  · cases hv
  · cases hv
    refine ⟨by omega, Or.inr ⟨g, cap, cur, rfl, hB, hh, by omega, h4, h5, ?_⟩⟩
    have h7 : (cur.toList.take ((n + 1) * 1)).take (n * 1) = (xs ++ [u]).take (n * 1) := by rw [h6]
    rw [List.take_take, Nat.min_eq_left (by omega)] at h7
    rw [h7, List.take_left' (by omega)]
theorem owns_typed {w : World} {B g n cap : Nat} {e : TypeId} {size : Nat} {xs : List Value} (h : w.ownsRow B e size (.slice (some ⟨g, 0, none⟩) n cap) n xs) : B ≤ g ∧ n ≤ cap ∧ ∃ cur, w.heap[g]? = some (.cells cur e (0, 0)) := by
  rcases h.2 with ⟨hv, _⟩ | ⟨g', cap', cur, hv, hB, hh, h3, _⟩
  · cases hv
  · cases hv; exact ⟨hB, h3, cur, hh⟩
section
variable {w wr : World} {B rowB : Nat} {rc : Array Value} {S : Nat → Prop} {total : List UInt8} {v : Value} {rs : List Wait} {bs : List UInt8} {g n wc : Nat}
/-- A row that is empty is taken away. -/
theorem AInv.pop {ta : Option Addr} {tc : Nat} (h : AInv w B rowB rc S total v (.slice (some ⟨g, 0, none⟩) (n + 1) wc) (rs ++ [Wait.mk ta tc .nil]) bs wr) (hn : n = rs.length) : AInv w B rowB rc S total v (.slice (some ⟨g, 0, none⟩) n wc) rs bs wr := by
  have hw := h.wait
  rw [List.map_append, List.length_append, ← hn] at hw
  refine ⟨h.own, ?_, h.row, fun r hr => h.nodes r (List.mem_append_left _ hr), by have := h.all; rw [encR_snoc] at this; exact this⟩
  rw [← hn]
  exact owns_pop hw (by simp [hn])
/-- A node is written: what is behind it in its row waits, and its kids, which come first. -/
theorem AInv.next {b off na nc tc q kcap m : Nat} {kka : Option Addr} {k : Int × Int × ByteArray} {b0 o0 : Nat} {l r : Fo} {o : Obj} {w6 w8 : World} {v4 wv8 : Value} (h : AInv w B rowB rc S total v (.slice (some ⟨g, 0, none⟩) (n + 1) wc) (rs ++ [Wait.mk (some ⟨b, off, none⟩) tc (.node b0 o0 k l r)]) bs wr) (hn : n = rs.length) (hB : B ≤ w.heap.size) (hS : ∀ k, S k → k < B)
    (hr : FoAt wr (fun k => S k ∨ k = rowB) r (some ⟨b, na, none⟩)) (hrc : foLen r ≤ nc) (hl : FoAt wr (fun k => S k ∨ k = rowB) l kka) (hlc : foLen l ≤ kcap) (hq : q = foLen l) (hm : m = foLen r)
    (h6 : OwnB B v4 (bs ++ encK k q) ((wr.setCell ⟨g, n, none⟩ (.slice (some ⟨b, na, none⟩) m nc)).alloc o) w6)
    (h8 : w8.ownsRow w.heap.size 23 1 wv8 (n + 1 + 1) ((rs ++ [Wait.mk (some ⟨b, na, none⟩) nc r]).map Wait.v ++ [.slice kka q kcap])) (hg : (w6.alloc (.cells #[.slice kka q kcap] 23)).grownBy w8 (some g)) :
    AInv w B rowB rc S total v4 wv8 (rs ++ [Wait.mk (some ⟨b, na, none⟩) nc r] ++ [Wait.mk kka kcap l]) (bs ++ encK k q) w8 := by
  subst hq
  subst hm
  have hw := h.wait
  rw [List.length_append, ← hn] at hw
  obtain ⟨t1, t2, cur, t3⟩ := owns_typed hw
  have hgs := lt_of_heap t3
  have o1 : Other w wr ((wr.setCell ⟨g, n, none⟩ (.slice (some ⟨b, na, none⟩) (foLen r) nc)).alloc o) := ((Other.refl w wr).setCell (p := ⟨g, n, none⟩) t1 t3 rfl _).alloc (by simp [World.setCell]; omega) o
  have own1 := h.own.other hB o1
  have own6 := own1.since h6
  have g1 : ((wr.setCell ⟨g, n, none⟩ (.slice (some ⟨b, na, none⟩) (foLen r) nc)).alloc o).heap[g]? = some (.cells (cur.setIfInBounds n (.slice (some ⟨b, na, none⟩) (foLen r) nc)) 23 (0, 0)) := by
    rw [Below.heap_alloc _ _ _ (by simp [World.setCell]; omega)]; exact heap_setCell_same wr g n _ _ _ t3
  have g6 := h6.2 g _ g1 rfl
  have hgs6 := lt_of_heap g6
  have g7 : (w6.alloc (.cells #[.slice kka (foLen l) kcap] 23)).heap[g]? = _ := (Below.heap_alloc w6 _ _ hgs6).trans g6
  have o2 : Other w (w6.alloc (.cells #[.slice kka (foLen l) kcap] 23)) w8 := ⟨⟨hg.os, hg.tape, hg.output, hg.size, fun x hx => hg.block x (by have := own6.1.2.1; have h3 := lt_of_heap g6; simp; omega) (fun e => by cases e; omega)⟩, fun x ob hx hu => by
    rw [hg.block x (lt_of_heap hx) (fun e => by cases e; rw [g7] at hx; cases hx; cases hu)]; exact hx⟩
  have hrg : rowB ≠ g := fun e => by
    have h1 := h.row.2
    rw [e, t3] at h1; cases h1
  have r1 : ((wr.setCell ⟨g, n, none⟩ (.slice (some ⟨b, na, none⟩) (foLen r) nc)).alloc o).heap[rowB]? = some (.cells rc 25 (0, 0)) := by
    have hlt := lt_of_heap h.row.2
    rw [Below.heap_alloc _ _ _ (by simp [World.setCell]; omega), Below.heap_setCell _ _ _ _ hrg]; exact h.row.2
  have r6 := h6.2 rowB _ r1 rfl
  have r8 : w8.heap[rowB]? = some (.cells rc 25 (0, 0)) := by
    have hlt := lt_of_heap r6
    rw [hg.block rowB (by simp; omega) (fun e => by cases e; exact hrg rfl), Below.heap_alloc _ _ _ hlt]; exact r6
  have hsz6 : w.heap.size ≤ w6.heap.size := by have := h.row.1; have := lt_of_heap r6; omega
  have hkeep : ∀ x, (S x ∨ x = rowB) → w8.heap[x]? = wr.heap[x]? := fun x hx => by
    rcases hx with hx | rfl
    · have hxB := hS x hx
      rw [hg.block x (by simp; omega) (fun e => by cases e; omega), Below.heap_alloc _ _ _ (by omega), h6.1.2.1.block x hxB]
      exact o1.1.block x (by omega)
    · rw [r8]; exact h.row.2.symm
  refine ⟨(own6.alloc _).other hB o2, ?_, ⟨h.row.1, r8⟩, fun y hy => ?_, ?_⟩
  · have e1 : (rs ++ [Wait.mk (some ⟨b, na, none⟩) nc r] ++ [Wait.mk kka kcap l]).length = n + 1 + 1 := by simp [hn]
    have e2 : (rs ++ [Wait.mk (some ⟨b, na, none⟩) nc r] ++ [Wait.mk kka kcap l]).map Wait.v = (rs ++ [Wait.mk (some ⟨b, na, none⟩) nc r]).map Wait.v ++ [.slice kka (foLen l) kcap] := by rw [List.map_append]; rfl
    rw [e1, e2]; exact h8
  · rcases List.mem_append.1 hy with hy | hy
    · rcases List.mem_append.1 hy with hy | hy
      · have h1 := h.nodes y (List.mem_append_left _ hy)
        exact ⟨h1.1.kept fun x hx => ⟨hx, hkeep x hx⟩, h1.2⟩
      · rw [List.mem_singleton] at hy; subst hy
        exact ⟨hr.kept fun x hx => ⟨hx, hkeep x hx⟩, hrc⟩
    · rw [List.mem_singleton] at hy; subst hy
      exact ⟨hl.kept fun x hx => ⟨hx, hkeep x hx⟩, hlc⟩
  · have h1 := h.all
    rw [encR_snoc] at h1
    rw [encR_snoc, encR_snoc, ← h1]
    simp [encF, List.append_assoc]
theorem AInv.wait6 {b na nc m : Nat} {r : Fo} {top : Wait} {o : Obj} {w6 : World} (h : AInv w B rowB rc S total v (.slice (some ⟨g, 0, none⟩) (n + 1) wc) (rs ++ [top]) bs wr) (hn : n = rs.length) (hm : m = foLen r)
    (h6 : StaysU ((wr.setCell ⟨g, n, none⟩ (.slice (some ⟨b, na, none⟩) m nc)).alloc o) w6) : w6.ownsRow w.heap.size 23 1 (.slice (some ⟨g, 0, none⟩) (n + 1) wc) (n + 1) ((rs ++ [Wait.mk (some ⟨b, na, none⟩) nc r]).map Wait.v) := by
  subst hm
  have hw := h.wait
  rw [List.length_append, ← hn] at hw
  have h1 := ((hw.stored n (.slice (some ⟨b, na, none⟩) (foLen r) nc)).1).alloc o
  have e : (List.map Wait.v (rs ++ [top])).set n (.slice (some ⟨b, na, none⟩) (foLen r) nc) = (rs ++ [Wait.mk (some ⟨b, na, none⟩) nc r]).map Wait.v := by
    rw [List.map_append, List.map_append, List.set_append_right _ _ (by simp [hn])]
    simp [hn, Wait.v]
  rw [e] at h1
  exact owns_kept h1 fun x cur hx _ => by rw [h6 x _ hx rfl, hx]
/-- The world behind a node's taking: what of it a call needs. -/
theorem AInv.mid {b na nc m : Nat} {top : Wait} {o : Obj} (h : AInv w B rowB rc S total v (.slice (some ⟨g, 0, none⟩) (n + 1) wc) (rs ++ [top]) bs wr) (hn : n = rs.length) (hB : B ≤ w.heap.size) : OwnB B v bs ((wr.setCell ⟨g, n, none⟩ (.slice (some ⟨b, na, none⟩) m nc)).alloc o) ((wr.setCell ⟨g, n, none⟩ (.slice (some ⟨b, na, none⟩) m nc)).alloc o) := by
  have hw := h.wait
  rw [List.length_append, ← hn] at hw
  obtain ⟨t1, t2, cur, t3⟩ := owns_typed hw
  have hgs := lt_of_heap t3
  exact (h.own.other hB (((Other.refl w wr).setCell (p := ⟨g, n, none⟩) t1 t3 rfl _).alloc (by simp [World.setCell]; omega) o)).here
end
theorem foLen_zero : ∀ {f : Fo}, foLen f = 0 → f = .nil
  | .nil, _ => rfl
  | .node _ _ _ _ _, h => by simp [foLen] at h

theorem box_stays {wr w' : World} {p : Addr} {u a0 a1 a2 a3 : Value} (h : StaysU ((wr.setCell p u).alloc (.cells #[a0, a1, a2, a3] 25)) w') : w'.cell? ⟨wr.heap.size, 0, none⟩ = some a0 ∧ w'.cell? ⟨wr.heap.size, 1, none⟩ = some a1 ∧ w'.cell? ⟨wr.heap.size, 2, none⟩ = some a2 ∧ w'.cell? ⟨wr.heap.size, 3, none⟩ = some a3 := by
  have h0 := heap_alloc_new (wr.setCell p u) (.cells #[a0, a1, a2, a3] 25)
  have e : (wr.setCell p u).heap.size = wr.heap.size := by simp [World.setCell]
  rw [e] at h0
  have h1 := h _ _ h0 rfl
  exact ⟨by rw [cell_of_row _ _ 0 _ _ _ h1]; rfl, by rw [cell_of_row _ _ 1 _ _ _ h1]; rfl, by rw [cell_of_row _ _ 2 _ _ _ h1]; rfl, by rw [cell_of_row _ _ 3 _ _ _ h1]; rfl⟩
theorem Tryd.infoSl : (Tryd.prog.info? 23).map (fun i => (i.size, i.bytes, i.zero.map (fun z => z.cells.size))) = some (1, 24, some 1) := by kernel_rfl
theorem info_wideC {P : Program} {e : TypeId} {size bytes : Nat} (h : (P.info? e).map (fun i => (i.size, i.bytes, i.zero.map (fun z => z.cells.size))) = some (size, bytes, some size)) :
    ∃ i z, P.info? e = some i ∧ i.zero = some z ∧ i.size = size ∧ i.bytes = bytes ∧ z.cells.size = size := by
  rw [Option.map_eq_some_iff] at h
  obtain ⟨i, hi, he⟩ := h
  simp only [Prod.mk.injEq, Option.map_eq_some_iff] at he
  obtain ⟨h1, h2, z, hz, h3⟩ := he
  exact ⟨i, z, hi, hz, h1, h2, h3⟩

set_option maxRecDepth 100000 in
set_option maxHeartbeats 1000000 in
theorem addNode_any (w : World) (B : Nat) (v : Value) (bs : List UInt8) (S : Nat → Prop) (nv : Value) (t : Tr) (h : OwnB B v bs w w) (hS : ∀ k, S k → k < B) (ht : TrAt w S nv t) (hl : bs.length + (encT t).length ≤ 1000000000000) :
    Calls Tryd.prog 47 #[v, nv] w (PutC B (bs ++ encT t) w) := by
  obtain ⟨ka, cap, rfl, hcap, hk⟩ := ht
  have H := Lib.hid (And.intro h (And.intro hS (And.intro hk (And.intro hcap hl))))
  obtain ⟨len, hlen⟩ : ∃ len, len = foLen t.kids := ⟨_, rfl⟩
  rw [← hlen]
  have HLEN := Lib.hid hlen
  clear h hS hk hl hlen hcap
  go_enter Tryd.func47, Tryd.ntmps47
  go_wp2_with fail
  go_loopg [0, 5] (2 * foSize t.kids + 3) (fun gk s0 s5 wr => ∃ rows bs', Hid (AInv w B (w.heap.size + 1) #[.int .i64 t.id, .int .i64 t.kind, .string t.text, .slice ka (foLen t.kids) cap] S (bs ++ encT t) s0 s5 rows bs' wr ∧ waitN rows ≤ 2 * foSize t.kids + 3) ∧ gk = waitN rows)
  case atStart => exact ⟨_, bs, Lib.hid ⟨by rw [HLEN.out]; exact start_inv H.out.1 H.out.2.1 H.out.2.2.1 H.out.2.2.2.1 _ _ (Nat.le_refl _), by simp [waitN, foSize]; omega⟩, by simp [waitN, foSize]; omega⟩
  case round =>
    obtain ⟨rows, bs', hh, hgk⟩ := hrel
    obtain ⟨wa, wc, hwv⟩ := owns_slice hh.out.1.wait
    rcases nil_or_snocC rows with rfl | ⟨rs, top, rfl⟩
    · subst hwv
      have hend := hh.out.1.own
      have hall := hh.out.1.all
      rw [show encR [] = [] from rfl, List.append_nil] at hall
      subst hall
      have HE := Lib.hid hend
      clear hh hgk hend H
      simp only [List.length_nil]
      go_wp2_with fail
      go_ret
      exact ⟨_, rfl, HE.out⟩
    · obtain ⟨n, hn⟩ : ∃ n, n = rs.length := ⟨_, rfl⟩
      have hwv2 : u5 = .slice wa (n + 1) wc := by rw [hwv, hn]; simp
      clear hwv
      have hw0 := hh.out.1.wait
      have hnn : (rs ++ [top]).length = n + 1 := by rw [hn]; simp
      rw [hnn, hwv2] at hw0
      obtain ⟨g, cap2, e, _⟩ := hw0.form (by omega)
      cases e
      have hgc : wr.cell? ⟨g, n, none⟩ = some top.v := owns_cell hw0 rfl n _ (by rw [List.map_append, List.getElem?_append_right (by simp; omega)]; simp [hn])
      have hgf : wr.frozen? ⟨g, n, none⟩ = false := hw0.frozenAt n
      have hwcap : n + 1 ≤ wc := (owns_typed hw0).2.1
      have hnode := hh.out.1.nodes top (by simp)
      have hbound : n + 1 ≤ 1000000000000 := by
        have h1 := hh.out.2
        have h2 := waitN_len (rs ++ [top])
        have h3 := H.out.2.2.2.2
        rw [encT_length] at h3
        omega
      subst hwv2
      have HG := Lib.hid (And.intro hh.out (And.intro hgk hn))
      clear hh hgk hw0 hnn hn
      obtain ⟨ta, tc, tf⟩ := top
      cases tf with
      | nil =>
        simp only [Wait.v, foLen] at hgc
        clear hnode
        go_wp2_with fail
        have h1 := HG.out.1.2
        rw [waitN_snoc] at h1
        have h2 := HG.out.2.1
        rw [waitN_snoc] at h2
        simp only [foSize] at h1 h2
        go_roundg (waitN rs)
        case measure => omega
        case rel => exact ⟨rs, bs', Lib.hid ⟨HG.out.1.1.pop HG.out.2.2, by omega⟩, rfl⟩
      | node b0 o0 k l r =>
        obtain ⟨⟨b, off, kka, kcap, rfl, hSb, c0, c1, c2, c3, hlc, hl, hr⟩, htc⟩ := hnode
        obtain ⟨m, hm⟩ : ∃ m, m = foLen r := ⟨_, rfl⟩
        obtain ⟨q, hq⟩ : ∃ q, q = foLen l := ⟨_, rfl⟩
        simp only [Wait.v, foLen] at hgc htc
        rw [← hm] at hgc htc
        rw [← hq] at c3
        have hbs : bs'.length + 32 + k.2.2.size ≤ 1000000000000 := by
          have h1 := congrArg List.length HG.out.1.1.all
          have h3 := H.out.2.2.2.2
          rw [encR_snoc] at h1
          simp only [encF, List.length_append, encK_length] at h1
          omega
        have HA : Hid (∀ na nc : Nat, Calls Tryd.prog 69 #[u0, .int .i64 k.1] ((wr.setCell ⟨g, n, none⟩ (.slice (some ⟨b, na, none⟩) m nc)).alloc (.cells #[.int .i64 k.1, .int .i64 k.2.1, .string k.2.2, .slice kka q kcap] 25)) (PutC B (bs' ++ num8 k.1) ((wr.setCell ⟨g, n, none⟩ (.slice (some ⟨b, na, none⟩) m nc)).alloc (.cells #[.int .i64 k.1, .int .i64 k.2.1, .string k.2.2, .slice kka q kcap] 25)))) :=
          Lib.hid fun na nc => addNumber_any _ _ B u0 bs' k.1 (HG.out.1.1.mid HG.out.2.2 H.out.1.1.2.2) (by omega)
        have HN := Lib.hid (And.intro hSb (And.intro hl (And.intro hr (And.intro hm (And.intro hq (And.intro hlc htc))))))
        obtain ⟨i0, z0, hi0, hz0, hz1, hz2, hz3⟩ := info_wideC Tryd.infoSl
        have HI := Lib.hid (And.intro hi0 (And.intro hz0 (And.intro hz1 (And.intro hz2 hz3))))
        have HBS := Lib.hid (And.intro hbs hbound)
        clear hSb hl hr hm hq hlc hi0 hz0 hz1 hz2 hz3 hbs
        go_wp2_with (first
          | (go_at_call 69; (with_reducible refine (HA.out _ _).mono ?_); clear HA; rintro e w3 ⟨v1, rfl, h1⟩; have d1 := (box_stays h1.2).2.1; have HB := Lib.hid (addNumber_any w3 _ B v1 _ k.2.1 h1 (by have := HBS.out.1; simp [num8_length]; omega)); clear h1)
          | (go_at_call 69; (with_reducible refine HB.out.mono ?_); clear HB; rintro e w4 ⟨v2, rfl, h1⟩; have d2 := (box_stays h1.2).2.2.1; have HC := Lib.hid (addText_any w4 _ B v2 _ k.2.2 h1 (by have := HBS.out.1; simp [num8_length]; omega) (by have := HBS.out.1; omega)); clear h1)
          | (go_at_call 70; (with_reducible refine HC.out.mono ?_); clear HC; rintro e w5 ⟨v3, rfl, h1⟩; have d3 := (box_stays h1.2).2.2.2; have HD := Lib.hid (addNumber_any w5 _ B v3 _ (q : Int) h1 (by have := HBS.out.1; have e9 : k.2.2.data.toList.length = k.2.2.size := (by simp); simp only [List.length_append, num8_length, e9]; omega)); clear h1)
          | (go_at_call 69; (with_reducible refine HD.out.mono ?_); clear HD; rintro e w6 ⟨v4, rfl, h1⟩; have d4 := (box_stays h1.2).2.2.2; have HE := Lib.hid (And.intro h1 (HG.out.1.1.wait6 (r := r) HG.out.2.2 HN.out.2.2.2.1 h1.2)); clear h1)
          | (at_builtin; refine wpList_append_own _ rfl (.tmp 57) (.tmp 60) _ rfl w.heap.size 23 i0 z0 1 24 Tryd.underlying100 HI.out.1 HI.out.2.1 HI.out.2.2.1 HI.out.2.2.2.1 HI.out.2.2.2.2 (by omega) (.slice (some ⟨g, 0, none⟩) (n + 1) wc) (n + 1) _ rfl (HE.out.2.alloc _) ⟨w6.heap.size, 0, none⟩ 1 1 [.slice kka q kcap] rfl rfl (World.news_of_block (cs := #[.slice kka q kcap]) (heap_alloc_new w6 _)) (by simp [Value.oneCell']) (by unfold maxLen; omega) (by omega) (by have := owns_bounds HE.out.2 rfl; simp; omega) ?_; intro v8 w8 hown hgrow _; have HF := Lib.hid (And.intro hown hgrow); clear hown hgrow))
        all_goals
          have h1 := HG.out.1.2
          rw [waitN_snoc] at h1
          have h2 := HG.out.2.1
          rw [waitN_snoc] at h2
          simp only [foSize] at h1 h2
          have h5 := HE.out.1
          rw [show bs' ++ num8 k.fst ++ num8 k.snd.fst ++ (num8 (k.snd.snd.size : Int) ++ k.snd.snd.data.toList) ++ num8 (q : Int) = bs' ++ encK k q by simp [encK, List.append_assoc]] at h5
          have h6 := AInv.next HG.out.1.1 HG.out.2.2 H.out.1.1.2.2 H.out.2.1 (by first | exact HN.out.2.2.1 | (rw [foLen_zero (f := r) (by have := HN.out.2.2.2; omega)]; exact True.intro)) (by have := HN.out.2.2.2; omega) HN.out.2.1 HN.out.2.2.2.2.2.1 HN.out.2.2.2.2.1 HN.out.2.2.2.1 h5 HF.out.1 HF.out.2
          go_roundg (waitN rs + (2 * foSize r + 1) + (2 * foSize l + 1))
          case measure => omega
          case rel => exact ⟨_, _, Lib.hid ⟨h6, by rw [waitN_snoc, waitN_snoc]; simp only; omega⟩, by rw [waitN_snoc, waitN_snoc]; simp only; omega⟩
end Go.Proofs.YteccnekdmehloaaDoor
