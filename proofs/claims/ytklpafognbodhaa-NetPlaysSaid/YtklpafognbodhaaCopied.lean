/-
  What 'copied' answers of a message: the same message. No condition but that its trees have at most a million nodes together.
-/
import Derived.Test.YtklpafognbodhaaCop
import Derived.Deep.LoopGhost
namespace Go.Proofs.Ytklpafognbodhaa
open Go.RowKit

def ssum (l : List Stp) : Nat := (l.map fun s => foSize s.sub.kids).sum
def Msg.sum (m : Msg) : Nat := ssum m.steps + foSize m.tree.kids
theorem ssum_step {l : List Stp} {k : Nat} {x : Stp} (h : l[k]? = some x) : ssum (l.take (k + 1)) = ssum (l.take k) + foSize x.sub.kids := by
  rw [List.take_add_one, h]
  simp [ssum]
theorem ssum_take : ∀ (l : List Stp) (k : Nat), ssum (l.take k) ≤ ssum l
  | [], k => by simp
  | x :: l, 0 => by simp [ssum]
  | x :: l, k + 1 => by have := ssum_take l k; simp only [List.take_succ_cons, ssum, List.map_cons, List.sum_cons] at this ⊢; omega
/-- The message that was told, wherever its parts lie. -/
def Vc (S : Nat → Prop) (w : World) : Nat → Prop := fun x => S x ∨ w.heap.size + 4 ≤ x
def SameR (S : Nat → Prop) (m : Msg) : World → World → List Value → Prop := fun w w' cs => ∃ sa sc ka cap, cs = msgCells m sa sc ka cap ∧ MsgIn w' (fun x => S x ∨ Fresh w w' x) m sa ka
theorem msgCells_one (m : Msg) (sa : Option Addr) (sc : Nat) (ka : Option Addr) (cap : Nat) : ∀ u ∈ msgCells m sa sc ka cap, u.oneCell' = true := by simp [msgCells, Value.oneCell']
theorem CI.box_there {S : Nat → Prop} {w wr : World} {m : Msg} {sv wv : Value} {ps : List Pn} (hS : ∀ k, S k → k < w.heap.size) (h : CI (Vc S w) w m sv wr wv ps) : ∃ sa sc ka cap, MsgThere wr w.heap.size 0 (msgCells m sa sc ka cap) ∧ freeAt wr (.pointer (some ⟨w.heap.size + 1, 0, none⟩)) = true ∧
    (wr.setCells (w.heap.size + 1) 0 (msgCells m sa sc ka cap)).heap[w.heap.size + 1]? = some (.cells (msgCells m sa sc ka cap).toArray 40 (0, 0)) ∧
    MsgIn (wr.setCells (w.heap.size + 1) 0 (msgCells m sa sc ka cap)) (fun x => S x ∨ Fresh w (wr.setCells (w.heap.size + 1) 0 (msgCells m sa sc ka cap)) x) m sa ka ∧ Below w.heap.size w (wr.setCells (w.heap.size + 1) 0 (msgCells m sa sc ka cap)) := by
  obtain ⟨sa, sc, ka, cap, _, _, h3, h4, h5⟩ := h.box
  obtain ⟨cs, t, hf⟩ := h.free
  obtain ⟨zs, hz1, hz2⟩ := h.res
  have hst := store_msg (cs := msgCells m sa sc ka cap) hz1 hz2 rfl
  have hk : ∀ k, Xn (Vc S w) wr wv k → (S k ∨ Fresh w (wr.setCells (w.heap.size + 1) 0 (msgCells m sa sc ka cap)) k) ∧ (wr.setCells (w.heap.size + 1) 0 (msgCells m sa sc ka cap)).heap[k]? = wr.heap[k]? := fun k hk => by
    rcases hk.2 with h | h
    · exact ⟨Or.inl h, hst.2.2.1 k (by have := hS k h; omega)⟩
    · exact ⟨Or.inr ⟨by omega, by rw [hst.2.1]; exact hk.1.1⟩, hst.2.2.1 k (by omega)⟩
  refine ⟨sa, sc, ka, cap, there_msg hf rfl (fun j u hj => ?_), freeAt_of hz1 hz2, hst.1, ⟨h4.kept hk, h5.kept hk⟩, h.below.trans (hst.2.2.2 _ (by omega))⟩
  have := h3 j u hj
  rw [cell_of_row _ _ j _ _ _ hf] at this
  rw [Nat.zero_add]; exact this

attribute [local go_sem ↓] loadM wpLoadM storeM wpStoreM
attribute [local go_sem] putAt_ptr
set_option maxRecDepth 100000 in
set_option maxHeartbeats 8000000 in
theorem copied_any (w : World) (S : Nat → Prop) (m : Msg) (sa : Option Addr) (sc : Nat) (ka : Option Addr) (cap : Nat) (hS : ∀ k, S k → k < w.heap.size) (hs : StepsAt w S sa m.steps) (ht : FoAt w S m.tree.kids ka) (hl : m.steps.length ≤ 1000000) (hsum : m.sum ≤ 1000000) :
    Calls Try.prog 33 #[.agg (msgCells m sa sc ka cap).toArray] w (CopiedC (SameR S m) w) := by
  obtain ⟨xs, x1, x2, x3, x4⟩ := steps_read hs
  obtain ⟨sl, hsl⟩ : ∃ y, y = m.steps.length := ⟨_, rfl⟩
  obtain ⟨tl, htl⟩ : ∃ y, y = foLen m.tree.kids := ⟨_, rfl⟩
  have hMC : (msgCells m sa sc ka cap).toArray = #[.int .i8 m.kind, .int .i64 m.frm, .int .i64 m.to, .int .i64 m.boot, .int .i64 m.server, .int .i64 m.number, .int .i64 m.node, .int .i64 m.lease, .int .i64 m.epoch, .int .i64 m.version, .int .i64 m.e, .slice sa sl sc, .int .i64 m.tree.id, .int .i64 m.tree.kind, .string m.tree.text, .slice ka tl cap] := by rw [hsl, htl]; rfl
  have k0 : (((w.alloc (.cells #[.int .i8 m.kind, .int .i64 m.frm, .int .i64 m.to, .int .i64 m.boot, .int .i64 m.server, .int .i64 m.number, .int .i64 m.node, .int .i64 m.lease, .int .i64 m.epoch, .int .i64 m.version, .int .i64 m.e, .slice sa sl sc, .int .i64 m.tree.id, .int .i64 m.tree.kind, .string m.tree.text, .slice ka tl cap] 40)).alloc (.cells #[.int .i8 0, .int .i64 0, .int .i64 0, .int .i64 0, .int .i64 0, .int .i64 0, .int .i64 0, .int .i64 0, .int .i64 0, .int .i64 0, .int .i64 0, .slice none 0 0, .int .i64 0, .int .i64 0, .string ⟨#[]⟩, .slice none 0 0] 40)).alloc (.cells #[.slice none 0 0] 86)).heap.size = w.heap.size + 1 + 1 + 1 := by simp
  have k1 : ((((w.alloc (.cells #[.int .i8 m.kind, .int .i64 m.frm, .int .i64 m.to, .int .i64 m.boot, .int .i64 m.server, .int .i64 m.number, .int .i64 m.node, .int .i64 m.lease, .int .i64 m.epoch, .int .i64 m.version, .int .i64 m.e, .slice sa sl sc, .int .i64 m.tree.id, .int .i64 m.tree.kind, .string m.tree.text, .slice ka tl cap] 40)).alloc (.cells #[.int .i8 0, .int .i64 0, .int .i64 0, .int .i64 0, .int .i64 0, .int .i64 0, .int .i64 0, .int .i64 0, .int .i64 0, .int .i64 0, .int .i64 0, .slice none 0 0, .int .i64 0, .int .i64 0, .string ⟨#[]⟩, .slice none 0 0] 40)).alloc (.cells #[.slice none 0 0] 86)).alloc (.cells #[.func (.func 50) #[] #[.pointer (some ⟨w.heap.size + 1 + 1, 0, none⟩), .pointer (some ⟨w.heap.size + 1 + 1 + 1, 0, none⟩)]] 87)).heap.size = w.heap.size + 4 := by simp
  have hb4 : Below w.heap.size w ((((w.alloc (.cells #[.int .i8 m.kind, .int .i64 m.frm, .int .i64 m.to, .int .i64 m.boot, .int .i64 m.server, .int .i64 m.number, .int .i64 m.node, .int .i64 m.lease, .int .i64 m.epoch, .int .i64 m.version, .int .i64 m.e, .slice sa sl sc, .int .i64 m.tree.id, .int .i64 m.tree.kind, .string m.tree.text, .slice ka tl cap] 40)).alloc (.cells #[.int .i8 0, .int .i64 0, .int .i64 0, .int .i64 0, .int .i64 0, .int .i64 0, .int .i64 0, .int .i64 0, .int .i64 0, .int .i64 0, .int .i64 0, .slice none 0 0, .int .i64 0, .int .i64 0, .string ⟨#[]⟩, .slice none 0 0] 40)).alloc (.cells #[.slice none 0 0] 86)).alloc (.cells #[.func (.func 50) #[] #[.pointer (some ⟨w.heap.size + 1 + 1, 0, none⟩), .pointer (some ⟨w.heap.size + 1 + 1 + 1, 0, none⟩)]] 87)) := ((((Below.refl _ _).alloc (Nat.le_refl _) _).alloc (by simp) _).alloc (by simp; omega) _).alloc (by rw [k0]; omega) _
  have hM : ((((w.alloc (.cells #[.int .i8 m.kind, .int .i64 m.frm, .int .i64 m.to, .int .i64 m.boot, .int .i64 m.server, .int .i64 m.number, .int .i64 m.node, .int .i64 m.lease, .int .i64 m.epoch, .int .i64 m.version, .int .i64 m.e, .slice sa sl sc, .int .i64 m.tree.id, .int .i64 m.tree.kind, .string m.tree.text, .slice ka tl cap] 40)).alloc (.cells #[.int .i8 0, .int .i64 0, .int .i64 0, .int .i64 0, .int .i64 0, .int .i64 0, .int .i64 0, .int .i64 0, .int .i64 0, .int .i64 0, .int .i64 0, .slice none 0 0, .int .i64 0, .int .i64 0, .string ⟨#[]⟩, .slice none 0 0] 40)).alloc (.cells #[.slice none 0 0] 86)).alloc (.cells #[.func (.func 50) #[] #[.pointer (some ⟨w.heap.size + 1 + 1, 0, none⟩), .pointer (some ⟨w.heap.size + 1 + 1 + 1, 0, none⟩)]] 87)).heap[w.heap.size]? = some (.cells #[.int .i8 m.kind, .int .i64 m.frm, .int .i64 m.to, .int .i64 m.boot, .int .i64 m.server, .int .i64 m.number, .int .i64 m.node, .int .i64 m.lease, .int .i64 m.epoch, .int .i64 m.version, .int .i64 m.e, .slice sa sl sc, .int .i64 m.tree.id, .int .i64 m.tree.kind, .string m.tree.text, .slice ka tl cap] 40 (0, 0)) := by rw [Below.heap_alloc _ _ _ (by simp <;> omega), Below.heap_alloc _ _ _ (by simp <;> omega), heap_alloc2_old]
  have hZ : ((((w.alloc (.cells #[.int .i8 m.kind, .int .i64 m.frm, .int .i64 m.to, .int .i64 m.boot, .int .i64 m.server, .int .i64 m.number, .int .i64 m.node, .int .i64 m.lease, .int .i64 m.epoch, .int .i64 m.version, .int .i64 m.e, .slice sa sl sc, .int .i64 m.tree.id, .int .i64 m.tree.kind, .string m.tree.text, .slice ka tl cap] 40)).alloc (.cells #[.int .i8 0, .int .i64 0, .int .i64 0, .int .i64 0, .int .i64 0, .int .i64 0, .int .i64 0, .int .i64 0, .int .i64 0, .int .i64 0, .int .i64 0, .slice none 0 0, .int .i64 0, .int .i64 0, .string ⟨#[]⟩, .slice none 0 0] 40)).alloc (.cells #[.slice none 0 0] 86)).alloc (.cells #[.func (.func 50) #[] #[.pointer (some ⟨w.heap.size + 1 + 1, 0, none⟩), .pointer (some ⟨w.heap.size + 1 + 1 + 1, 0, none⟩)]] 87)).heap[w.heap.size + 1]? = some (.cells #[.int .i8 0, .int .i64 0, .int .i64 0, .int .i64 0, .int .i64 0, .int .i64 0, .int .i64 0, .int .i64 0, .int .i64 0, .int .i64 0, .int .i64 0, .slice none 0 0, .int .i64 0, .int .i64 0, .string ⟨#[]⟩, .slice none 0 0] 40 (0, 0)) := by rw [Below.heap_alloc _ _ _ (by simp <;> omega), Below.heap_alloc _ _ _ (by simp <;> omega), heap_alloc2_new]
  have hW : ((((w.alloc (.cells #[.int .i8 m.kind, .int .i64 m.frm, .int .i64 m.to, .int .i64 m.boot, .int .i64 m.server, .int .i64 m.number, .int .i64 m.node, .int .i64 m.lease, .int .i64 m.epoch, .int .i64 m.version, .int .i64 m.e, .slice sa sl sc, .int .i64 m.tree.id, .int .i64 m.tree.kind, .string m.tree.text, .slice ka tl cap] 40)).alloc (.cells #[.int .i8 0, .int .i64 0, .int .i64 0, .int .i64 0, .int .i64 0, .int .i64 0, .int .i64 0, .int .i64 0, .int .i64 0, .int .i64 0, .int .i64 0, .slice none 0 0, .int .i64 0, .int .i64 0, .string ⟨#[]⟩, .slice none 0 0] 40)).alloc (.cells #[.slice none 0 0] 86)).alloc (.cells #[.func (.func 50) #[] #[.pointer (some ⟨w.heap.size + 1 + 1, 0, none⟩), .pointer (some ⟨w.heap.size + 1 + 1 + 1, 0, none⟩)]] 87)).heap[w.heap.size + 1 + 1]? = some (.cells #[.slice none 0 0] 86 (0, 0)) := by
    rw [Below.heap_alloc _ _ _ (by rw [k0]; omega)]
    have := heap_alloc_new ((w.alloc (.cells #[.int .i8 m.kind, .int .i64 m.frm, .int .i64 m.to, .int .i64 m.boot, .int .i64 m.server, .int .i64 m.number, .int .i64 m.node, .int .i64 m.lease, .int .i64 m.epoch, .int .i64 m.version, .int .i64 m.e, .slice sa sl sc, .int .i64 m.tree.id, .int .i64 m.tree.kind, .string m.tree.text, .slice ka tl cap] 40)).alloc (.cells #[.int .i8 0, .int .i64 0, .int .i64 0, .int .i64 0, .int .i64 0, .int .i64 0, .int .i64 0, .int .i64 0, .int .i64 0, .int .i64 0, .int .i64 0, .slice none 0 0, .int .i64 0, .int .i64 0, .string ⟨#[]⟩, .slice none 0 0] 40)) (.cells #[.slice none 0 0] 86)
    simpa using this
  have hF : FbAt ((((w.alloc (.cells #[.int .i8 m.kind, .int .i64 m.frm, .int .i64 m.to, .int .i64 m.boot, .int .i64 m.server, .int .i64 m.number, .int .i64 m.node, .int .i64 m.lease, .int .i64 m.epoch, .int .i64 m.version, .int .i64 m.e, .slice sa sl sc, .int .i64 m.tree.id, .int .i64 m.tree.kind, .string m.tree.text, .slice ka tl cap] 40)).alloc (.cells #[.int .i8 0, .int .i64 0, .int .i64 0, .int .i64 0, .int .i64 0, .int .i64 0, .int .i64 0, .int .i64 0, .int .i64 0, .int .i64 0, .int .i64 0, .slice none 0 0, .int .i64 0, .int .i64 0, .string ⟨#[]⟩, .slice none 0 0] 40)).alloc (.cells #[.slice none 0 0] 86)).alloc (.cells #[.func (.func 50) #[] #[.pointer (some ⟨w.heap.size + 1 + 1, 0, none⟩), .pointer (some ⟨w.heap.size + 1 + 1 + 1, 0, none⟩)]] 87)) (w.heap.size + 1 + 1 + 1) (w.heap.size + 1 + 1) := by
    have := heap_alloc_new (((w.alloc (.cells #[.int .i8 m.kind, .int .i64 m.frm, .int .i64 m.to, .int .i64 m.boot, .int .i64 m.server, .int .i64 m.number, .int .i64 m.node, .int .i64 m.lease, .int .i64 m.epoch, .int .i64 m.version, .int .i64 m.e, .slice sa sl sc, .int .i64 m.tree.id, .int .i64 m.tree.kind, .string m.tree.text, .slice ka tl cap] 40)).alloc (.cells #[.int .i8 0, .int .i64 0, .int .i64 0, .int .i64 0, .int .i64 0, .int .i64 0, .int .i64 0, .int .i64 0, .int .i64 0, .int .i64 0, .int .i64 0, .slice none 0 0, .int .i64 0, .int .i64 0, .string ⟨#[]⟩, .slice none 0 0] 40)).alloc (.cells #[.slice none 0 0] 86)) (.cells #[.func (.func 50) #[] #[.pointer (some ⟨w.heap.size + 1 + 1, 0, none⟩), .pointer (some ⟨w.heap.size + 1 + 1 + 1, 0, none⟩)]] 87)
    rw [k0] at this
    exact this
  have hclone := clone_Steps ((((w.alloc (.cells #[.int .i8 m.kind, .int .i64 m.frm, .int .i64 m.to, .int .i64 m.boot, .int .i64 m.server, .int .i64 m.number, .int .i64 m.node, .int .i64 m.lease, .int .i64 m.epoch, .int .i64 m.version, .int .i64 m.e, .slice sa sl sc, .int .i64 m.tree.id, .int .i64 m.tree.kind, .string m.tree.text, .slice ka tl cap] 40)).alloc (.cells #[.int .i8 0, .int .i64 0, .int .i64 0, .int .i64 0, .int .i64 0, .int .i64 0, .int .i64 0, .int .i64 0, .int .i64 0, .int .i64 0, .int .i64 0, .slice none 0 0, .int .i64 0, .int .i64 0, .string ⟨#[]⟩, .slice none 0 0] 40)).alloc (.cells #[.slice none 0 0] 86)).alloc (.cells #[.func (.func 50) #[] #[.pointer (some ⟨w.heap.size + 1 + 1, 0, none⟩), .pointer (some ⟨w.heap.size + 1 + 1 + 1, 0, none⟩)]] 87)) sa sl sc xs (by rw [hsl]; exact x1) x2 (by omega) (fun ad he j u hj => by
    have h1 := x3 ad he j u hj
    have h2 := World.block_lt_of_cell? w _ h1
    exact (World.cell?_of_block (hb4.block _ h2)).trans h1) (fun e => by rw [hsl]; exact x4 e)
  have hstart := fun (w1 : World) (sv : Value) hb1 (hown : w1.ownsRow ((((w.alloc (.cells #[.int .i8 m.kind, .int .i64 m.frm, .int .i64 m.to, .int .i64 m.boot, .int .i64 m.server, .int .i64 m.number, .int .i64 m.node, .int .i64 m.lease, .int .i64 m.epoch, .int .i64 m.version, .int .i64 m.e, .slice sa sl sc, .int .i64 m.tree.id, .int .i64 m.tree.kind, .string m.tree.text, .slice ka tl cap] 40)).alloc (.cells #[.int .i8 0, .int .i64 0, .int .i64 0, .int .i64 0, .int .i64 0, .int .i64 0, .int .i64 0, .int .i64 0, .int .i64 0, .int .i64 0, .int .i64 0, .slice none 0 0, .int .i64 0, .int .i64 0, .string ⟨#[]⟩, .slice none 0 0] 40)).alloc (.cells #[.slice none 0 0] 86)).alloc (.cells #[.func (.func 50) #[] #[.pointer (some ⟨w.heap.size + 1 + 1, 0, none⟩), .pointer (some ⟨w.heap.size + 1 + 1 + 1, 0, none⟩)]] 87)).heap.size 47 9 sv sl xs) => CI.start (V := Vc S w) (W4 := ((((w.alloc (.cells #[.int .i8 m.kind, .int .i64 m.frm, .int .i64 m.to, .int .i64 m.boot, .int .i64 m.server, .int .i64 m.number, .int .i64 m.node, .int .i64 m.lease, .int .i64 m.epoch, .int .i64 m.version, .int .i64 m.e, .slice sa sl sc, .int .i64 m.tree.id, .int .i64 m.tree.kind, .string m.tree.text, .slice ka tl cap] 40)).alloc (.cells #[.int .i8 0, .int .i64 0, .int .i64 0, .int .i64 0, .int .i64 0, .int .i64 0, .int .i64 0, .int .i64 0, .int .i64 0, .int .i64 0, .int .i64 0, .slice none 0 0, .int .i64 0, .int .i64 0, .string ⟨#[]⟩, .slice none 0 0] 40)).alloc (.cells #[.slice none 0 0] 86)).alloc (.cells #[.func (.func 50) #[] #[.pointer (some ⟨w.heap.size + 1 + 1, 0, none⟩), .pointer (some ⟨w.heap.size + 1 + 1 + 1, 0, none⟩)]] 87))) (w1 := w1) (sv := sv) (fun _ h => Or.inl h) (fun _ h => Or.inr h) hS hs ht hb4 k1 (by rw [hMC]; exact hM) hZ rfl hW hF x1 x3 hb1 (by rw [← hsl]; exact hown)
  have HS := Lib.hid (And.intro hclone hstart)
  have HL := Lib.hid (And.intro hsl hsum)
  have hl6 : sl ≤ 1000000 := by omega
  rw [hMC]
  have HSS0 := Lib.hid hS
  clear hS hs ht hsum x1 x2 x3 x4 hsl htl k0 k1 hb4 hM hZ hW hF hclone hstart hMC hl
  have hmf : ∀ (fn : Fn) (first cap : Array Value) (w : World), (Instr.makeFunc fn first cap).run Try.prog w = .ok (.func fn first cap) w := fun _ _ _ _ => rfl
  go_enter Try.func33, Try.ntmps33
  go_wp2_with (go_at_call 52; refine HS.out.1.mono ?_; rintro e w1 ⟨sv, rfl, hb1, hown⟩; obtain ⟨q1, f1, hci⟩ := HS.out.2 w1 sv hb1 hown; rw [← HL.out.1] at q1; obtain ⟨ra, rc, hrv⟩ := owns_slice hown; subst hrv; have HC := Lib.hid hci; have k2 : (w1.setCell ⟨w.heap.size, 11, none⟩ (.slice ra sl rc)).cell? ⟨w.heap.size, 11, none⟩ = some (.slice ra sl rc) := World.cell?_setCell_same' _ _ _ (by rw [q1]; rfl); clear hci hb1 hown)
  clear q1 f1 k2
  generalize hW1 : World.setCell _ _ _ = W1 at HC ⊢
  clear hW1 HS
  go_loopw [16] (fun vi wr => ∃ (j : Nat) (wv : Value) (ps : List Pn), j ≤ sl ∧ vi = .int .i64 j ∧ Hid (CI (Vc S w) w m (.slice ra sl rc) wr wv ps ∧ psum ps ≤ ssum (m.steps.take j))) (fun vi _ => sl - (intOf vi).toNat)
  case atStart => exact ⟨0, _, [], by omega, rfl, Lib.hid ⟨HC.out, by simp [psum]⟩⟩
  case round =>
    clear HC
    obtain ⟨j, wv, ps, hj, rfl, hh⟩ := hrel
    by_cases hlt : j < sl
    · have hji : (j : Int) < (sl : Int) := by omega
      obtain ⟨x, hx⟩ : ∃ x, m.steps[j]? = some x := ⟨m.steps[j]'(by have := HL.out.1; omega), List.getElem?_eq_getElem _⟩
      obtain ⟨g, sc', e, hg4, hpk⟩ := hh.out.1.step hx
      rw [← HL.out.1] at e
      cases e
      have hWb : Below wr.heap.size wr wr.drew := below_drewN (Below.refl _ _) 1
      obtain ⟨W, hW⟩ : ∃ W, W = wr.drew := ⟨_, rfl⟩
      rw [← hW] at hWb
      have hWt : TK (Vc S w) wr wv W wv := TK.below hWb
      have hWf : Fr wr wv W (w.heap.size + 1 + 1) (fun _ => False) := Fr.below hWb
      have hci := hh.out.1
      have hsz := hci.size
      have q1 : W.cell? ⟨w.heap.size, 11, none⟩ = some (.slice (some ⟨g, 0, none⟩) sl rc) := by
        obtain ⟨sa1, sc1, ka1, cap1, b1, _, b3, _⟩ := hci.box
        rw [b1]
        exact (World.cell?_of_block (hWb.block w.heap.size (by omega))).trans (b3 11 _ rfl)
      have hfW : FbAt W (w.heap.size + 1 + 1 + 1) (w.heap.size + 1 + 1) := (hWb.block _ (by omega)).trans hci.fb
      have cW2 : W.cell? ⟨w.heap.size + 1 + 1 + 1, 0, none⟩ = some (.func (.func 50) #[] #[.pointer (some ⟨w.heap.size + 1 + 1, 0, none⟩), .pointer (some ⟨w.heap.size + 1 + 1 + 1, 0, none⟩)]) := by rw [cell_of_row _ _ 0 _ _ _ hfW]; rfl
      have hwW : WaitAt W (w.heap.size + 1 + 1) w.heap.size wv ps := ⟨(hWb.block _ (lt_of_some hci.wait.1)).trans hci.wait.1, owns_kept hci.wait.2 (fun g cur hg _ => hWb.block g (lt_of_some hg))⟩
      have hss := ssum_step hx
      have hcall := own_any (Vc S w) w.heap.size (w.heap.size + 1 + 1) (w.heap.size + 1 + 1 + 1) 100 (by omega) W wv ⟨g, j * 9 + 5, x.sub.kids⟩ ps (fun y hy => Or.inr (by have := hWb.size; omega)) (by have := hWb.size; omega) (hpk.keep hWt hWf) hwW hfW (by
        have h2 := hh.out.2
        have h3 := ssum_take m.steps (j + 1)
        have h4 := HL.out.2
        unfold Msg.sum at h4
        show psum ps + foSize x.sub.kids ≤ 1000000
        omega)
      have hnx := fun (e : Ending) (w' : World) (ho : OwnC (Vc S w) w.heap.size (w.heap.size + 1 + 1) ⟨g, j * 9 + 5, x.sub.kids⟩ ps W wv e w') => hci.next (Or.inl hg4) (own_drew hWb hpk.2.1.1 ho)
      have HX : Hid (Calls Try.prog 50 #[.pointer (some ⟨g, j * 9 + 5, none⟩), .int .i64 100, .pointer (some ⟨w.heap.size + 1 + 1, 0, none⟩), .pointer (some ⟨w.heap.size + 1 + 1 + 1, 0, none⟩)] W (OwnC (Vc S w) w.heap.size (w.heap.size + 1 + 1) ⟨g, j * 9 + 5, x.sub.kids⟩ ps W wv)) := Lib.hid hcall
      have HN := Lib.hid hnx
      have HW := Lib.hid hW
      have HSS := Lib.hid (And.intro hss hh.out.2)
      clear hWb hWt hWf hfW hwW hcall hnx hh hW hci hsz hss hx hpk
      go_wp2_with fail
      have hdr : ({ heap := wr.heap, tape := wr.tape, drawn := wr.drawn + 1, os := wr.os, output := wr.output } : World) = W := HW.out.symm
      refine wp_region_still_tail 6 (by kernel_rfl) (by kernel_rfl) ?_
      simp only [List.take_succ_cons, List.take_zero, List.drop_succ_cons, List.drop_zero]
      rw [hdr]
      clear hdr
      repeat still_step
      try refine wpStill_nil ?_
      go_wp2_with (go_at_call 50; refine HX.out.mono ?_; rintro e w5 ho; obtain rfl := (ho.1); have HO := Lib.hid (HN.out _ _ ho); clear ho)
      obtain ⟨wv', qs', hq1, hq2⟩ := HO.out
      exact ⟨⟨j + 1, wv', ps ++ qs', by omega, by go_num, Lib.hid ⟨hq1, by have h1 := HSS.out; rw [psum_append, h1.1]; have h2 : psum qs' ≤ foSize x.sub.kids := hq2; omega⟩⟩, by simp [intOf]; omega⟩
    · have hji : ¬ (j : Int) < (sl : Int) := by omega
      have hjs : j = sl := by omega
      have hci := hh.out.1
      have hsz := hci.size
      have hps : psum ps ≤ ssum m.steps := by have h1 := hh.out.2; have h2 := ssum_take m.steps j; omega
      have cF : wr.cell? ⟨w.heap.size + 1 + 1 + 1, 0, none⟩ = some (.func (.func 50) #[] #[.pointer (some ⟨w.heap.size + 1 + 1, 0, none⟩), .pointer (some ⟨w.heap.size + 1 + 1 + 1, 0, none⟩)]) := by rw [cell_of_row _ _ 0 _ _ _ hci.fb]; rfl
      have hcall := own_any (Vc S w) w.heap.size (w.heap.size + 1 + 1) (w.heap.size + 1 + 1 + 1) 100 (by omega) wr wv ⟨w.heap.size, 12, m.tree.kids⟩ ps (fun y hy => Or.inr (by omega)) (by omega) hci.root hci.wait hci.fb (by
        have h4 := HL.out.2
        unfold Msg.sum at h4
        show psum ps + foSize m.tree.kids ≤ 1000000
        omega)
      have hnx := fun (e : Ending) (w' : World) ho => hci.next (w' := w') (e := e) (p := ⟨w.heap.size, 12, m.tree.kids⟩) (Or.inr ⟨rfl, rfl⟩) ho
      have HX : Hid (Calls Try.prog 50 #[.pointer (some ⟨w.heap.size, 12, none⟩), .int .i64 100, .pointer (some ⟨w.heap.size + 1 + 1, 0, none⟩), .pointer (some ⟨w.heap.size + 1 + 1 + 1, 0, none⟩)] wr (OwnC (Vc S w) w.heap.size (w.heap.size + 1 + 1) ⟨w.heap.size, 12, m.tree.kids⟩ ps wr wv)) := Lib.hid hcall
      have HN := Lib.hid hnx
      have HPS := Lib.hid hps
      clear hci hsz hps hcall hnx hh hjs hlt
      obtain ⟨wo, rfl⟩ : ∃ wo, wo = wr := ⟨_, rfl⟩
      go_wp2_with (go_at_call 50; refine HX.out.mono ?_; rintro e w5 ho; obtain rfl := (ho.1); have HO := Lib.hid (HN.out _ _ ho); clear ho)
      obtain ⟨wv5, qs5, hq1, hq2⟩ := HO.out
      have HQ : Hid (CI (Vc S w) w m (.slice ra sl rc) w5 wv5 (ps ++ qs5) ∧ psum (ps ++ qs5) ≤ 1000000) := Lib.hid ⟨hq1, by
        have h1 := HPS.out
        have h4 := HL.out.2
        unfold Msg.sum at h4
        have h2 : psum qs5 ≤ foSize m.tree.kids := hq2
        rw [psum_append]; omega⟩
      clear hq1 hq2 HO HN HX HPS cF
      go_loopg [6] (psum (ps ++ qs5)) (fun gk x wr => ∃ (wv : Value) (rs : List Pn), Hid (CI (Vc S w) w m (.slice ra sl rc) wr wv rs ∧ psum rs ≤ 1000000) ∧ gk = psum rs)
      case atStart => exact ⟨wv5, ps ++ qs5, HQ, rfl⟩
      case round =>
        clear HQ
        obtain ⟨wv, rs, hh, hgk⟩ := hrel
        have hci := hh.out.1
        have hsz := hci.size
        obtain ⟨wa, wc, hwv⟩ := owns_slice hci.wait.2
        obtain ⟨n, hn⟩ : ∃ n, n = rs.length := ⟨_, rfl⟩
        rw [← hn] at hwv
        subst hwv
        have cW : wr.cell? ⟨w.heap.size + 1 + 1, 0, none⟩ = some (.slice wa n wc) := by rw [cell_of_row _ _ 0 _ _ _ hci.wait.1]; rfl
        have fW : wr.frozen? ⟨w.heap.size + 1 + 1, 0, none⟩ = false := frozen_of_row _ _ _ _ _ hci.wait.1
        have hn6 : n ≤ 1000000 := by have h1 := psum_length rs; have h2 := hh.out.2; omega
        have HG := Lib.hid (And.intro hgk hn)
        clear hgk
        rcases Nat.eq_zero_or_pos n with h0 | h0
        · subst h0
          have hrs : rs = [] := List.eq_nil_of_length_eq_zero hn.symm
          obtain ⟨sa', sc', ka', cap', hmt, hfr, hst, hin, hbl⟩ := hci.box_there HSS0.out
          have m1 := hmt.1
          have m2 := hmt.2
          obtain ⟨cs, hcs⟩ : ∃ cs, cs = msgCells m sa' sc' ka' cap' := ⟨_, rfl⟩
          have h16 : cs.length = 16 := by rw [hcs]; rfl
          have h1c : ∀ u ∈ cs, u.oneCell' = true := by rw [hcs]; exact msgCells_one m sa' sc' ka' cap'
          have hmsg := isMsg_agg h16 h1c
          rw [← hcs] at m2 hst hin hbl
          have HE : Hid ((wr.setCells (w.heap.size + 1) 0 cs).heap[w.heap.size + 1]? = some (.cells cs.toArray 40 (0, 0)) ∧ CopiedC (SameR S m) w (.returned (.agg cs.toArray)) (wr.setCells (w.heap.size + 1) 0 cs)) := Lib.hid ⟨hst, cs, rfl, h16, h1c, ⟨sa', sc', ka', cap', hcs, hin⟩, hbl⟩
          have HI16 := Lib.hid h16
          clear hci hsz hn hrs hmt hst hin hbl hcs h1c hh h16
          go_wp2_with fail
          have hE := HE.out
          generalize World.setCells _ _ _ _ = W5 at hE ⊢
          refine bodyPost_ret (results_cell_row rfl _ _ (w.heap.size + 1) 40 _ (0, 0) _ rfl hE.1 Try.underlying40 rfl (by rw [List.size_toArray, HI16.out]; kernel_rfl)) rfl ?_
          exact hE.2
        · obtain ⟨k, hk⟩ : ∃ k, n = k + 1 := ⟨n - 1, by omega⟩
          have hrs : ∃ rs0 q, rs = rs0 ++ [q] := ⟨rs.dropLast, rs.getLast (by intro e; rw [e] at hn; simp at hn; omega), (List.dropLast_concat_getLast _).symm⟩
          obtain ⟨rs0, q, rfl⟩ := hrs
          have hk0 : k = rs0.length := by rw [List.length_append] at hn; simp at hn; omega
          obtain ⟨g, cap2, e, _⟩ := (show wr.ownsRow w.heap.size 88 1 (.slice wa n wc) n ((rs0 ++ [q]).map pptr) from by have := hci.wait.2; rwa [← hn] at this).form (by omega)
          cases e
          subst hk
          obtain ⟨hci2, hpk⟩ := hci.pop hk0
          have hgc : wr.cell? ⟨g, k, none⟩ = some (pptr q) := by
            have := hci.wait.2
            refine owns_cell this rfl k _ ?_
            rw [List.map_append, List.getElem?_append_right (by simp; omega)]
            simp [hk0]
          have cF : (wr.setCell ⟨w.heap.size + 1 + 1, 0, none⟩ (.slice (some ⟨g, 0, none⟩) k wc)).cell? ⟨w.heap.size + 1 + 1 + 1, 0, none⟩ = some (.func (.func 50) #[] #[.pointer (some ⟨w.heap.size + 1 + 1, 0, none⟩), .pointer (some ⟨w.heap.size + 1 + 1 + 1, 0, none⟩)]) := by rw [cell_of_row _ _ 0 _ _ _ hci2.fb]; rfl
          have hps := hh.out.2
          rw [psum_append] at hps
          have hpq : psum [q] = foSize q.f + 1 := by simp [psum]
          have hsz2 := hci2.size
          have hq4 := (hci.pend q (by simp)).2
          have hcall := own_any (Vc S w) w.heap.size (w.heap.size + 1 + 1) (w.heap.size + 1 + 1 + 1) 100 (by omega) _ _ q rs0 (fun y hy => Or.inr (by omega)) (by omega) hpk hci2.wait hci2.fb (by omega)
          have hnx := fun (e : Ending) (w' : World) ho => hci2.next (w' := w') (e := e) (p := q) (Or.inl hq4) ho
          have HX := Lib.hid hcall
          have HN := Lib.hid hnx
          have HP := Lib.hid (And.intro hps hpq)
          simp only [pptr] at hgc HX
          have hwc : k + 1 ≤ wc := by
            have h1 := hci.wait.2
            rcases h1.2 with ⟨h', _⟩ | ⟨g', cap', cur, h', hb, hg, hnc, _⟩
            · simp at h'
            · simp only [Value.slice.injEq, Option.some.injEq, Addr.mk.injEq, and_true] at h'
              rw [List.length_append] at hnc
              simp at hnc
              omega
          have hkw : k ≤ wc := by omega
          have HK0 := Lib.hid hk0
          clear hci hsz hn hci2 hpk hps hpq hsz2 hq4 hcall hnx hh hk0 h0
          go_wp2_with (go_at_call 50; refine HX.out.mono ?_; rintro e w6 ho; obtain rfl := (ho.1); have HO := Lib.hid (HN.out _ _ ho); clear ho)
          obtain ⟨wv', qs', hq1, hq2⟩ := HO.out
          have hlow : psum (rs0 ++ qs') < gk := by
            have h1 := HG.out.1
            have h2 := HP.out.2
            rw [h1, psum_append, psum_append]
            omega
          have hlow2 : psum (rs0 ++ qs') ≤ 1000000 := by
            have h1 := HP.out.1
            have h2 := HP.out.2
            rw [psum_append]
            omega
          go_roundg (psum (rs0 ++ qs'))
          case measure => exact hlow
          case rel => exact ⟨wv', rs0 ++ qs', Lib.hid ⟨hq1, hlow2⟩, rfl⟩

end Go.Proofs.Ytklpafognbodhaa
