/-
  What the program's Pair, Of and Is are to answer of rows of few and small steps.
-/
import Derived.Test.YtpbjncljecfaeaaNGreatQa
import Derived.Test.YtpbjncljecfaeaaNTextQa
import Derived.Test.YtpbjncljecfaeaaNOfWQa
import Derived.Test.YtpbjncljecfaeaaNIsWQa
import Derived.Test.YtpbjncljecfaeaaNPairWQa
namespace Go.Proofs.Ytpbjncljecfaeaa
open Go.RowKit Go.Shelf
set_option linter.unusedVariables false

def OfFn : Prop := ∀ (w : World) (la : Option Addr) (n c : Nat) (vs : List SV), RowS w la n c vs → SmallN vs → (∀ x ∈ vs, Wf64 x.s) → Calls Try.prog 11 #[.slice la n c] w (OfC (ofK n (steps vs)) w)
def IsFn : Prop := ∀ (w : World) (la : Option Addr) (n c : Nat) (vs : List SV), RowS w la n c vs → SmallN vs → (∀ x ∈ vs, Wf64 x.s) → Calls Try.prog 13 #[.slice la n c] w (IsC (steps vs) w)
def PairFn : Prop := ∀ {X0 X1 w : World} (x y : Sf) (aa ba : Option Addr) (n ac m bc : Nat), LiesI X0 x.sub.kids aa ac → LiesI X1 y.sub.kids ba bc → Below X0.heap.size X0 w → Below X1.heap.size X1 w → foSize x.sub.kids + 1 ≤ 200 → foSize y.sub.kids + 1 ≤ 200 → Wf64 x → Wf64 y → n = foLen x.sub.kids → m = foLen y.sub.kids →
    Calls Try.prog 8 #[.agg #[.int .i8 x.op, .int .i64 x.id, .int .i64 x.par, .int .i64 x.at_, .string x.tx, .int .i64 x.sub.id, .int .i64 x.sub.kind, .string x.sub.text, .slice aa n ac], .agg #[.int .i8 y.op, .int .i64 y.id, .int .i64 y.par, .int .i64 y.at_, .string y.tx, .int .i64 y.sub.id, .int .i64 y.sub.kind, .string y.sub.text, .slice ba m bc]] w (PairP (pairK x y) w)
theorem ofFn : OfFn := fun w la n c vs h hs hw => ofW_any w la n c vs h (by rw [h.len]; have := hs.1; omega) (fun x hx => by have := hs.2 x hx; omega) hw
theorem isFn : IsFn := fun w la n c vs h hs hw => isW_any w la n c vs h (by rw [h.len]; have := hs.1; omega) (fun x hx => by have := hs.2 x hx; omega) hw
theorem pairFn : PairFn := fun x y aa ba n ac m bc h0 h1 b0 b1 hx hy wx wy hn hm => pairP_any x y aa ba n ac m bc h0 h1 b0 b1 (by omega) (by omega) wx wy hn hm
theorem pairK_wf {a b : Sf} (ha : Wf64 a) (hb : Wf64 b) : ∀ s ∈ (pairK a b).1, Wf64 s := by
  unfold pairK
  intro s hs
  split at hs
  · simp at hs; rw [hs]; exact hb
  · split at hs
    · simp at hs
    · split at hs
      · simp at hs; rw [hs]; exact ⟨by simp only; rw [(wiT_root _ _ _).1]; exact wiF_ok _ _ _ ha.1, ha.2⟩
      · simp at hs
theorem onceK_wf : ∀ {l : List Sf}, (∀ s ∈ l, Wf64 s) → ∀ s ∈ (onceK l).1, Wf64 s
  | [], h => h
  | [a], h => h
  | a :: b :: r, h => fun s hs => by
    rw [onceK] at hs
    split at hs
    · rcases List.mem_append.1 hs with h1 | h1
      · exact pairK_wf (h a (by simp)) (h b (by simp)) s h1
      · exact h s (by simp [h1])
    · rcases List.mem_cons.1 hs with rfl | h1
      · exact h s (by simp)
      · exact onceK_wf (fun t ht => h t (List.mem_cons_of_mem _ ht)) s h1
theorem ofK_wf : ∀ (n : Nat) {l : List Sf}, (∀ s ∈ l, Wf64 s) → ∀ s ∈ ofK n l, Wf64 s
  | 0, l, h => h
  | n + 1, l, h => by
    rw [ofK]
    split
    · exact ofK_wf n (onceK_wf h)
    · exact h
theorem wf_row {vs fs : List SV} {n : Nat} (h : ∀ x ∈ vs, Wf64 x.s) (hs : steps fs = ofK n (steps vs)) : ∀ x ∈ fs, Wf64 x.s := fun x hx =>
  ofK_wf n (l := steps vs) (fun s hs => by obtain ⟨y, hy, rfl⟩ := List.mem_map.1 hs; exact h y hy) x.s (by rw [← hs]; exact List.mem_map_of_mem hx)
/-- A row of steps without kids, laid in one block. -/
theorem lit_row {w : World} {l : List SV} {b : Nat} (hb : w.heap[b]? = some (.cells (cells9 l).toArray 27 (0, 0))) (hl : ∀ x ∈ l, x.s.sub.kids = .nil) (hn : l.length ≤ 60) : RowS w (some ⟨b, 0, none⟩) l.length l.length l ∧ SmallN l :=
  ⟨⟨⟨fun k x hx => ⟨b, 0, rfl, lt_of_heap hb, fun j u hj => by rw [cell_of_row _ _ _ _ _ _ hb, Nat.zero_add]; simpa using cells9_mk hx hj⟩, fun x hx => by unfold LiesI; rw [hl x hx]; exact ⟨Nat.zero_le _, True.intro⟩, fun x hx => by rw [hl x hx]; decide, by omega⟩, rfl, Nat.le_refl _, fun h => by cases h⟩, hn, fun x hx => by rw [hl x hx]; decide⟩
def txV (id : Int) (tx : ByteArray) : SV := ⟨textS id tx, none, 0⟩
def insV : SV := ⟨⟨1, 0, 1, 0, ⟨#[]⟩, ⟨5, 0, ⟨#[]⟩, .nil⟩⟩, none, 0⟩
def delV : SV := ⟨⟨2, 5, 0, 0, ⟨#[]⟩, ⟨0, 0, ⟨#[]⟩, .nil⟩⟩, none, 0⟩
theorem wk_of1 : ofK 3 (steps [txV 2 ⟨#[97]⟩, txV 2 ⟨#[98]⟩, txV 3 ⟨#[99]⟩]) = [textS 2 ⟨#[98]⟩, textS 3 ⟨#[99]⟩] := by kernel_rfl
theorem wk_of2 : ofK 4 (steps [insV, txV 5 ⟨#[97]⟩, txV 5 ⟨#[98]⟩, delV]) = [] := by kernel_rfl
theorem wk_is1 : (onceK [textS 2 ⟨#[98]⟩, textS 3 ⟨#[99]⟩]).2 = false := by kernel_rfl
theorem wk_is2 : (onceK (steps [txV 2 ⟨#[97]⟩, txV 2 ⟨#[98]⟩])).2 = true := by kernel_rfl
theorem two_of {vs : List SV} {s t : Sf} (h : steps vs = [s, t]) : ∃ x y, vs = [x, y] ∧ x.s = s ∧ y.s = t := by
  match vs, h with
  | [x, y], h =>
    simp [steps] at h
    exact ⟨x, y, rfl, h.1, h.2⟩
end Go.Proofs.Ytpbjncljecfaeaa
