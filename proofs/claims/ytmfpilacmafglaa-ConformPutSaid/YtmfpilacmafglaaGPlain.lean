/-
  Which grammars may be, which rows fit: plain definitions and laws. No condition.
-/
import Derived.Test.YtmfpilacmafglaaGGreat
namespace Go.Proofs.Ytmfpilacmafglaa

/-- Rising from above a, all below n. -/
def rise (n : Int) : Int → List Int → Bool
  | _, [] => true
  | a, x :: r => decide (a < x) && decide (x < n) && rise n x r
theorem rise_len (n : Int) : ∀ (l : List Int) (a : Int), rise n a l = true → l = [] ∨ (l.length : Int) + a < n
  | [], _, _ => Or.inl rfl
  | x :: r, a, h => by
    simp only [rise, Bool.and_eq_true, decide_eq_true_eq] at h
    right
    rcases rise_len n r x h.2 with h1 | h1
    · subst h1; simp; omega
    · simp only [List.length_cons]; omega
theorem rise_step {n a : Int} {l : List Int} {k : Nat} {x : Int} {r : Bool} (hr : r = rise n a (l.drop k)) (h : l[k]? = some x) : r = (decide (a < x) && decide (x < n) && rise n x (l.drop (k + 1))) := by rw [hr, drop_cons h]; rfl
theorem rise_end {n a : Int} {l : List Int} {k : Nat} {r : Bool} (hr : r = rise n a (l.drop k)) (h : l.length ≤ k) : r = true := by rw [hr, List.drop_eq_nil_of_le h]; rfl

def slotRest (s : Sl) : Bool := decide (0 < s.kinds.length) && decide (0 ≤ s.least) && decide (s.least ≤ s.most) && decide (s.most ≤ 1000)
def slotOk (n : Int) (s : Sl) : Bool := rise n (-1) s.kinds && slotRest s
def kindRest (k : Kd) : Bool := decide (1 ≤ k.name.size) && decide (k.name.size ≤ 40) && decide (k.slots.length ≤ 8)
def kindOk (n : Int) (k : Kd) : Bool := kindRest k && k.slots.all (slotOk n)
/-- No two have one name. -/
def fresh (l : List Kd) (s : List UInt8) : Bool := l.all fun k => decide (k.name.data.toList ≠ s)
def apart : List Kd → Bool
  | [] => true
  | k :: r => fresh r k.name.data.toList && apart r
def grRest (g : Gr) : Bool := decide (g.kinds.length ≤ 32) && decide (0 ≤ g.root) && decide (g.root < (g.kinds.length : Int))
def grOk (g : Gr) : Bool := grRest g && g.kinds.all (kindOk g.kinds.length) && apart g.kinds

theorem all_step {α : Type} {f : α → Bool} {l : List α} {k : Nat} {x : α} {r : Bool} (hr : r = (l.drop k).all f) (h : l[k]? = some x) : r = (f x && (l.drop (k + 1)).all f) := by rw [hr, drop_cons h]; rfl
theorem all_end {α : Type} {f : α → Bool} {l : List α} {k : Nat} {r : Bool} (hr : r = (l.drop k).all f) (h : l.length ≤ k) : r = true := by rw [hr, List.drop_eq_nil_of_le h]; rfl
theorem fresh_snoc (l : List Kd) (k : Kd) (s : List UInt8) : fresh (l ++ [k]) s = (fresh l s && decide (k.name.data.toList ≠ s)) := by simp [fresh]
theorem apart_snoc : ∀ (l : List Kd) (k : Kd), apart (l ++ [k]) = (apart l && fresh l k.name.data.toList)
  | [], k => by simp [apart, fresh]
  | x :: r, k => by
    rw [List.cons_append, apart, apart, apart_snoc r k, fresh_snoc]
    have e : decide (k.name.data.toList ≠ x.name.data.toList) = decide (x.name.data.toList ≠ k.name.data.toList) := by
      congr 1; simp only [ne_eq, eq_iff_iff]; exact ⟨fun h e => h e.symm, fun h e => h e.symm⟩
    rw [e]
    simp only [fresh, List.all_cons]
    cases List.all r _ <;> cases apart r <;> cases decide (x.name.data.toList ≠ k.name.data.toList) <;> simp
theorem take_snoc {α : Type} {l : List α} {k : Nat} {x : α} (h : l[k]? = some x) : l.take (k + 1) = l.take k ++ [x] := by
  rw [List.take_add_one, h]; rfl
theorem fresh_at {l : List Kd} {s : List UInt8} {k : Nat} {x : Kd} (h : fresh l s = true) (hx : l[k]? = some x) : x.name.data.toList ≠ s := by
  have := List.all_eq_true.1 h x (List.mem_of_getElem? hx)
  simpa using this
theorem fresh_take {l : List Kd} {s : List UInt8} {k : Nat} {x : Kd} (hx : l[k]? = some x) : fresh (l.take (k + 1)) s = (fresh (l.take k) s && decide (x.name.data.toList ≠ s)) := by rw [take_snoc hx, fresh_snoc]
theorem apart_take {l : List Kd} {k : Nat} {x : Kd} (hx : l[k]? = some x) : apart (l.take (k + 1)) = (apart (l.take k) && fresh (l.take k) x.name.data.toList) := by rw [take_snoc hx, apart_snoc]

/-- Where that name stands. -/
def findN (l : List Kd) (s : List UInt8) : Option Nat := l.findIdx? fun k => decide (k.name.data.toList = s)
end Go.Proofs.Ytmfpilacmafglaa
