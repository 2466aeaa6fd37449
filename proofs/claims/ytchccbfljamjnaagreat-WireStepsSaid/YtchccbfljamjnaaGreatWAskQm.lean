/-
  .
-/
import Derived.Test.YtchccbfljamjnaaGreatCNumQm
import Derived.Below
import Derived.Defers
import Derived.Recover
import Derived.WalkLawsBesides
import Derived.Test.YtchccbfljamjnaaGreatJPgQm
set_option maxRecDepth 100000
set_option maxHeartbeats 40000000
namespace Go.Proofs.YtchccbfljamjnaaGreat
open Go.RowKit
set_option linter.unusedVariables false
set_option linter.unusedSimpArgs false
def qV : List PanicEntry := [{ v := .iface 142 (.agg #[]), recovered := false }]
def zL (b : Bool) (w : World) (e : Ending) (w' : World) : Prop := e = (if b then .returned (.tuple #[]) else .panicked qV) ∧ Below w.heap.size w w'
theorem zL.yes {b : Bool} {w w' : World} (h : b = true) (hb : Below w.heap.size w w') : zL b w (.returned (.tuple #[])) w' := ⟨by rw [h]; rfl, hb⟩
theorem zL.no {b : Bool} {w w' : World} (h : b = false) (hb : Below w.heap.size w w') : zL b w (.panicked qV) w' := ⟨by rw [h]; rfl, hb⟩
theorem zL.t {w w' : World} {e : Ending} (h : zL true w e w') : e = .returned (.tuple #[]) ∧ Below w.heap.size w w' := h
theorem zL.f {w w' : World} {e : Ending} (h : zL false w e w') : e = .panicked qV ∧ Below w.heap.size w w' := ⟨h.1.trans (if_neg (by decide)), h.2⟩
theorem zP (w : World) (b : Bool) : Calls Tryz.prog 54 #[.bool b] w (zL b w) := by
 cases b
 · go_enter Tryz.func54, Tryz.ntmps54
   go_wp2_with fail
   exact ⟨rfl, rfl, Below.refl _ _⟩
 · go_enter Tryz.func54, Tryz.ntmps54
   go_wp2_with fail
   go_end0
   exact ⟨rfl, Below.refl _ _⟩
def zu (lo hi n : Int) : Bool := decide (lo ≤ n) && decide (n ≤ hi)
theorem zB (w : World) (n lo hi : Int) : Calls Tryz.prog 110 #[.int .i64 n, .int .i64 lo, .int .i64 hi] w (zL (zu lo hi n) w) := by
 by_cases h1 : lo ≤ n
 · by_cases h2 : n ≤ hi
   · have hb : zu lo hi n = true := by unfold zu; rw [decide_eq_true h1, decide_eq_true h2]; rfl
     have HA := hH (zP w true)
     have HB := hH hb
     clear hb
     go_enter Tryz.func110, Tryz.ntmps110
     go_wp2_with fail
     refine HA.out.mono ?_
     intro e w' hq; obtain ⟨rfl, hb'⟩ := hq.t
     have HB' := hH hb'
     clear hb'
     go_wp2_with fail
     go_end0
     exact zL.yes HB.out HB'.out
   · have hb : zu lo hi n = false := by unfold zu; rw [decide_eq_false h2, Bool.and_false]
     have HA := hH (zP w false)
     have HB := hH hb
     clear hb
     go_enter Tryz.func110, Tryz.ntmps110
     go_wp2_with fail
     refine HA.out.mono ?_
     intro e w' hq; obtain ⟨rfl, hb'⟩ := hq.f
     exact ⟨rfl, zL.no HB.out hb'⟩
 · have hb : zu lo hi n = false := by unfold zu; rw [decide_eq_false h1, Bool.false_and]
   have HA := hH (zP w false)
   have HB := hH hb
   clear hb
   go_enter Tryz.func110, Tryz.ntmps110
   go_wp2_with fail
   refine HA.out.mono ?_
   intro e w' hq; obtain ⟨rfl, hb'⟩ := hq.f
   exact ⟨rfl, zL.no HB.out hb'⟩
theorem jb (w : World) (s : ByteArray) : Calls Tryz.prog 111 #[.string s] w (zL (decide (s.size ≤ 40)) w) := by
 by_cases h1 : s.size ≤ 40
 · have h2 : (s.size : Int) ≤ 40 := by omega
   have HA := hH (zP w true)
   have HB := hH (show decide (s.size ≤ 40) = true from decide_eq_true h1)
   clear h1
   go_enter Tryz.func111, Tryz.ntmps111
   go_wp2_with fail
   refine HA.out.mono ?_
   intro e w' hq; obtain ⟨rfl, hb'⟩ := hq.t
   have HB' := hH hb'
   clear hb'
   go_wp2_with fail
   go_end0
   exact zL.yes HB.out HB'.out
 · have h2 : ¬ (s.size : Int) ≤ 40 := by omega
   have HA := hH (zP w false)
   have HB := hH (show decide (s.size ≤ 40) = false from decide_eq_false h1)
   clear h1
   go_enter Tryz.func111, Tryz.ntmps111
   go_wp2_with fail
   refine HA.out.mono ?_
   intro e w' hq; obtain ⟨rfl, hb'⟩ := hq.f
   exact ⟨rfl, zL.no HB.out hb'⟩
theorem yB (w : World) (k : Int) : Calls Tryz.prog 142 #[.int .i8 k] w fun e w' => e = .returned (.bool (decide (k = 2 ∨ k = 5 ∨ k = 9))) ∧ w' = w := by
 by_cases h2 : k = 2
 · subst h2
   go_enter Tryz.func142, Tryz.ntmps142
   go_wp2_with fail
   go_ret
   exact ⟨rfl, rfl⟩
 by_cases h5 : k = 5
 · subst h5
   go_enter Tryz.func142, Tryz.ntmps142
   go_wp2_with fail
   go_ret
   exact ⟨rfl, rfl⟩
 by_cases h9 : k = 9
 · subst h9
   go_enter Tryz.func142, Tryz.ntmps142
   go_wp2_with fail
   go_ret
   exact ⟨rfl, rfl⟩
 have HB := hH (show decide (k = 2 ∨ k = 5 ∨ k = 9) = false from decide_eq_false (by omega))
 have b2 : (k == 2) = false := by simpa using h2
 have b5 : (k == 5) = false := by simpa using h5
 have b9 : (k == 9) = false := by simpa using h9
 clear h2 h5 h9
 go_enter Tryz.func142, Tryz.ntmps142
 go_wp2_with fail
 go_ret
 exact ⟨by rw [HB.out]; rfl, rfl⟩
theorem jO (w : World) (k : Int) : Calls Tryz.prog 55 #[.int .i8 k] w fun e w' => e = .returned (.bool (zu 1 10 k)) ∧ w' = w := by
 by_cases h1 : 1 ≤ k
 · by_cases h2 : k ≤ 10
   · have HB := hH (show zu 1 10 k = true by unfold zu; rw [decide_eq_true h1, decide_eq_true h2]; rfl)
     go_enter Tryz.func55, Tryz.ntmps55
     go_wp2_with fail
     go_ret
     exact ⟨by rw [HB.out]; rfl, rfl⟩
   · have HB := hH (show zu 1 10 k = false by unfold zu; rw [decide_eq_false h2, Bool.and_false])
     go_enter Tryz.func55, Tryz.ntmps55
     go_wp2_with fail
     go_ret
     exact ⟨by rw [HB.out]; rfl, rfl⟩
 · have HB := hH (show zu 1 10 k = false by unfold zu; rw [decide_eq_false h1, Bool.false_and])
   go_enter Tryz.func55, Tryz.ntmps55
   go_wp2_with fail
   go_ret
   exact ⟨by rw [HB.out]; rfl, rfl⟩
theorem zah (w : World) : (binOp .eql 20 .nilIface .nilIface).run Tryz.prog w = .ok (.bool true) w := by kernel_rfl
theorem zai (w : World) : (binOp .eql 20 (.iface 142 (.agg #[])) .nilIface).run Tryz.prog w = .ok (.bool false) w := by kernel_rfl
theorem Yw (w : World) : (Instr.typeAssert .nilIface 20 142 true).run Tryz.prog w = .ok (.tuple #[.agg #[], .bool false]) w := by kernel_rfl
theorem Yx (w : World) : (Instr.typeAssert (.iface 142 (.agg #[])) 20 142 true).run Tryz.prog w = .ok (.tuple #[.agg #[], .bool true]) w := by kernel_rfl
theorem ZX (w : World) :
 CallsD Tryz.prog 104 #[] .returning w fun e u' w' => e = .returned (.tuple #[]) ∧ u' = .returning ∧ w' = w := by
 have h1 := zah
 have h2 := Yw
 refine callsD_of_wpS Tryz.func104 rfl fun c₀ cs hu => ?_
 apply wpS_seq
 apply wpS_region
 simp [wpOpsS, go_sem, recoverD, hu, Tryz.ntmps104, Exit.thenS]
 refine wpS_of_wp ?_
 go_wp2_with fail
 cases c₀
 simp_all [bodyPostS, results, Tryz.results104]
theorem ZW (w : World) :
 CallsD Tryz.prog 104 #[] (.panicking qV) w fun e u' w' => e = .returned (.tuple #[]) ∧ u' = .panicking [{ v := .iface 142 (.agg #[]), recovered := true }] ∧ w' = w := by
 have h1 := zai
 have h2 := Yx
 refine callsD_of_wpS Tryz.func104 rfl fun c₀ cs hu => ?_
 unfold qV at hu
 apply wpS_seq
 apply wpS_region
 simp [wpOpsS, go_sem, recoverD, hu, Tryz.ntmps104, Exit.thenS]
 refine wpS_of_wp ?_
 go_wp2_with fail
 simp_all [bodyPostS, results, Tryz.results104]
theorem Zg (w : World) (F : FuncId) (q : Addr) (b : Bool) (R : World → Prop) (henter : ∀ (args : Array Value) (w : World), (callFunc F args).run Tryz.prog w = .ok (.enter F args) w)
 (hk : Calls Tryz.prog F #[.pointer (some q)] w fun e w' => e = (if b then .returned (.tuple #[]) else .panicked qV) ∧ R w') :
 Calls Tryz.prog 52 #[.func (.func F) #[] #[.pointer (some q)]] w fun e w' => e = .returned (.bool b) ∧ R w' := by
 have hmf : ∀ (fn : Fn) (first cap : Array Value) (w : World), (Instr.makeFunc fn first cap).run Tryz.prog w = .ok (.func fn first cap) w := fun _ _ _ _ => rfl
 cases b
 · have HK := hH hk
   clear hk
   go_enter_defers Tryz.func52, Tryz.ntmps52
   go_wp2_with fail
   refine HK.out.mono ?_
   rintro e w1 ⟨he, h1⟩
   rw [if_neg (by decide)] at he
   subst he
   have H1 := hH h1
   clear h1
   refine leaves_cons (f := 104) (args := #[]) (by simp) (by simp [go_sem]) ?_
   refine (ZW _).mono ?_
   rintro e u' w'' ⟨rfl, rfl, rfl⟩
   simp [Leaves, settle, results, Tryz.results52, go_sem]
   exact H1.out
 · have HK := hH hk
   clear hk
   go_enter_defers Tryz.func52, Tryz.ntmps52
   go_wp2_with fail
   refine HK.out.mono ?_
   rintro e w1 ⟨he, h1⟩
   replace he := he.trans (if_pos trivial)
   subst he
   have H1 := hH h1
   clear h1
   go_wp2_with fail
   refine leaves_cons (f := 104) (args := #[]) (by simp) (by simp [go_sem]) ?_
   refine (ZX _).mono ?_
   rintro e u' w'' ⟨rfl, rfl, rfl⟩
   simp [Leaves, settle, results, Tryz.results52, go_sem]
   exact H1.out
end Go.Proofs.YtchccbfljamjnaaGreat
