/-
  .
-/
import Derived.Test.YtchccbfljamjnaaGreatCToldQm
import Derived.Test.YtchccbfljamjnaaGreatCCloneQm
import Derived.Laws.IdiomStrings
import Derived.Test.YtchccbfljamjnaaGreatJPgQm
set_option maxRecDepth 100000
set_option maxHeartbeats 40000000

namespace Go.Proofs.YtchccbfljamjnaaGreat
open Go.RowKit
open Extern.Stop (cell)
def Zc (R : Value → World → Prop) (e : Ending) (w' : World) : Prop := ∃ v, e = .returned v ∧ R v w'
theorem Zw (w : World) (r : Value) (R : Value → World → Prop) (h : Calls Tryz.prog 273 #[r, .func (.func 274) #[r] #[]] w (Zc R)) : Calls Tryz.prog 269 #[r] w (Zc R) := by
 have hmf : ∀ (fn : Fn) (first cap : Array Value) (w : World), (Instr.makeFunc fn first cap).run Tryz.prog w = .ok (.func fn first cap) w := fun _ _ _ _ => rfl
 have H := hH h
 clear h
 go_enter Tryz.func269, Tryz.ntmps269
 go_wp2_with (go_at_call 273; refine H.out.mono ?_; clear H; rintro e w1 ⟨v, rfl, h1⟩; have H1 := hH h1; clear h1)
 go_ret
 exact ⟨_, rfl, H1.out⟩
theorem Yu (w : World) (r : Value) (R : Value → World → Prop) (h : Calls Tryz.prog 121 #[r, .func (.func 122) #[r] #[]] w (Zc R)) : Calls Tryz.prog 78 #[r] w (Zc R) := by
 have hmf : ∀ (fn : Fn) (first cap : Array Value) (w : World), (Instr.makeFunc fn first cap).run Tryz.prog w = .ok (.func fn first cap) w := fun _ _ _ _ => rfl
 have H := hH h
 clear h
 go_enter Tryz.func78, Tryz.ntmps78
 go_wp2_with (go_at_call 121; refine H.out.mono ?_; clear H; rintro e w1 ⟨v, rfl, h1⟩; have H1 := hH h1; clear h1)
 go_ret
 exact ⟨_, rfl, H1.out⟩
def Rd.number (s : Rd) : Int × Rd :=
 if s.bad then (0, s) else if s.pos + 8 ≤ s.data.length then (s.num, { s with pos := s.pos + 8 }) else (0, { s with pos := s.data.length, bad := true })
theorem Yn {f : FuncId} {args : Array Value} {w : World} {z : Value} {b : Nat} {dv : Value} {s : Rd} (h : Calls Tryz.prog f args w (jF z w b dv s)) : Calls Tryz.prog f args w (Zc fun v w' => v = z ∧ zH w' b dv s ∧ za w w' (fun k => k = b)) := h.mono fun _ _ ⟨h1, h2⟩ => ⟨z, h1, rfl, h2⟩
theorem Yq (w : World) (b : Nat) (dv : Value) (s : Rd) (h : zH w b dv s) : Calls Tryz.prog 269 #[.pointer (some ⟨b, 0, none⟩)] w (Zc fun v w' => v = .int .i64 s.number.1 ∧ zH w' b dv s.number.2 ∧ za w w' (fun k => k = b)) := by
 apply Zw
 cases hb : s.bad with
 | true =>
   have e : s.number = (0, s) := by simp [Rd.number, hb]
   rw [e]
   exact Yn (Zr w b dv s h hb _)
 | false =>
   by_cases hp : s.pos + 8 ≤ s.data.length
   · have e : s.number = (s.num, { s with pos := s.pos + 8 }) := by simp [Rd.number, hb, hp]
     rw [e]
     exact Yi w b dv s { s with pos := s.pos + 8 } h hb hb (fun v _ => v = .int .i64 s.num) ((QT _ b dv s (h.alloc _) hp).mono fun _ _ ⟨h1, h2, h3⟩ => ⟨_, h1, rfl, h2, h3⟩)
   · have e : s.number = (0, { s with pos := s.data.length, bad := true }) := by simp [Rd.number, hb, hp]
     rw [e]
     exact Yn (kH w b dv s h hb s.data.length (YR _ b dv s (h.alloc _) (by omega)))
def Rd.ZH (s : Rd) : Value := if s.bad ∨ s.pos < s.data.length then .tuple #[.int .i64 s.pos, .int .i64 30] else .tuple #[.int .i64 0, .int .i64 0]
theorem J9 (w : World) (b : Nat) (dv : Value) (s : Rd) (h : zH w b dv s) : Calls Tryz.prog 79 #[.pointer (some ⟨b, 0, none⟩)] w (Zc fun v w' => v = s.ZH ∧ zH w' b dv s ∧ za w w' (fun _ => False)) := by
 obtain ⟨c0, c1, c2, f⟩ := h.cells
 obtain ⟨a, cap, hdv⟩ : ∃ a cap, dv = .slice a s.data.length cap := Qi h.owns
 have hfit := h.fits
 have hfew := h.few
 have H := hH h
 subst hdv
 clear h
 cases hb : s.bad with
 | true =>
   have e : s.ZH = .tuple #[.int .i64 s.pos, .int .i64 30] := by simp [Rd.ZH, hb]
   rw [e]
   rw [hb] at c2
   clear e hb
   go_enter Tryz.func79, Tryz.ntmps79
   go_wp2_with (go_quiet (fail))
   go_ret2
   exact ⟨_, rfl, rfl, H.out.drewN _, (za.refl _ _).drewN _⟩
 | false =>
   rw [hb] at c2
   by_cases hp : s.pos < s.data.length
   · have e : s.ZH = .tuple #[.int .i64 s.pos, .int .i64 30] := by simp [Rd.ZH, hp]
     rw [e]
     have hd : decide ((s.pos : Int) < (s.data.length : Int)) = true := by simp; omega
     clear e hb
     go_enter Tryz.func79, Tryz.ntmps79
     go_wp2_with (go_quiet (fail))
     go_ret2
     exact ⟨_, rfl, rfl, H.out.drewN _, (za.refl _ _).drewN _⟩
   · have e : s.ZH = .tuple #[.int .i64 0, .int .i64 0] := by simp [Rd.ZH, hp, hb]
     rw [e]
     have hd : decide ((s.pos : Int) < (s.data.length : Int)) = false := by simp; omega
     clear e hb
     go_enter Tryz.func79, Tryz.ntmps79
     go_wp2_with (go_quiet (fail))
     go_ret2
     exact ⟨_, rfl, rfl, H.out.drewN _, (za.refl _ _).drewN _⟩
abbrev Got (α : Type) := Except Nat (α × Nat)
def Yy (u : UInt8) : Int := IntKind.i8.wrap (u.toNat : Int)
def jW (d : List UInt8) (p : Nat) : Got Int := match d[p]? with
 | some u => .ok (Yy u, p + 1)
 | none => .error d.length
def zbr {α : Type} (V : α → Value → World → Prop) (w : World) (b : Nat) (dv : Value) (s : Rd) : Got α → Ending → World → Prop
 | .ok (x, q), e, w' => ∃ v, e = .returned v ∧ V x v w' ∧ zH w' b dv { s with pos := q } ∧ za w w' (fun k => k = b)
 | .error p, e, w' => jA w b dv s p e w'
theorem kZ (w : World) (b : Nat) (dv : Value) (s : Rd) (h : zH w b dv s) : Calls Tryz.prog 122 #[.pointer (some ⟨b, 0, none⟩)] w (zbr (fun n v _ => v = .int .i8 n) w b dv s (jW s.data s.pos)) := by
 unfold jW
 cases hp : s.data[s.pos]? with
 | none =>
   have hl : s.data.length < s.pos + 1 := by have := List.getElem?_eq_none_iff.1 hp; omega
   have HT := hH (Yh w b dv s h 1 hl)
   clear h hp hl
   go_enter Tryz.func122, Tryz.ntmps122
   go_wp2_with (go_at_call 157; refine HT.out.mono ?_; rintro e w1 ⟨rfl, h1, h2⟩)
   exact ⟨rfl, rfl, h1, h2⟩
 | some u =>
   have hl := (List.getElem?_eq_some_iff.1 hp).1
   have HT := hH (Ql w b dv s h 1 (by omega) (by intro e; rw [e] at hl; simp at hl))
   have HU : Hid (((s.data.drop s.pos).take 1)[0]? = some u) := hH (by rw [List.getElem?_take_of_lt (by omega), List.getElem?_drop]; exact hp)
   clear h hp hl
   go_enter Tryz.func122, Tryz.ntmps122
   go_wp2_with (go_at_call 157; refine HT.out.mono ?_; clear HT; rintro e w1 ⟨g, o, cap, rfl, _, hc, h1, h2⟩; have q0 : w1.cell? ⟨g, o, none⟩ = some (.int .u8 u.toNat) := hc 0 u HU.out; have H1 := hH (aN h1 h2); clear hc h1 h2)
   go_ret
   exact ⟨_, rfl, rfl, H1.out.1, H1.out.2⟩
def kM {α : Type} (z : Value) (V : α → Value → World → Prop) (w : World) (b : Nat) (dv : Value) (s : Rd) (o : Got α) (v : Value) (w' : World) : Prop :=
 if s.bad then v = z ∧ zH w' b dv s ∧ za w w' (fun k => k = b) else
 match o with
 | .ok (x, q) => V x v w' ∧ zH w' b dv { s with pos := q } ∧ za w w' (fun k => k = b)
 | .error p => v = z ∧ zH w' b dv { s with pos := p, bad := true } ∧ za w w' (fun k => k = b)
theorem zan {α : Type} {f : FuncId} {args : Array Value} {z : Value} {V : α → Value → World → Prop} {w : World} {b : Nat} {dv : Value} {s : Rd} {o : Got α}
 (hbad : s.bad = true → Calls Tryz.prog f args w (jF z w b dv s))
 (hok : ∀ x q, o = .ok (x, q) → s.bad = false → Calls Tryz.prog f args w (Zx (fun v w' => V x v w') w b dv { s with pos := q }))
 (herr : ∀ p, o = .error p → s.bad = false → Calls Tryz.prog f args w (jF z w b dv { s with pos := p, bad := true })) :
 Calls Tryz.prog f args w (Zc (kM z V w b dv s o)) := by
 cases hb : s.bad with
 | true => exact (hbad hb).mono fun e w' ⟨h1, h2, h3⟩ => ⟨z, h1, by unfold kM; rw [if_pos hb]; exact ⟨rfl, h2, h3⟩⟩
 | false =>
   have hne : ¬ s.bad = true := by rw [hb]; decide
   cases o with
   | error p => exact (herr p rfl hb).mono fun e w' ⟨h1, h2, h3⟩ => ⟨z, h1, by unfold kM; rw [if_neg hne]; exact ⟨rfl, h2, h3⟩⟩
   | ok x => exact (hok x.1 x.2 rfl hb).mono fun e w' ⟨v, h1, h2, h3, h4⟩ => ⟨v, h1, by unfold kM; rw [if_neg hne]; exact ⟨h2, h3, h4⟩⟩
theorem Qr (w : World) (b : Nat) (dv : Value) (s : Rd) (h : zH w b dv s) : Calls Tryz.prog 78 #[.pointer (some ⟨b, 0, none⟩)] w (Zc (kM (.int .i8 0) (fun n v _ => v = .int .i8 n) w b dv s (jW s.data s.pos))) :=
 Yu w _ _ (zan (fun hb => kg w b dv s h hb _)
  (fun x q ho hb => kI w b dv s { s with pos := q } h hb hb (fun v _ => v = .int .i8 x) (by have := kZ _ b dv s (h.alloc (yo b)); rw [ho] at this; exact this))
  (fun p ho hb => jv w b dv s h hb p (by have := kZ _ b dv s (h.alloc (yo b)); rw [ho] at this; exact this)))
end Go.Proofs.YtchccbfljamjnaaGreat
