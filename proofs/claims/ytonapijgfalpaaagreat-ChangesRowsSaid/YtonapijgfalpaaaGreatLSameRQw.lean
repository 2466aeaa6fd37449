/-
  .
-/
import Derived.Test.YtonapijgfalpaaaGreatETSameQw
import Derived.Test.YtonapijgfalpaaaGreatLRIdsQw
import Derived.Deep.Cut
import Derived.Test.YtonapijgfalpaaaGreatJPgQw
set_option maxRecDepth 100000
set_option maxHeartbeats 40000000
set_option linter.unusedVariables false
set_option linter.unusedSimpArgs false
namespace Go.Proofs.YtonapijgfalpaaaGreat
open Go.RowKit
def zG (a b : Sf) : Bool := decide (a.op = b.op) && (if a.op = 1 then decide (a.par = b.par) && (decide (a.at_ = b.at_) && vz a.sub b.sub) else if a.op = 2 then decide (a.id = b.id) else if a.op = 3 then decide (a.id = b.id) && (decide (a.par = b.par) && decide (a.at_ = b.at_)) else if a.op = 4 then decide (a.id = b.id) && decide (a.tx.toList = b.tx.toList) else true)
theorem zbx (a : Sf) : zG a a = true := by
 unfold zG
 split
 · simp [Y9]
 · split
   · simp
   · split
     · simp
     · split <;> simp
def yZ (a b : Sf) (X : World) (e : Ending) (W : World) : Prop := e = .returned (.bool (zG a b)) ∧ Below X.heap.size X W
theorem yZ.mk {a b : Sf} {w w' : World} {c : Bool} (h : zG a b = c) (hb : Below w.heap.size w w') : yZ a b w (.returned (.bool c)) w' := ⟨by rw [h], hb⟩
theorem zf6 {X : World} {op id par at_ op2 id2 par2 at2 : Int} {tx tx2 : ByteArray} {u v : Tr} {aa ba : Option Addr} {ac bc n m : Nat} (HC : Hid (∀ w', Below X.heap.size X w' → Calls Tryz.prog 56 #[.agg #[.int .i64 u.id, .int .i64 u.kind, .string u.text, .slice aa n ac], .agg #[.int .i64 v.id, .int .i64 v.kind, .string v.text, .slice ba m bc]] w' (vO u v w'))) :
 Calls Tryz.prog 29 #[.agg #[.int .i8 op, .int .i64 id, .int .i64 par, .int .i64 at_, .string tx, .int .i64 u.id, .int .i64 u.kind, .string u.text, .slice aa n ac], .agg #[.int .i8 op2, .int .i64 id2, .int .i64 par2, .int .i64 at2, .string tx2, .int .i64 v.id, .int .i64 v.kind, .string v.text, .slice ba m bc]] X (yZ ⟨op, id, par, at_, tx, u⟩ ⟨op2, id2, par2, at2, tx2, v⟩ X) := by
 by_cases h0 : op = op2
 · subst h0
   by_cases h1 : op = 1
   · by_cases hp : par = par2
     · by_cases ha : at_ = at2
       · have HV := hH (show zG ⟨op, id, par, at_, tx, u⟩ ⟨op, id2, par2, at2, tx2, v⟩ = vz u v by simp [zG, h1, hp, ha])
         have HC2 := HC
         have q1 : (op == 1) = true := by simpa using h1
         have q2 : (par == par2) = true := by simpa using hp
         have q3 : (at_ == at2) = true := by simpa using ha
         clear HC h1 hp ha
         go_enter Tryz.func29, Tryz.ntmps29
         go_wp2_with fail
         refine (HC2.out _ (zn _ _ _)).mono ?_
         rintro e w2 ⟨rfl, hb⟩
         have HB := hH ((zn _ _ _).trans (hb.mono (zn _ _ _).size))
         clear hb
         go_wp2_with fail
         go_ret
         exact yZ.mk HV.out HB.out
       · have q1 : (op == 1) = true := by simpa using h1
         have q2 : (par == par2) = true := by simpa using hp
         have q3 : (at_ == at2) = false := by simpa using ha
         have HV := hH (show zG ⟨op, id, par, at_, tx, u⟩ ⟨op, id2, par2, at2, tx2, v⟩ = false by simp [zG, h1, ha])
         clear h1 hp ha
         clear HC
         go_enter Tryz.func29, Tryz.ntmps29
         go_wp2_with fail
         go_ret
         exact yZ.mk HV.out (zn _ _ _)
     · have q1 : (op == 1) = true := by simpa using h1
       have q2 : (par == par2) = false := by simpa using hp
       have HV := hH (show zG ⟨op, id, par, at_, tx, u⟩ ⟨op, id2, par2, at2, tx2, v⟩ = false by simp [zG, h1, hp])
       clear h1 hp
       clear HC
       go_enter Tryz.func29, Tryz.ntmps29
       go_wp2_with fail
       go_ret
       exact yZ.mk HV.out (zn _ _ _)
   · have q1 : (op == 1) = false := by simpa using h1
     by_cases h2 : op = 2
     · have q2 : (op == 2) = true := by simpa using h2
       by_cases hi : id = id2
       · have q3 : (id == id2) = true := by simpa using hi
         have HV := hH (show zG ⟨op, id, par, at_, tx, u⟩ ⟨op, id2, par2, at2, tx2, v⟩ = true by simp [zG, h2, hi])
         clear h1 h2 hi
         clear HC
         go_enter Tryz.func29, Tryz.ntmps29
         go_wp2_with fail
         go_ret
         exact yZ.mk HV.out (zn _ _ _)
       · have q3 : (id == id2) = false := by simpa using hi
         have HV := hH (show zG ⟨op, id, par, at_, tx, u⟩ ⟨op, id2, par2, at2, tx2, v⟩ = false by simp [zG, h2, hi])
         clear h1 h2 hi
         clear HC
         go_enter Tryz.func29, Tryz.ntmps29
         go_wp2_with fail
         go_ret
         exact yZ.mk HV.out (zn _ _ _)
     · have q2 : (op == 2) = false := by simpa using h2
       by_cases h3 : op = 3
       · have q3 : (op == 3) = true := by simpa using h3
         by_cases hi : id = id2
         · have q4 : (id == id2) = true := by simpa using hi
           by_cases hp : par = par2
           · have q5 : (par == par2) = true := by simpa using hp
             by_cases ha : at_ = at2
             · have q6 : (at_ == at2) = true := by simpa using ha
               have HV := hH (show zG ⟨op, id, par, at_, tx, u⟩ ⟨op, id2, par2, at2, tx2, v⟩ = true by simp [zG, h3, hi, hp, ha])
               clear h1 h2 h3 hi hp ha
               clear HC
               go_enter Tryz.func29, Tryz.ntmps29
               go_wp2_with fail
               go_ret
               exact yZ.mk HV.out (zn _ _ _)
             · have q6 : (at_ == at2) = false := by simpa using ha
               have HV := hH (show zG ⟨op, id, par, at_, tx, u⟩ ⟨op, id2, par2, at2, tx2, v⟩ = false by simp [zG, h3, ha])
               clear h1 h2 h3 hi hp ha
               clear HC
               go_enter Tryz.func29, Tryz.ntmps29
               go_wp2_with fail
               go_ret
               exact yZ.mk HV.out (zn _ _ _)
           · have q5 : (par == par2) = false := by simpa using hp
             have HV := hH (show zG ⟨op, id, par, at_, tx, u⟩ ⟨op, id2, par2, at2, tx2, v⟩ = false by simp [zG, h3, hp])
             clear h1 h2 h3 hi hp
             clear HC
             go_enter Tryz.func29, Tryz.ntmps29
             go_wp2_with fail
             go_ret
             exact yZ.mk HV.out (zn _ _ _)
         · have q4 : (id == id2) = false := by simpa using hi
           have HV := hH (show zG ⟨op, id, par, at_, tx, u⟩ ⟨op, id2, par2, at2, tx2, v⟩ = false by simp [zG, h3, hi])
           clear h1 h2 h3 hi
           clear HC
           go_enter Tryz.func29, Tryz.ntmps29
           go_wp2_with fail
           go_ret
           exact yZ.mk HV.out (zn _ _ _)
       · have q3 : (op == 3) = false := by simpa using h3
         by_cases h4 : op = 4
         · have q4 : (op == 4) = true := by simpa using h4
           by_cases hi : id = id2
           · have q5 : (id == id2) = true := by simpa using hi
             by_cases ht : tx.toList = tx2.toList
             · have HV := hH (show zG ⟨op, id, par, at_, tx, u⟩ ⟨op, id2, par2, at2, tx2, v⟩ = true by simp [zG, h4, hi, ht])
               clear h1 h2 h3 h4 hi
               clear HC
               go_enter Tryz.func29, Tryz.ntmps29
               go_wp2_with fail
               go_ret
               exact yZ.mk HV.out (zn _ _ _)
             · have HV := hH (show zG ⟨op, id, par, at_, tx, u⟩ ⟨op, id2, par2, at2, tx2, v⟩ = false by simp [zG, h4, ht])
               have q6 : (tx.toList == tx2.toList) = false := by simpa using ht
               clear h1 h2 h3 h4 hi
               clear HC
               go_enter Tryz.func29, Tryz.ntmps29
               go_wp2_with fail
               go_ret
               exact yZ.mk HV.out (zn _ _ _)
           · have q5 : (id == id2) = false := by simpa using hi
             have HV := hH (show zG ⟨op, id, par, at_, tx, u⟩ ⟨op, id2, par2, at2, tx2, v⟩ = false by simp [zG, h4, hi])
             clear h1 h2 h3 h4 hi
             clear HC
             go_enter Tryz.func29, Tryz.ntmps29
             go_wp2_with fail
             go_ret
             exact yZ.mk HV.out (zn _ _ _)
         · have q4 : (op == 4) = false := by simpa using h4
           have HV := hH (show zG ⟨op, id, par, at_, tx, u⟩ ⟨op, id2, par2, at2, tx2, v⟩ = true by simp [zG, h1, h2, h3, h4])
           clear h1 h2 h3 h4
           clear HC
           go_enter Tryz.func29, Tryz.ntmps29
           go_wp2_with fail
           go_ret
           exact yZ.mk HV.out (zn _ _ _)
 · have q0 : (op == op2) = false := by simpa using h0
   have HV := hH (show zG ⟨op, id, par, at_, tx, u⟩ ⟨op2, id2, par2, at2, tx2, v⟩ = false by simp [zG, h0])
   clear h0
   clear HC
   go_enter Tryz.func29, Tryz.ntmps29
   go_wp2_with fail
   go_ret
   exact yZ.mk HV.out (zn _ _ _)
theorem zgi {X : World} {op id par at_ op2 id2 par2 at2 : Int} {tx tx2 : ByteArray} {u v : Tr} {aa ba : Option Addr} {ac bc n m : Nat} (HC : Hid (∀ w', Below X.heap.size X w' → Calls Tryz.prog 21 #[.agg #[.int .i64 u.id, .int .i64 u.kind, .string u.text, .slice aa n ac], .agg #[.int .i64 v.id, .int .i64 v.kind, .string v.text, .slice ba m bc]] w' (vO u v w'))) :
 Calls Tryz.prog 30 #[.agg #[.int .i8 op, .int .i64 id, .int .i64 par, .int .i64 at_, .string tx, .int .i64 u.id, .int .i64 u.kind, .string u.text, .slice aa n ac], .agg #[.int .i8 op2, .int .i64 id2, .int .i64 par2, .int .i64 at2, .string tx2, .int .i64 v.id, .int .i64 v.kind, .string v.text, .slice ba m bc]] X (yZ ⟨op, id, par, at_, tx, u⟩ ⟨op2, id2, par2, at2, tx2, v⟩ X) := by
 by_cases h0 : op = op2
 · subst h0
   by_cases h1 : op = 1
   · by_cases hp : par = par2
     · by_cases ha : at_ = at2
       · have HV := hH (show zG ⟨op, id, par, at_, tx, u⟩ ⟨op, id2, par2, at2, tx2, v⟩ = vz u v by simp [zG, h1, hp, ha])
         have HC2 := HC
         have q1 : (op == 1) = true := by simpa using h1
         have q2 : (par == par2) = true := by simpa using hp
         have q3 : (at_ == at2) = true := by simpa using ha
         clear HC h1 hp ha
         go_enter Tryz.func30, Tryz.ntmps30
         go_wp2_with fail
         refine (HC2.out _ (zn _ _ _)).mono ?_
         rintro e w2 ⟨rfl, hb⟩
         have HB := hH ((zn _ _ _).trans (hb.mono (zn _ _ _).size))
         clear hb
         go_wp2_with fail
         go_ret
         exact yZ.mk HV.out HB.out
       · have q1 : (op == 1) = true := by simpa using h1
         have q2 : (par == par2) = true := by simpa using hp
         have q3 : (at_ == at2) = false := by simpa using ha
         have HV := hH (show zG ⟨op, id, par, at_, tx, u⟩ ⟨op, id2, par2, at2, tx2, v⟩ = false by simp [zG, h1, ha])
         clear h1 hp ha
         clear HC
         go_enter Tryz.func30, Tryz.ntmps30
         go_wp2_with fail
         go_ret
         exact yZ.mk HV.out (zn _ _ _)
     · have q1 : (op == 1) = true := by simpa using h1
       have q2 : (par == par2) = false := by simpa using hp
       have HV := hH (show zG ⟨op, id, par, at_, tx, u⟩ ⟨op, id2, par2, at2, tx2, v⟩ = false by simp [zG, h1, hp])
       clear h1 hp
       clear HC
       go_enter Tryz.func30, Tryz.ntmps30
       go_wp2_with fail
       go_ret
       exact yZ.mk HV.out (zn _ _ _)
   · have q1 : (op == 1) = false := by simpa using h1
     by_cases h2 : op = 2
     · have q2 : (op == 2) = true := by simpa using h2
       by_cases hi : id = id2
       · have q3 : (id == id2) = true := by simpa using hi
         have HV := hH (show zG ⟨op, id, par, at_, tx, u⟩ ⟨op, id2, par2, at2, tx2, v⟩ = true by simp [zG, h2, hi])
         clear h1 h2 hi
         clear HC
         go_enter Tryz.func30, Tryz.ntmps30
         go_wp2_with fail
         go_ret
         exact yZ.mk HV.out (zn _ _ _)
       · have q3 : (id == id2) = false := by simpa using hi
         have HV := hH (show zG ⟨op, id, par, at_, tx, u⟩ ⟨op, id2, par2, at2, tx2, v⟩ = false by simp [zG, h2, hi])
         clear h1 h2 hi
         clear HC
         go_enter Tryz.func30, Tryz.ntmps30
         go_wp2_with fail
         go_ret
         exact yZ.mk HV.out (zn _ _ _)
     · have q2 : (op == 2) = false := by simpa using h2
       by_cases h3 : op = 3
       · have q3 : (op == 3) = true := by simpa using h3
         by_cases hi : id = id2
         · have q4 : (id == id2) = true := by simpa using hi
           by_cases hp : par = par2
           · have q5 : (par == par2) = true := by simpa using hp
             by_cases ha : at_ = at2
             · have q6 : (at_ == at2) = true := by simpa using ha
               have HV := hH (show zG ⟨op, id, par, at_, tx, u⟩ ⟨op, id2, par2, at2, tx2, v⟩ = true by simp [zG, h3, hi, hp, ha])
               clear h1 h2 h3 hi hp ha
               clear HC
               go_enter Tryz.func30, Tryz.ntmps30
               go_wp2_with fail
               go_ret
               exact yZ.mk HV.out (zn _ _ _)
             · have q6 : (at_ == at2) = false := by simpa using ha
               have HV := hH (show zG ⟨op, id, par, at_, tx, u⟩ ⟨op, id2, par2, at2, tx2, v⟩ = false by simp [zG, h3, ha])
               clear h1 h2 h3 hi hp ha
               clear HC
               go_enter Tryz.func30, Tryz.ntmps30
               go_wp2_with fail
               go_ret
               exact yZ.mk HV.out (zn _ _ _)
           · have q5 : (par == par2) = false := by simpa using hp
             have HV := hH (show zG ⟨op, id, par, at_, tx, u⟩ ⟨op, id2, par2, at2, tx2, v⟩ = false by simp [zG, h3, hp])
             clear h1 h2 h3 hi hp
             clear HC
             go_enter Tryz.func30, Tryz.ntmps30
             go_wp2_with fail
             go_ret
             exact yZ.mk HV.out (zn _ _ _)
         · have q4 : (id == id2) = false := by simpa using hi
           have HV := hH (show zG ⟨op, id, par, at_, tx, u⟩ ⟨op, id2, par2, at2, tx2, v⟩ = false by simp [zG, h3, hi])
           clear h1 h2 h3 hi
           clear HC
           go_enter Tryz.func30, Tryz.ntmps30
           go_wp2_with fail
           go_ret
           exact yZ.mk HV.out (zn _ _ _)
       · have q3 : (op == 3) = false := by simpa using h3
         by_cases h4 : op = 4
         · have q4 : (op == 4) = true := by simpa using h4
           by_cases hi : id = id2
           · have q5 : (id == id2) = true := by simpa using hi
             by_cases ht : tx.toList = tx2.toList
             · have HV := hH (show zG ⟨op, id, par, at_, tx, u⟩ ⟨op, id2, par2, at2, tx2, v⟩ = true by simp [zG, h4, hi, ht])
               clear h1 h2 h3 h4 hi
               clear HC
               go_enter Tryz.func30, Tryz.ntmps30
               go_wp2_with fail
               go_ret
               exact yZ.mk HV.out (zn _ _ _)
             · have HV := hH (show zG ⟨op, id, par, at_, tx, u⟩ ⟨op, id2, par2, at2, tx2, v⟩ = false by simp [zG, h4, ht])
               have q6 : (tx.toList == tx2.toList) = false := by simpa using ht
               clear h1 h2 h3 h4 hi
               clear HC
               go_enter Tryz.func30, Tryz.ntmps30
               go_wp2_with fail
               go_ret
               exact yZ.mk HV.out (zn _ _ _)
           · have q5 : (id == id2) = false := by simpa using hi
             have HV := hH (show zG ⟨op, id, par, at_, tx, u⟩ ⟨op, id2, par2, at2, tx2, v⟩ = false by simp [zG, h4, hi])
             clear h1 h2 h3 h4 hi
             clear HC
             go_enter Tryz.func30, Tryz.ntmps30
             go_wp2_with fail
             go_ret
             exact yZ.mk HV.out (zn _ _ _)
         · have q4 : (op == 4) = false := by simpa using h4
           have HV := hH (show zG ⟨op, id, par, at_, tx, u⟩ ⟨op, id2, par2, at2, tx2, v⟩ = true by simp [zG, h1, h2, h3, h4])
           clear h1 h2 h3 h4
           clear HC
           go_enter Tryz.func30, Tryz.ntmps30
           go_wp2_with fail
           go_ret
           exact yZ.mk HV.out (zn _ _ _)
 · have q0 : (op == op2) = false := by simpa using h0
   have HV := hH (show zG ⟨op, id, par, at_, tx, u⟩ ⟨op2, id2, par2, at2, tx2, v⟩ = false by simp [zG, h0])
   clear h0
   clear HC
   go_enter Tryz.func30, Tryz.ntmps30
   go_wp2_with fail
   go_ret
   exact yZ.mk HV.out (zn _ _ _)
def qH : List Sf → List Sf → Bool
 | [], [] => true
 | a :: p, b :: q => zG a b && qH p q
 | _, _ => false
theorem Y4 : ∀ p : List Sf, qH p p = true
 | [] => rfl
 | a :: p => by rw [qH, zbx, Y4 p]; rfl
theorem ZM : ∀ {p q : List Sf}, p.length ≠ q.length → qH p q = false
 | [], [], h => absurd rfl h
 | a :: p, b :: q, h => by rw [qH, ZM (p := p) (q := q) (fun e => h (by simp [e])), Bool.and_false]
 | [], _ :: _, _ => rfl
 | _ :: _, [], _ => rfl
theorem Qs {p q : List Sf} {k : Nat} {a b : Sf} (ha : p[k]? = some a) (hb : q[k]? = some b) : qH (p.drop k) (q.drop k) = (zG a b && qH (p.drop (k + 1)) (q.drop (k + 1))) := by
 obtain ⟨h1, rfl⟩ := List.getElem?_eq_some_iff.1 ha
 obtain ⟨h2, rfl⟩ := List.getElem?_eq_some_iff.1 hb
 rw [List.drop_eq_getElem_cons h1, List.drop_eq_getElem_cons h2, qH]
def Qb (p q : List Sf) (X : World) (e : Ending) (W : World) : Prop := e = .returned (.bool (qH p q)) ∧ Below X.heap.size X W
theorem Qb.mk {p q : List Sf} {w w' : World} {c : Bool} (h : qH p q = c) (hb : Below w.heap.size w w') : Qb p q w (.returned (.bool c)) w' := ⟨by rw [h], hb⟩
theorem zfp {X0 X1 X : World} {s r : Sf} {aa ba : Option Addr} {ac bc n m : Nat} (h0 : zU X0 s.sub.kids aa ac) (h1 : zU X1 r.sub.kids ba bc) (b0 : Below X0.heap.size X0 X) (b1 : Below X1.heap.size X1 X) (hz : ze s.sub.kids + 1 ≤ 100000) (hy : ze r.sub.kids + 1 ≤ 100000) (hn : n = zb s.sub.kids) (hm : m = zb r.sub.kids) :
 Calls Tryz.prog 29 #[.agg #[.int .i8 s.op, .int .i64 s.id, .int .i64 s.par, .int .i64 s.at_, .string s.tx, .int .i64 s.sub.id, .int .i64 s.sub.kind, .string s.sub.text, .slice aa n ac], .agg #[.int .i8 r.op, .int .i64 r.id, .int .i64 r.par, .int .i64 r.at_, .string r.tx, .int .i64 r.sub.id, .int .i64 r.sub.kind, .string r.sub.text, .slice ba m bc]] X (yZ s r X) :=
 zf6 (hH fun w' hb => by subst hn; subst hm; exact zds w' (fun q => q < X0.heap.size) (fun q => q < X1.heap.size) _ _ _ _ (fun y hy => nL hy (b0.trans (hb.mono b0.size)).size) (fun y hy => nL hy (b1.trans (hb.mono b1.size)).size) (h0.at (b0.trans (hb.mono b0.size))) (h1.at (b1.trans (hb.mono b1.size))) (by omega) (by omega))
theorem zbQ (w : World) (la lb : Option Addr) (n m ca cb : Nat) (pa pb : List SV) (hn : n = pa.length) (hm : m = pb.length) (ha : Row w la pa) (hb : Row w lb pb) :
 Calls Tryz.prog 28 #[.slice la n ca, .slice lb m cb, .func (.func 29) #[] #[]] w (Qb (steps pa) (steps pb) w) := by
 have hl : n ≤ 1000000 := by have := ha.len; omega
 have hl2 : m ≤ 1000000 := by have := hb.len; omega
 have H := hH (aN ha (aN hb (aN hn hm)))
 clear ha hb hn hm
 by_cases hne : n = m
 rotate_left
 · have hnn : ((n : Int) == (m : Int)) = false := by simp; omega
   have HV := hH (show qH (steps pa) (steps pb) = false from ZM (by rw [zD, zD, ← H.out.2.2.1, ← H.out.2.2.2]; exact hne))
   clear hne
   go_enter Tryz.func28, Tryz.ntmps28
   go_wp2_with fail
   go_ret
   exact Qb.mk HV.out (Below.refl _ _)
 subst hne
 have hnn : ((n : Int) == (n : Int)) = true := by simp
 go_enter Tryz.func28, Tryz.ntmps28
 go_wp2_with fail
 clear hnn
 go_loopw [17] (fun i wr => ∃ k : Nat, k ≤ n ∧ i = .int .i64 (k : Int) ∧ Hid (Below w.heap.size w wr ∧ qH (steps pa) (steps pb) = qH ((steps pa).drop k) ((steps pb).drop k))) (fun i _ => n - (intOf i).toNat)
 case atStart => exact ⟨0, Nat.zero_le _, rfl, hH ⟨Below.refl _ _, rfl⟩⟩
 case round =>
  obtain ⟨k, hk, rfl, hrr⟩ := hrel
  obtain ⟨wo, hwo⟩ : ∃ wo, wo = wr := ⟨_, rfl⟩
  subst hwo
  by_cases hlt : k < n
  · obtain ⟨x, hx⟩ : ∃ x, pa[k]? = some x := ⟨_, List.getElem?_eq_getElem (by rw [← H.out.2.2.1]; exact hlt)⟩
    obtain ⟨y, hy⟩ : ∃ y, pb[k]? = some y := ⟨_, List.getElem?_eq_getElem (by rw [← H.out.2.2.2]; exact hlt)⟩
    have hdr := Qs (yD hx) (yD hy)
    have hlx := H.out.1.lies x (List.mem_of_getElem? hx)
    have hly := H.out.2.1.lies y (List.mem_of_getElem? hy)
    have hfx := (H.out.1.fit x (List.mem_of_getElem? hx)).size
    have hfy := (H.out.2.1.fit y (List.mem_of_getElem? hy)).size
    unfold qE at hlx hly
    have hax := fun X hX => H.out.1.at (X := X) hX hx
    have hay := fun X hX => H.out.2.1.at (X := X) hX hy
    obtain ⟨xs, xa, xc⟩ := x
    obtain ⟨ys, ya, yc⟩ := y
    simp only at hdr hlx hly hfx hfy hax hay
    obtain ⟨xn, hxn⟩ : ∃ xn, xn = zb xs.sub.kids := ⟨_, rfl⟩
    obtain ⟨yn, hyn⟩ : ∃ yn, yn = zb ys.sub.kids := ⟨_, rfl⟩
    rw [← hxn] at hax
    rw [← hyn] at hay
    have HCC := hH (fun X (hX : Below w.heap.size w X) => zfp (X := X) hlx hly hX hX (by omega) (by omega) hxn hyn)
    have HKN := hH (aN hk hlt)
    have hkl : (k : Int) < (n : Int) := by omega
    obtain ⟨cc, hcc⟩ : ∃ cc, cc = zG xs ys := ⟨_, rfl⟩
    rw [← hcc] at hdr
    have HCQ := hH hcc
    have HDR := hH (hrr.out.2.trans hdr)
    have HBR := hH hrr.out.1
    clear hx hy hlx hly hfx hfy hxn hyn hk hlt hrr hdr hcc
    obtain ⟨b, off, rfl, c0, c1, c2, c3, c4, c5, c6, c7, c8⟩ := hax wo HBR.out
    obtain ⟨B1, hB1⟩ : ∃ B1, B1 = wo.alloc (.cells #[.int .i8 xs.op, .int .i64 xs.id, .int .i64 xs.par, .int .i64 xs.at_, .string xs.tx, .int .i64 xs.sub.id, .int .i64 xs.sub.kind, .string xs.sub.text, .slice xa xn xc] 49) := ⟨_, rfl⟩
    have hb1 : Below w.heap.size w B1 := by rw [hB1]; exact HBR.out.alloc HBR.out.size _
    have e1 : B1.heap[wo.heap.size]? = some (.cells #[.int .i8 xs.op, .int .i64 xs.id, .int .i64 xs.par, .int .i64 xs.at_, .string xs.tx, .int .i64 xs.sub.id, .int .i64 xs.sub.kind, .string xs.sub.text, .slice xa xn xc] 49 (0, 0)) := by rw [hB1]; exact heap_alloc_new _ _
    have HB1 := hH hB1
    have HAY := hH hay
    have HE1 := hH (aN hb1 e1)
    clear hax hay hb1 e1 hB1
    go_upto_region 6 with fail
    change Code.wp _ _ _ _ (wo.alloc (.cells #[.int .i8 xs.op, .int .i64 xs.id, .int .i64 xs.par, .int .i64 xs.at_, .string xs.tx, .int .i64 xs.sub.id, .int .i64 xs.sub.kind, .string xs.sub.text, .slice xa xn xc] 49))
    rw [← HB1.out]
    clear HB1 c0 c1 c2 c3 c4 c5 c6 c7 c8
    obtain ⟨b', off', rfl, d0, d1, d2, d3, d4, d5, d6, d7, d8⟩ := HAY.out B1 HE1.out.1
    obtain ⟨B2, hB2⟩ : ∃ B2, B2 = B1.alloc (.cells #[.int .i8 ys.op, .int .i64 ys.id, .int .i64 ys.par, .int .i64 ys.at_, .string ys.tx, .int .i64 ys.sub.id, .int .i64 ys.sub.kind, .string ys.sub.text, .slice ya yn yc] 49) := ⟨_, rfl⟩
    have hb2 : Below w.heap.size w B2 := by rw [hB2]; exact HE1.out.1.alloc HE1.out.1.size _
    have e1 : B2.heap[wo.heap.size]? = some (.cells #[.int .i8 xs.op, .int .i64 xs.id, .int .i64 xs.par, .int .i64 xs.at_, .string xs.tx, .int .i64 xs.sub.id, .int .i64 xs.sub.kind, .string xs.sub.text, .slice xa xn xc] 49 (0, 0)) := by rw [hB2]; exact (Below.heap_alloc _ _ _ (lt_of_heap HE1.out.2)).trans HE1.out.2
    have e2 : B2.heap[B1.heap.size]? = some (.cells #[.int .i8 ys.op, .int .i64 ys.id, .int .i64 ys.par, .int .i64 ys.at_, .string ys.tx, .int .i64 ys.sub.id, .int .i64 ys.sub.kind, .string ys.sub.text, .slice ya yn yc] 49 (0, 0)) := by rw [hB2]; exact heap_alloc_new _ _
    have HB2 := hH hB2
    have HE2 := hH hb2
    have HEE := hH (aN e1 e2)
    obtain ⟨u1, hu1⟩ : ∃ u1, u1 = wo.heap.size := ⟨_, rfl⟩
    obtain ⟨u2, hu2⟩ : ∃ u2, u2 = B1.heap.size := ⟨_, rfl⟩
    clear HE1 HAY hb2 hB2 e1 e2
    go_upto_region 7 with fail
    change Code.wp _ _ _ _ (B1.alloc (.cells #[.int .i8 ys.op, .int .i64 ys.id, .int .i64 ys.par, .int .i64 ys.at_, .string ys.tx, .int .i64 ys.sub.id, .int .i64 ys.sub.kind, .string ys.sub.text, .slice ya yn yc] 49))
    rw [← HB2.out, ← hu1, ← hu2]
    rw [← hu1, ← hu2] at HEE
    clear hu1 hu2
    clear HB2 d0 d1 d2 d3 d4 d5 d6 d7 d8
    obtain ⟨f0, f1, f2, f3, f4, f5, f6, f7, f8⟩ := yP HEE.out.1
    obtain ⟨g0, g1, g2, g3, g4, g5, g6, g7, g8⟩ := yP HEE.out.2
    have HC := hH (HCC.out B2 HE2.out)
    clear HCC HEE
    go_wp2_with fail
    refine HC.out.mono ?_
    rintro e w2 ⟨rfl, hb2⟩
    rw [← HCQ.out]
    have HB3 := hH (HE2.out.trans (hb2.mono HE2.out.size))
    clear hb2 HC f0 f1 f2 f3 f4 f5 f6 f7 f8 g0 g1 g2 g3 g4 g5 g6 g7 g8 HE2
    cases cc
    · go_wp2_with fail
      go_ret
      exact Qb.mk (HDR.out.trans (Bool.false_and _)) HB3.out
    · go_wp2_with fail
      exact ⟨⟨k + 1, by have := HKN.out; omega, by go_num, hH ⟨HB3.out, HDR.out.trans (Bool.true_and _)⟩⟩, by have := HKN.out; simp [intOf]; omega⟩
  · have hkl : ¬ (k : Int) < (n : Int) := by omega
    have HV := hH (show qH (steps pa) (steps pb) = true by
     rw [hrr.out.2, List.drop_of_length_le (by rw [zD, ← H.out.2.2.1]; omega), List.drop_of_length_le (by rw [zD, ← H.out.2.2.2]; omega)]; rfl)
    have HB3 := hH hrr.out.1
    clear hrr hk hlt
    go_wp2_with fail
    go_ret
    exact Qb.mk HV.out HB3.out
theorem zav (w : World) (la lb : Option Addr) (n m ca cb : Nat) (pa pb : List SV) (hn : n = pa.length) (hm : m = pb.length) (ha : Row w la pa) (hb : Row w lb pb) :
 Calls Tryz.prog 10 #[.slice la n ca, .slice lb m cb] w (Qb (steps pa) (steps pb) w) := by
 have HC := hH (zbQ w la lb n m ca cb pa pb hn hm ha hb)
 clear hn hm ha hb
 go_enter Tryz.func10, Tryz.ntmps10
 go_wp2_with fail
 refine HC.out.mono ?_
 rintro e w2 ⟨rfl, hb2⟩
 have HB := hH hb2
 clear hb2
 go_wp2_with fail
 go_ret
 exact ⟨rfl, HB.out⟩
theorem zff {X0 X1 X : World} {s r : Sf} {aa ba : Option Addr} {ac bc n m : Nat} (h0 : zU X0 s.sub.kids aa ac) (h1 : zU X1 r.sub.kids ba bc) (b0 : Below X0.heap.size X0 X) (b1 : Below X1.heap.size X1 X) (hz : ze s.sub.kids + 1 ≤ 100000) (hy : ze r.sub.kids + 1 ≤ 100000) (hn : n = zb s.sub.kids) (hm : m = zb r.sub.kids) :
 Calls Tryz.prog 30 #[.agg #[.int .i8 s.op, .int .i64 s.id, .int .i64 s.par, .int .i64 s.at_, .string s.tx, .int .i64 s.sub.id, .int .i64 s.sub.kind, .string s.sub.text, .slice aa n ac], .agg #[.int .i8 r.op, .int .i64 r.id, .int .i64 r.par, .int .i64 r.at_, .string r.tx, .int .i64 r.sub.id, .int .i64 r.sub.kind, .string r.sub.text, .slice ba m bc]] X (yZ s r X) :=
 zgi (hH fun w' hb => by subst hn; subst hm; exact zfB h0 h1 (b0.trans (hb.mono b0.size)) (b1.trans (hb.mono b1.size)) hz)
theorem zbK (w : World) (la lb : Option Addr) (n m ca cb : Nat) (pa pb : List SV) (hn : n = pa.length) (hm : m = pb.length) (ha : Row w la pa) (hb : Row w lb pb) :
 Calls Tryz.prog 11 #[.slice la n ca, .slice lb m cb] w (Qb (steps pa) (steps pb) w) := by
 have hl : n ≤ 1000000 := by have := ha.len; omega
 have hl2 : m ≤ 1000000 := by have := hb.len; omega
 have H := hH (aN ha (aN hb (aN hn hm)))
 clear ha hb hn hm
 by_cases hne : n = m
 rotate_left
 · have hnn : ((n : Int) == (m : Int)) = false := by simp; omega
   have HV := hH (show qH (steps pa) (steps pb) = false from ZM (by rw [zD, zD, ← H.out.2.2.1, ← H.out.2.2.2]; exact hne))
   clear hne
   go_enter Tryz.func11, Tryz.ntmps11
   go_wp2_with fail
   go_ret
   exact Qb.mk HV.out (Below.refl _ _)
 subst hne
 have hnn : ((n : Int) == (n : Int)) = true := by simp
 go_enter Tryz.func11, Tryz.ntmps11
 go_wp2_with fail
 clear hnn
 go_loopw [5] (fun i wr => ∃ k : Nat, k ≤ n ∧ i = .int .i64 (k : Int) ∧ Hid (Below w.heap.size w wr ∧ qH (steps pa) (steps pb) = qH ((steps pa).drop k) ((steps pb).drop k))) (fun i _ => n - (intOf i).toNat)
 case atStart => exact ⟨0, Nat.zero_le _, rfl, hH ⟨Below.refl _ _, rfl⟩⟩
 case round =>
  obtain ⟨k, hk, rfl, hrr⟩ := hrel
  obtain ⟨wo, hwo⟩ : ∃ wo, wo = wr := ⟨_, rfl⟩
  subst hwo
  by_cases hlt : k < n
  · obtain ⟨x, hx⟩ : ∃ x, pa[k]? = some x := ⟨_, List.getElem?_eq_getElem (by rw [← H.out.2.2.1]; exact hlt)⟩
    obtain ⟨y, hy⟩ : ∃ y, pb[k]? = some y := ⟨_, List.getElem?_eq_getElem (by rw [← H.out.2.2.2]; exact hlt)⟩
    have hdr := Qs (yD hx) (yD hy)
    have hlx := H.out.1.lies x (List.mem_of_getElem? hx)
    have hly := H.out.2.1.lies y (List.mem_of_getElem? hy)
    have hfx := (H.out.1.fit x (List.mem_of_getElem? hx)).size
    have hfy := (H.out.2.1.fit y (List.mem_of_getElem? hy)).size
    unfold qE at hlx hly
    have hax := fun X hX => H.out.1.at (X := X) hX hx
    have hay := fun X hX => H.out.2.1.at (X := X) hX hy
    obtain ⟨xs, xa, xc⟩ := x
    obtain ⟨ys, ya, yc⟩ := y
    simp only at hdr hlx hly hfx hfy hax hay
    obtain ⟨xn, hxn⟩ : ∃ xn, xn = zb xs.sub.kids := ⟨_, rfl⟩
    obtain ⟨yn, hyn⟩ : ∃ yn, yn = zb ys.sub.kids := ⟨_, rfl⟩
    rw [← hxn] at hax
    rw [← hyn] at hay
    have HCC := hH (fun X (hX : Below w.heap.size w X) => zff (X := X) hlx hly hX hX (by omega) (by omega) hxn hyn)
    have HKN := hH (aN hk hlt)
    have hkl : (k : Int) < (n : Int) := by omega
    obtain ⟨cc, hcc⟩ : ∃ cc, cc = zG xs ys := ⟨_, rfl⟩
    rw [← hcc] at hdr
    have HCQ := hH hcc
    have HDR := hH (hrr.out.2.trans hdr)
    have HBR := hH hrr.out.1
    clear hx hy hlx hly hfx hfy hxn hyn hk hlt hrr hdr hcc
    obtain ⟨W, hW⟩ : ∃ W, W = wo.drew := ⟨_, rfl⟩
    have hW0 : Below w.heap.size w W := by rw [hW]; exact below_drewN HBR.out 1
    obtain ⟨b, off, rfl, c0, c1, c2, c3, c4, c5, c6, c7, c8⟩ := hax W hW0
    obtain ⟨b', off', rfl, d0, d1, d2, d3, d4, d5, d6, d7, d8⟩ := hay W hW0
    have HC := hH (HCC.out W hW0)
    have HW := hH hW
    have HW0 := hH hW0
    clear hax hay hW hW0 HCC
    go_wp2_with fail
    have hdr : ({ heap := wo.heap, tape := wo.tape, drawn := wo.drawn + 1, os := wo.os, output := wo.output } : World) = W := HW.out.symm
    refine wp_region_still_tail 8 (by kernel_rfl) (by kernel_rfl) ?_
    simp only [List.take_succ_cons, List.take_zero, List.drop_succ_cons, List.drop_zero]
    rw [hdr]
    clear hdr
    repeat still_step
    try refine wpStill_nil ?_
    go_wp2_with (go_at_call 30; refine HC.out.mono ?_; rintro e w2 ⟨rfl, hb2⟩; rw [← HCQ.out]; have HB3 := hH (HW0.out.trans (hb2.mono HW0.out.size)); clear hb2; cases cc)
    · go_ret
      exact Qb.mk (HDR.out.trans (Bool.false_and _)) HB3.out
    · exact ⟨⟨k + 1, by have := HKN.out; omega, by go_num, hH ⟨HB3.out, HDR.out.trans (Bool.true_and _)⟩⟩, by have := HKN.out; simp [intOf]; omega⟩
  · have hkl : ¬ (k : Int) < (n : Int) := by omega
    have HV := hH (show qH (steps pa) (steps pb) = true by
     rw [hrr.out.2, List.drop_of_length_le (by rw [zD, ← H.out.2.2.1]; omega), List.drop_of_length_le (by rw [zD, ← H.out.2.2.2]; omega)]; rfl)
    have HB3 := hH hrr.out.1
    clear hrr hk hlt
    go_wp2_with fail
    go_ret
    exact Qb.mk HV.out HB3.out
end Go.Proofs.YtonapijgfalpaaaGreat
