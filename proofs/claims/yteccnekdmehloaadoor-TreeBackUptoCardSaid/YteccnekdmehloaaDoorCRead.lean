/-
  A reader of layer 3: what it reads next, plainly: small numbers, counts, texts. No condition but that a size is at least 1.
-/
import Derived.Test.YteccnekdmehloaaDoorCWakes
import Derived.Laws.IdiomStrings
namespace Go.Proofs.YteccnekdmehloaaDoor
open Go.RowKit
open Extern.Stop (cell)

/-- Reading: what is read, and where it goes on; or the place of the byte that can't stand there. -/
abbrev Got (α : Type) := Except Nat (α × Nat)
def pNum (d : List UInt8) (p : Nat) : Got Int := if p + 8 ≤ d.length then .ok (numOf ((d.drop p).take 8), p + 8) else .error d.length
def pCount (d : List UInt8) (size most : Int) (p : Nat) : Got Nat :=
  match pNum d p with
  | .error e => .error e
  | .ok (n, q) => if n < 0 ∨ n > most ∨ n > ((d.length : Int) - q) / size then .error p else .ok (n.toNat, q)
def pText (d : List UInt8) (p : Nat) : Got ByteArray :=
  match pCount d 1 9223372036854775807 p with
  | .error e => .error e
  | .ok (n, q) => .ok (⟨((d.drop q).take n).toArray⟩, q + n)
theorem text_conv (w : World) (g o n cap : Nat) (bs : List UInt8) (hn : bs.length = n) (hc : ∀ j u, bs[j]? = some u → w.cell? ⟨g, o + j, none⟩ = some (cell u)) : (convert 22 9 (.slice (some ⟨g, o, none⟩) n cap)).run Tryd.prog w = .ok (.string ⟨bs.toArray⟩) w := by
  subst hn
  exact run_convert_bytes_back w _ _ _ ⟨g, o, none⟩ cap bs Tryd.underlying22 Tryd.underlying5 Tryd.underlying9 (fun j hj => by
    have hadd : (⟨g, o, none⟩ : Addr).add j = ⟨g, o + j, none⟩ := by simp [Addr.add]
    rw [hadd]; exact hc j _ (List.getElem?_eq_getElem hj))
/-- What a function of a reader answers. -/
def OutC {α : Type} (V : α → Value → World → Prop) (w : World) (b : Nat) (dv : Value) (s : Rd) : Got α → Ending → World → Prop
  | .ok (x, q), e, w' => ∃ v, e = .returned v ∧ V x v w' ∧ RdAt w' b dv { s with pos := q } ∧ Touched w w' (fun k => k = b)
  | .error p, e, w' => FellC w b dv s p e w'
abbrev IntV : Int → Value → World → Prop := fun n v _ => v = .int .i64 n
abbrev NatV : Nat → Value → World → Prop := fun n v _ => v = .int .i64 (n : Int)
abbrev TextV : ByteArray → Value → World → Prop := fun t v _ => v = .string t
theorem number_any (w : World) (b : Nat) (dv : Value) (s : Rd) (h : RdAt w b dv s) : Calls Tryd.prog 60 #[.pointer (some ⟨b, 0, none⟩)] w (OutC IntV w b dv s (pNum s.data s.pos)) := by
  unfold pNum
  split
  · rename_i hp
    exact (number_ok w b dv s h hp).mono fun e w' ⟨h1, h2, h3⟩ => ⟨_, h1, rfl, h2, h3⟩
  · rename_i hp
    exact (number_bad w b dv s h (by omega)).mono fun e w' h1 => h1
theorem pNum_ok {d : List UInt8} {p : Nat} {n : Int} {q : Nat} (h : pNum d p = .ok (n, q)) : p + 8 ≤ d.length ∧ q = p + 8 := by
  unfold pNum at h
  split at h
  · cases h; exact ⟨by assumption, rfl⟩
  · cases h
set_option maxRecDepth 100000 in
set_option maxHeartbeats 1000000 in
theorem count_anyC (w : World) (b : Nat) (dv : Value) (s : Rd) (h : RdAt w b dv s) (size most : Int) (hs : 1 ≤ size) (hs2 : size ≤ 9223372036854775807) : Calls Tryd.prog 62 #[.pointer (some ⟨b, 0, none⟩), .int .i64 size, .int .i64 most] w (OutC NatV w b dv s (pCount s.data size most s.pos)) := by
  have hn := number_any w b dv s h
  unfold pCount
  obtain ⟨a, cap, hdv⟩ : ∃ a cap, dv = .slice a s.data.length cap := owns_sl h.owns
  obtain ⟨c0, c1, c2, f⟩ := h.cells
  have hfew := h.few
  cases hp : pNum s.data s.pos with
  | error p =>
    rw [hp] at hn
    have HN := Lib.hid hn
    clear hn h hp hdv c0 c2 f
    go_enter Tryd.func62, Tryd.ntmps62
    go_wp2_with (go_at_call 60; refine HN.out.mono ?_; clear HN; rintro e w1 ⟨rfl, h1, h2⟩)
    exact ⟨rfl, rfl, h1, h2⟩
  | ok nq =>
    obtain ⟨n, q⟩ := nq
    obtain ⟨hq1, hq2⟩ := pNum_ok hp
    rw [hp] at hn
    have HN := Lib.hid hn
    simp only
    have hdiv0 : 0 ≤ ((s.data.length : Int) - (q : Int)) / size := Int.ediv_nonneg (by omega) (by omega)
    have hdiv1 : ((s.data.length : Int) - (q : Int)) / size ≤ 100000000 := by
      have := Int.ediv_le_self (a := (s.data.length : Int) - (q : Int)) size (by omega)
      omega
    have htd : ((s.data.length : Int) - (q : Int)).tdiv size = ((s.data.length : Int) - (q : Int)) / size := Int.tdiv_eq_ediv_of_nonneg (by omega)
    obtain ⟨dd, hdd⟩ : ∃ dd, dd = ((s.data.length : Int) - (q : Int)) / size := ⟨_, rfl⟩
    rw [← hdd] at hdiv0 hdiv1 htd
    rw [← hdd]
    have hlen0 : (s.data.length : Int) ≤ 100000000 := by omega
    have HH := Lib.hid (And.intro hdv (And.intro hq1 hq2))
    clear hn h hp hdd hdv c0 c2
    have HF : Hid (∀ (w1 : World) (k : Nat), RdAt w1 b dv { s with pos := q } → Calls Tryd.prog 59 #[.pointer (some ⟨b, 0, none⟩), .int .i64 (s.pos : Int)] (w1.drewN k) (FellC (w1.drewN k) b dv { s with pos := q } s.pos)) := Lib.hid fun w1 k h1 => fail_any _ b dv _ (h1.drewN k) s.pos (by show s.pos ≤ s.data.length; omega)
    have HC : Hid (∀ w1, RdAt w1 b dv { s with pos := q } → w1.cell? ⟨b, 0, none⟩ = some (.slice a s.data.length cap) ∧ w1.cell? ⟨b, 1, none⟩ = some (.int .i64 (q : Int))) := Lib.hid fun w1 h1 => ⟨by rw [← HH.out.1]; exact h1.cells.1, h1.cells.2.1⟩
    have hsz0 : ¬ size = 0 := by omega
    have hqlen : (q : Int) ≤ (s.data.length : Int) := by omega
    clear hs hs2 hq1 hq2
    by_cases h0 : n < 0
    · rw [if_pos (Or.inl h0)]
      have hd0 : decide (n < 0) = true := by simp; omega
      clear htd h0
      go_enter Tryd.func62, Tryd.ntmps62
      go_wp2_with (first
        | (go_at_call 60; refine HN.out.mono ?_; clear HN; rintro e w1 ⟨v, rfl, rfl, h1, h2⟩; obtain ⟨e0, e1⟩ := HC.out w1 h1; have H1 := Lib.hid (And.intro h1 h2); clear h1 h2)
        | (go_at_call 59; refine (HF.out _ _ H1.out.1).mono ?_; clear HF; rintro e w2 ⟨rfl, h1, h2⟩)
        | go_quiet (fail))
      exact ⟨rfl, rfl, h1, H1.out.2.trans (((Touched.refl w1 (fun k => k = b)).drewN _).trans h2 (fun k hk => Or.inl hk)) (fun k hk => Or.inl hk)⟩
    · have hd0 : decide (n < 0) = false := by simp; omega
      by_cases hm : n > most
      · rw [if_pos (Or.inr (Or.inl hm))]
        have hd1 : decide (most < n) = true := by simp; omega
        clear htd h0 hm
        go_enter Tryd.func62, Tryd.ntmps62
        go_wp2_with (first
          | (go_at_call 60; refine HN.out.mono ?_; clear HN; rintro e w1 ⟨v, rfl, rfl, h1, h2⟩; obtain ⟨e0, e1⟩ := HC.out w1 h1; have H1 := Lib.hid (And.intro h1 h2); clear h1 h2)
          | (go_at_call 59; refine (HF.out _ _ H1.out.1).mono ?_; clear HF; rintro e w2 ⟨rfl, h1, h2⟩)
          | go_quiet (fail))
        exact ⟨rfl, rfl, h1, H1.out.2.trans (((Touched.refl w1 (fun k => k = b)).drewN _).trans h2 (fun k hk => Or.inl hk)) (fun k hk => Or.inl hk)⟩
      · have hd1 : decide (most < n) = false := by simp; omega
        by_cases hc : n > dd
        · rw [if_pos (Or.inr (Or.inr hc))]
          have hd2 : decide (dd < n) = true := by simp; omega
          clear h0 hm hc
          go_enter Tryd.func62, Tryd.ntmps62
          go_wp2_with (first
            | (go_at_call 60; refine HN.out.mono ?_; clear HN; rintro e w1 ⟨v, rfl, rfl, h1, h2⟩; obtain ⟨e0, e1⟩ := HC.out w1 h1; have H1 := Lib.hid (And.intro h1 h2); clear h1 h2)
            | (go_at_call 59; refine (HF.out _ _ H1.out.1).mono ?_; clear HF; rintro e w2 ⟨rfl, h1, h2⟩)
            | go_quiet (fail))
          exact ⟨rfl, rfl, h1, H1.out.2.trans (((Touched.refl w1 (fun k => k = b)).drewN _).trans h2 (fun k hk => Or.inl hk)) (fun k hk => Or.inl hk)⟩
        · rw [if_neg (fun h => by rcases h with h | h | h <;> contradiction)]
          have hd2 : decide (dd < n) = false := by simp; omega
          have HN0 := Lib.hid h0
          clear h0 hm hc
          go_enter Tryd.func62, Tryd.ntmps62
          go_wp2_with (first
            | (go_at_call 60; refine HN.out.mono ?_; clear HN; rintro e w1 ⟨v, rfl, rfl, h1, h2⟩; obtain ⟨e0, e1⟩ := HC.out w1 h1; have H1 := Lib.hid (And.intro h1 h2); clear h1 h2)
            | go_quiet (fail))
          go_ret
          exact ⟨_, rfl, (by have := HN0.out; show Value.int .i64 n = .int .i64 (n.toNat : Int); rw [Int.toNat_of_nonneg (by omega)]), H1.out.1.drewN _, H1.out.2.drewN _⟩

theorem pCount_ok {d : List UInt8} {size most : Int} {p n q : Nat} (h : pCount d size most p = .ok (n, q)) : p + 8 ≤ d.length ∧ q = p + 8 ∧ (n : Int) ≤ most ∧ n ≤ d.length - q := by
  unfold pCount at h
  cases hp : pNum d p with
  | error e => rw [hp] at h; cases h
  | ok x =>
    obtain ⟨m, q'⟩ := x
    rw [hp] at h
    obtain ⟨h1, h2⟩ := pNum_ok hp
    simp only at h
    split at h
    · cases h
    · rename_i hc
      cases h
      have h3 : ((d.length : Int) - q) / size ≤ (d.length : Int) - q := Int.ediv_le_self size (by omega)
      exact ⟨h1, h2, by omega, by omega⟩

set_option maxHeartbeats 1000000 in
theorem text_any (w : World) (b : Nat) (dv : Value) (s : Rd) (h : RdAt w b dv s) : Calls Tryd.prog 61 #[.pointer (some ⟨b, 0, none⟩)] w (OutC TextV w b dv s (pText s.data s.pos)) := by
  have hn := count_anyC w b dv s h 1 9223372036854775807 (by omega) (by omega)
  unfold pText
  cases hp : pCount s.data 1 9223372036854775807 s.pos with
  | error p =>
    rw [hp] at hn
    have HN := Lib.hid hn
    clear hn h hp
    go_enter Tryd.func61, Tryd.ntmps61
    go_wp2_with (go_at_call 62; refine HN.out.mono ?_; clear HN; rintro e w1 ⟨rfl, h1, h2⟩)
    exact ⟨rfl, rfl, h1, h2⟩
  | ok nq =>
    obtain ⟨n, q⟩ := nq
    obtain ⟨hq1, hq2, _, hq3⟩ := pCount_ok hp
    rw [hp] at hn
    have HN := Lib.hid hn
    have HT : Hid (∀ w1, RdAt w1 b dv { s with pos := q } → Calls Tryd.prog 77 #[.pointer (some ⟨b, 0, none⟩), .int .i64 (n : Int)] w1 (TakeC w1 b dv { s with pos := q } n)) := Lib.hid fun w1 h1 => take_ok w1 b dv _ h1 n (by show q + n ≤ s.data.length; omega) (by intro e; have e2 : s.data = [] := e; rw [e2] at hq1; simp at hq1)
    have HL : Hid (((s.data.drop q).take n).length = n) := Lib.hid (by simp; omega)
    clear hn h hp hq1 hq2 hq3
    go_enter Tryd.func61, Tryd.ntmps61
    go_wp2_with (first
      | (go_at_call 62; refine HN.out.mono ?_; clear HN; rintro e w1 ⟨v, rfl, rfl, h1, h2⟩; have H1 := Lib.hid (And.intro h1 h2); clear h1 h2)
      | (go_at_call 77; refine (HT.out _ H1.out.1).mono ?_; clear HT; rintro e w2 ⟨g, o, cap, rfl, _, hc, h1, h2⟩; have hcv := text_conv w2 g o n cap _ HL.out hc; have H2 := Lib.hid (And.intro h1 h2); clear hc h1 h2))
    go_ret
    exact ⟨_, rfl, rfl, H2.out.1, H1.out.2.trans H2.out.2 (fun k hk => Or.inl hk)⟩
end Go.Proofs.YteccnekdmehloaaDoor
