/-
  What 'wakes' answers: true. No condition.
-/
import Derived.Test.YtklpafognbodhaaPLaw
namespace Go.Proofs.Ytklpafognbodhaa
open Go.RowKit

set_option maxRecDepth 100000 in
set_option maxHeartbeats 2000000 in
theorem wakes_any (w : World) : Calls Try.prog 5 #[] w fun e w' => e = .returned (.bool true) ∧ Below w.heap.size w w' := by
  have H0 := Lib.hid (new_any w w (Below.refl _ _))
  go_enter Try.func5, Try.ntmps5
  go_wp2_with (first
    | (go_at_call 6; refine H0.out.mono ?_; clear H0; rintro e w1 ⟨nb, rfl, p1, _⟩; have H1 := Lib.hid (lsend w w1 _ nb [] p1 1 0 7 rfl rfl (by simp)); clear p1)
    | (go_at_call 11; refine H1.out.mono ?_; clear H1; rintro e w2 ⟨rfl, p2, _⟩; have H2 := Lib.hid (lsend w w2 _ nb _ p2 0 2 8 rfl rfl (by simp)); clear p2)
    | (go_at_call 11; refine H2.out.mono ?_; clear H2; rintro e w3 ⟨rfl, p3, _⟩; have H3 := Lib.hid (lhold w w3 _ nb _ p3 0 (by simp) (by simp)); clear p3)
    | (go_at_call 12; refine H3.out.mono ?_; clear H3; rintro e w4 ⟨rfl, p4, _⟩; have H4 : Hid (Calls Try.prog 13 #[.pointer (some ⟨nb, 0, none⟩)] w4 (NC w w4 (fun _ => False) nb [(bmsg 1 0 7, true), (bmsg 0 2 8, false)] (.tuple #[.int .i64 1, .bool true]))) := Lib.hid (lfirst w w4 _ nb _ p4 (by simp)); clear p4)
    | (go_at_call 13; refine H4.out.mono ?_; clear H4; rintro e w5 ⟨rfl, p5, _⟩; have H5 := Lib.hid (ltake w w5 _ nb [] [(bmsg 0 2 8, false)] 0 1 0 7 true p5 rfl (by simp)); clear p5)
    | (go_at_call 14; refine H5.out.mono ?_; clear H5; rintro e w6 ⟨rfl, p6, _⟩; have p7 : NetAt w (w6.alloc (.cells #[.int .i8 0, .int .i64 1, .int .i64 0, .int .i64 0, .int .i64 0, .int .i64 7, .int .i64 0, .int .i64 0, .int .i64 0, .int .i64 0, .int .i64 0, .slice none 0 0, .int .i64 0, .int .i64 0, .string ⟨#[]⟩, .slice none 0 0] 40)) _ nb _ := p6.below ((Below.refl _ _).alloc (Nat.le_refl _) _); have H6 : Hid (Calls Try.prog 8 #[.pointer (some ⟨nb, 0, none⟩)] (w6.alloc (.cells #[.int .i8 0, .int .i64 1, .int .i64 0, .int .i64 0, .int .i64 0, .int .i64 7, .int .i64 0, .int .i64 0, .int .i64 0, .int .i64 0, .int .i64 0, .slice none 0 0, .int .i64 0, .int .i64 0, .string ⟨#[]⟩, .slice none 0 0] 40)) fun e w' => e = .returned (.int .i64 1) ∧ (w6.alloc (.cells #[.int .i8 0, .int .i64 1, .int .i64 0, .int .i64 0, .int .i64 0, .int .i64 7, .int .i64 0, .int .i64 0, .int .i64 0, .int .i64 0, .int .i64 0, .slice none 0 0, .int .i64 0, .int .i64 0, .string ⟨#[]⟩, .slice none 0 0] 40)) = w') := Lib.hid (llen w _ _ nb _ p7); have H7 : Hid (Calls Try.prog 15 #[.pointer (some ⟨nb, 0, none⟩), .int .i64 2] (w6.alloc (.cells #[.int .i8 0, .int .i64 1, .int .i64 0, .int .i64 0, .int .i64 0, .int .i64 7, .int .i64 0, .int .i64 0, .int .i64 0, .int .i64 0, .int .i64 0, .slice none 0 0, .int .i64 0, .int .i64 0, .string ⟨#[]⟩, .slice none 0 0] 40)) (NC w (w6.alloc (.cells #[.int .i8 0, .int .i64 1, .int .i64 0, .int .i64 0, .int .i64 0, .int .i64 7, .int .i64 0, .int .i64 0, .int .i64 0, .int .i64 0, .int .i64 0, .slice none 0 0, .int .i64 0, .int .i64 0, .string ⟨#[]⟩, .slice none 0 0] 40)) (fun _ => False) nb [] (.int .i64 1))) := Lib.hid (lclear w _ _ nb _ p7 2 (by intro p hp; simp at hp; subst hp; exact ⟨_, _, _, rfl⟩) (by simp)); clear p6 p7)
    | (go_at_call 8; refine H6.out.mono ?_; clear H6; rintro e w8 ⟨rfl, rfl⟩)
    | (go_at_call 15; refine H7.out.mono ?_; clear H7; rintro e w9 ⟨rfl, p9, _⟩; have H9 := Lib.hid p9; clear p9))
  go_ret
  exact ⟨rfl, H9.out.2.choose_spec.2.2⟩

end Go.Proofs.Ytklpafognbodhaa
