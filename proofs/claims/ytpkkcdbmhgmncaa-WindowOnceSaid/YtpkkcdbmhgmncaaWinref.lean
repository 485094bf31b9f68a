/- The reference's Of, Begin, End, Through; WindowThroughs, WindowOfs. -/
import Derived.Test.YtpkkcdbmhgmncaaWinlaw1
namespace Go.Proofs.Ytpkkcdbmhgmncaa
set_option linter.unusedVariables false
open Go.RowKit W
theorem rbad_no (d : Int) (h1 : 1 ≤ d) (h2 : d ≤ 1048576) (w : World) :
    Calls Try.prog 35 #[.int .i64 d] w fun e w' => e = .returned (.bool false) ∧ w = w' := by
  go_enter Try.func35, Try.ntmps35
  go_wp2
  go_ret
  exact ⟨by first | rfl | (simp; omega), rfl⟩
theorem rbad_yes (d : Int) (h1 : d < 1 ∨ 1048576 < d) (w : World) :
    Calls Try.prog 35 #[.int .i64 d] w fun e w' => e = .returned (.bool true) ∧ w = w' := by
  rcases h1 with h | h
  · go_enter Try.func35, Try.ntmps35
    go_wp2
    go_ret
    exact ⟨by first | rfl | (simp; omega), rfl⟩
  · have h' : ¬ d < 1 := by omega
    go_enter Try.func35, Try.ntmps35
    go_wp2
    go_ret
    exact ⟨by first | rfl | (simp; omega), rfl⟩
theorem rof_ok (t d q : Int) (j : IsHi t) (h1 : 1 ≤ d) (h2 : d ≤ 1048576) (hq : q = t / d) (w : World) :
    Calls Try.prog 38 #[.int .i64 t, .int .i64 d] w fun e w' => e = .returned (.tuple #[.int .i64 q, .int .i64 0]) ∧ w = w' := by
  subst hq
  have c1 := rbad_no d h1 h2
  go_enter Try.func38, Try.ntmps38
  go_wp2_with (go_at_call 35; refine (c1 _).mono ?_; rintro e w' ⟨rfl, rfl⟩)
  · go_returns
    have e := wrap_floor_neg j h1 ‹_›
    exact ⟨win_ret2 e, rfl⟩
  · go_returns
    have e := wrap_floor_pos j h1 ‹_›
    exact ⟨win_ret2 e, rfl⟩
theorem rof_bad (t d : Int) (h1 : d < 1 ∨ 1048576 < d) (w : World) :
    Calls Try.prog 38 #[.int .i64 t, .int .i64 d] w fun e w' => e = .returned (.tuple #[.int .i64 0, .int .i64 61]) ∧ w = w' := by
  have c1 := rbad_yes d h1
  clear h1
  go_enter Try.func38, Try.ntmps38
  go_wp2_with (go_at_call 35; refine (c1 _).mono ?_; rintro e w' ⟨rfl, rfl⟩)
  go_returns
  exact ⟨rfl, rfl⟩
theorem rthrough_ok (t d q : Int) (j : IsHi t) (h1 : 1 ≤ d) (h2 : d ≤ 1048576) (hq : q = t / d) (n : -9223372036854775808 < q) (w : World) :
    Calls Try.prog 42 #[.int .i64 t, .int .i64 d] w fun e w' => e = .returned (.tuple #[.int .i64 (q - 1), .int .i64 0]) ∧ w = w' := by
  have c1 := rof_ok t d q j h1 h2 hq
  have k := div_hi j h1
  rw [← hq] at k
  have b := k.b
  clear hq k
  go_enter Try.func42, Try.ntmps42
  go_wp2_with (go_at_call 38; refine (c1 _).mono ?_; rintro e w' ⟨rfl, rfl⟩)
  go_returns
  exact ⟨rfl, rfl⟩
theorem rthrough_no (t d : Int) (j : IsHi t) (h1 : 1 ≤ d) (h2 : d ≤ 1048576) (hq : -9223372036854775808 = t / d) (w : World) :
    Calls Try.prog 42 #[.int .i64 t, .int .i64 d] w fun e w' => e = .returned (.tuple #[.int .i64 0, .int .i64 60]) ∧ w = w' := by
  have c1 := rof_ok t d _ j h1 h2 hq
  clear hq
  go_enter Try.func42, Try.ntmps42
  go_wp2_with (go_at_call 38; refine (c1 _).mono ?_; rintro e w' ⟨rfl, rfl⟩)
  go_returns
  exact ⟨rfl, rfl⟩
theorem rthrough_bad (t d : Int) (h1 : d < 1 ∨ 1048576 < d) (w : World) :
    Calls Try.prog 42 #[.int .i64 t, .int .i64 d] w fun e w' => e = .returned (.tuple #[.int .i64 0, .int .i64 61]) ∧ w = w' := by
  have c1 := rof_bad t d h1
  clear h1
  go_enter Try.func42, Try.ntmps42
  go_wp2_with (go_at_call 38; refine (c1 _).mono ?_; rintro e w' ⟨rfl, rfl⟩)
  go_returns
  exact ⟨rfl, rfl⟩
abbrev Two (f : Nat) (t d q x : Int) : Prop := ∀ w, Calls Try.prog f #[.int .i64 t, .int .i64 d] w fun e w' => e = .returned (.tuple #[.int .i64 q, .int .i64 x]) ∧ w = w'
end Go.Proofs.Ytpkkcdbmhgmncaa
