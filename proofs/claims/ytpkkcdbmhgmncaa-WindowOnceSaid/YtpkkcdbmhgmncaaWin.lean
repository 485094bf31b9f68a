/- window: mayWidth, floor, Of, Begin, End, Through: what each call does. -/
import Derived.Test.YtpkkcdbmhgmncaaProg
import Derived.Test.YtpkkcdbmhgmncaaWinm
import Derived.WalkKit
import Derived.WalkSpells
import Derived.WalkLawsBesides
import Derived.Handy
namespace Go.Proofs.Ytpkkcdbmhgmncaa
set_option linter.unusedVariables false
open Go.RowKit W
theorem win_ret_int {k : IntKind} {a b : Int} (h : a = b) : Ending.returned (.int k a) = .returned (.int k b) := by rw [h]
theorem beg_no {v : Int} (n : ¬ IsHi v) : Ending.returned (.tuple #[.int .i64 0, .int .i64 60]) = .returned (.tuple #[.int .i64 (begV v), .int .i64 (begE v)]) := by rw [begV_not n, begE_not n]
theorem beg_yes {v : Int} (n : IsHi v) : Ending.returned (.tuple #[.int .i64 (wrap64 v), .int .i64 0]) = .returned (.tuple #[.int .i64 (begV v), .int .i64 (begE v)]) := by rw [begV_in n, begE_in n, wrap_in n]
theorem win_ret2 {a b c : Int} (h : a = b) : Ending.returned (.tuple #[.int .i64 a, .int .i64 c]) = .returned (.tuple #[.int .i64 b, .int .i64 c]) := by rw [h]
theorem width_ok (d : Int) (h1 : 1 ≤ d) (h2 : d ≤ 1048576) (w : World) :
    Calls Try.prog 34 #[.int .i64 d] w fun e w' => e = .returned (.bool true) ∧ w = w' := by
  go_enter Try.func34, Try.ntmps34
  go_wp2
  go_ret
  exact ⟨rfl, rfl⟩
theorem width_bad (d : Int) (h1 : d < 1 ∨ 1048576 < d) (w : World) :
    Calls Try.prog 34 #[.int .i64 d] w fun e w' => e = .returned (.bool false) ∧ w = w' := by
  rcases h1 with h | h
  · go_enter Try.func34, Try.ntmps34
    go_wp2
    go_ret
    exact ⟨rfl, rfl⟩
  · have h' : 1 ≤ d := by omega
    have h'' : ¬ d ≤ 1048576 := by omega
    go_enter Try.func34, Try.ntmps34
    go_wp2
    go_ret
    exact ⟨rfl, rfl⟩
theorem floor_spec (t d q : Int) (j : IsHi t) (h1 : 1 ≤ d) (hq : q = t / d) (w : World) :
    Calls Try.prog 37 #[.int .i64 t, .int .i64 d] w fun e w' => e = .returned (.int .i64 q) ∧ w = w' := by
  subst hq
  go_enter Try.func37, Try.ntmps37
  go_wp2
  · go_ret
    exact ⟨win_ret_int (wrap_floor_neg j h1 ‹_›), rfl⟩
  · go_ret
    exact ⟨win_ret_int (wrap_floor_pos j h1 ‹_›), rfl⟩
theorem of_ok (t d q : Int) (j : IsHi t) (h1 : 1 ≤ d) (h2 : d ≤ 1048576) (hq : q = t / d) (w : World) :
    Calls Try.prog 21 #[.int .i64 t, .int .i64 d] w fun e w' => e = .returned (.tuple #[.int .i64 q, .int .i64 0]) ∧ w = w' := by
  have c1 := width_ok d h1 h2
  have c2 := floor_spec t d q j h1 hq
  clear hq
  go_enter Try.func21, Try.ntmps21
  go_wp2_with (first | (go_at_call 34; refine (c1 _).mono ?_; rintro e w' ⟨rfl, rfl⟩) | (go_at_call 37; refine (c2 _).mono ?_; rintro e w' ⟨rfl, rfl⟩))
  go_returns
  exact ⟨rfl, rfl⟩
theorem of_bad (t d : Int) (h1 : d < 1 ∨ 1048576 < d) (w : World) :
    Calls Try.prog 21 #[.int .i64 t, .int .i64 d] w fun e w' => e = .returned (.tuple #[.int .i64 0, .int .i64 61]) ∧ w = w' := by
  have c1 := width_bad d h1
  clear h1
  go_enter Try.func21, Try.ntmps21
  go_wp2_with (go_at_call 34; refine (c1 _).mono ?_; rintro e w' ⟨rfl, rfl⟩)
  go_returns
  exact ⟨rfl, rfl⟩
theorem through_ok (t d q : Int) (j : IsHi t) (h1 : 1 ≤ d) (h2 : d ≤ 1048576) (hq : q = t / d) (n : -9223372036854775808 < q) (w : World) :
    Calls Try.prog 40 #[.int .i64 t, .int .i64 d] w fun e w' => e = .returned (.tuple #[.int .i64 (q - 1), .int .i64 0]) ∧ w = w' := by
  have c1 := of_ok t d q j h1 h2 hq
  have k := div_hi j h1
  rw [← hq] at k
  have b := k.b
  clear hq k
  go_enter Try.func40, Try.ntmps40
  go_wp2_with (go_at_call 21; refine (c1 _).mono ?_; rintro e w' ⟨rfl, rfl⟩)
  go_returns
  exact ⟨rfl, rfl⟩
theorem through_no (t d : Int) (j : IsHi t) (h1 : 1 ≤ d) (h2 : d ≤ 1048576) (hq : -9223372036854775808 = t / d) (w : World) :
    Calls Try.prog 40 #[.int .i64 t, .int .i64 d] w fun e w' => e = .returned (.tuple #[.int .i64 0, .int .i64 60]) ∧ w = w' := by
  have c1 := of_ok t d _ j h1 h2 hq
  clear hq
  go_enter Try.func40, Try.ntmps40
  go_wp2_with (go_at_call 21; refine (c1 _).mono ?_; rintro e w' ⟨rfl, rfl⟩)
  go_returns
  exact ⟨rfl, rfl⟩
theorem through_bad (t d : Int) (h1 : d < 1 ∨ 1048576 < d) (w : World) :
    Calls Try.prog 40 #[.int .i64 t, .int .i64 d] w fun e w' => e = .returned (.tuple #[.int .i64 0, .int .i64 61]) ∧ w = w' := by
  have c1 := of_bad t d h1
  clear h1
  go_enter Try.func40, Try.ntmps40
  go_wp2_with (go_at_call 21; refine (c1 _).mono ?_; rintro e w' ⟨rfl, rfl⟩)
  go_returns
  exact ⟨rfl, rfl⟩
theorem awake_ok (w : World) :
    Calls Try.prog 13 #[] w fun e w' => e = .returned (.bool true) ∧ w = w' := by
  have c1 := of_ok 25 10 2 ⟨by omega, by omega⟩ (by omega) (by omega) rfl
  have c2 := of_ok (-1) 10 (-1) ⟨by omega, by omega⟩ (by omega) (by omega) rfl
  go_enter Try.func13, Try.ntmps13
  go_wp2_with fail
  refine (c1 _).mono ?_
  rintro e w' ⟨rfl, rfl⟩
  go_wp2_with fail
  refine (c2 _).mono ?_
  rintro e w' ⟨rfl, rfl⟩
  go_wp2_with fail
  go_returns
  exact ⟨rfl, rfl⟩
end Go.Proofs.Ytpkkcdbmhgmncaa
