/- window: mayWidth, floor, Of, Begin, End, Through: what each call does. -/
import Derived.Test.YtobcjpgcafdjkaaProg
import Derived.Test.YtobcjpgcafdjkaaWinm
import Derived.WalkKit
import Derived.WalkSpells
import Derived.WalkLawsBesides
import Derived.Handy
namespace Go.Proofs.Ytobcjpgcafdjkaa
set_option linter.unusedVariables false
open Go.RowKit W
theorem win_ret_int {k : IntKind} {a b : Int} (h : a = b) : Ending.returned (.int k a) = .returned (.int k b) := by rw [h]
theorem beg_no {v : Int} (n : ¬ IsHi v) : Ending.returned (.tuple #[.int .i64 0, .int .i64 60]) = .returned (.tuple #[.int .i64 (begV v), .int .i64 (begE v)]) := by rw [begV_not n, begE_not n]
theorem beg_yes {v : Int} (n : IsHi v) : Ending.returned (.tuple #[.int .i64 (wrap64 v), .int .i64 0]) = .returned (.tuple #[.int .i64 (begV v), .int .i64 (begE v)]) := by rw [begV_in n, begE_in n, wrap_in n]
theorem win_ret2 {a b c : Int} (h : a = b) : Ending.returned (.tuple #[.int .i64 a, .int .i64 c]) = .returned (.tuple #[.int .i64 b, .int .i64 c]) := by rw [h]
theorem width_ok (d : Int) (h1 : 1 ≤ d) (h2 : d ≤ 1048576) (w : World) :
    Calls Try.prog 33 #[.int .i64 d] w fun e w' => e = .returned (.bool true) ∧ w = w' := by
  go_enter Try.func33, Try.ntmps33
  go_wp2
  go_ret
  exact ⟨rfl, rfl⟩
theorem width_bad (d : Int) (h1 : d < 1 ∨ 1048576 < d) (w : World) :
    Calls Try.prog 33 #[.int .i64 d] w fun e w' => e = .returned (.bool false) ∧ w = w' := by
  rcases h1 with h | h
  · go_enter Try.func33, Try.ntmps33
    go_wp2
    go_ret
    exact ⟨rfl, rfl⟩
  · have h' : 1 ≤ d := by omega
    have h'' : ¬ d ≤ 1048576 := by omega
    go_enter Try.func33, Try.ntmps33
    go_wp2
    go_ret
    exact ⟨rfl, rfl⟩
theorem floor_spec (t d q : Int) (j : IsHi t) (h1 : 1 ≤ d) (hq : q = t / d) (w : World) :
    Calls Try.prog 34 #[.int .i64 t, .int .i64 d] w fun e w' => e = .returned (.int .i64 q) ∧ w = w' := by
  subst hq
  go_enter Try.func34, Try.ntmps34
  go_wp2
  · go_ret
    exact ⟨win_ret_int (wrap_floor_neg j h1 ‹_›), rfl⟩
  · go_ret
    exact ⟨win_ret_int (wrap_floor_pos j h1 ‹_›), rfl⟩
theorem of_ok (t d q : Int) (j : IsHi t) (h1 : 1 ≤ d) (h2 : d ≤ 1048576) (hq : q = t / d) (w : World) :
    Calls Try.prog 14 #[.int .i64 t, .int .i64 d] w fun e w' => e = .returned (.tuple #[.int .i64 q, .int .i64 0]) ∧ w = w' := by
  have c1 := width_ok d h1 h2
  have c2 := floor_spec t d q j h1 hq
  clear hq
  go_enter Try.func14, Try.ntmps14
  go_wp2_with (first | (go_at_call 33; refine (c1 _).mono ?_; rintro e w' ⟨rfl, rfl⟩) | (go_at_call 34; refine (c2 _).mono ?_; rintro e w' ⟨rfl, rfl⟩))
  go_returns
  exact ⟨rfl, rfl⟩
theorem of_bad (t d : Int) (h1 : d < 1 ∨ 1048576 < d) (w : World) :
    Calls Try.prog 14 #[.int .i64 t, .int .i64 d] w fun e w' => e = .returned (.tuple #[.int .i64 0, .int .i64 61]) ∧ w = w' := by
  have c1 := width_bad d h1
  clear h1
  go_enter Try.func14, Try.ntmps14
  go_wp2_with (go_at_call 33; refine (c1 _).mono ?_; rintro e w' ⟨rfl, rfl⟩)
  go_returns
  exact ⟨rfl, rfl⟩
theorem begin_bad (t d : Int) (h1 : d < 1 ∨ 1048576 < d) (w : World) :
    Calls Try.prog 16 #[.int .i64 t, .int .i64 d] w fun e w' => e = .returned (.tuple #[.int .i64 0, .int .i64 61]) ∧ w = w' := by
  have c1 := width_bad d h1
  clear h1
  go_enter Try.func16, Try.ntmps16
  go_wp2_with (go_at_call 33; refine (c1 _).mono ?_; rintro e w' ⟨rfl, rfl⟩)
  go_returns
  exact ⟨rfl, rfl⟩
theorem begin_ok (t d : Int) (j : IsHi t) (h1 : 1 ≤ d) (h2 : d ≤ 1048576) (w : World) :
    Calls Try.prog 16 #[.int .i64 t, .int .i64 d] w fun e w' => e = .returned (.tuple #[.int .i64 (begV (t * d)), .int .i64 (begE (t * d))]) ∧ w = w' := by
  have c1 := width_ok d h1 h2
  go_enter Try.func16, Try.ntmps16
  go_wp2_with (go_at_call 33; refine (c1 _).mono ?_; rintro e w' ⟨rfl, rfl⟩)
  · go_returns
    have n : ¬ IsHi (t * d) := by
      rintro ⟨a, b⟩
      have := (beg_ge h1 (t := t)).2 a
      have := (beg_le h1 (t := t)).2 (by omega)
      omega
    exact ⟨beg_no n, rfl⟩
  · go_returns
    have n : IsHi (t * d) := by
      have := (beg_ge h1 (t := t)).1 (by omega)
      have := (beg_le h1 (t := t)).1 (by omega)
      exact ⟨by omega, by omega⟩
    exact ⟨beg_yes n, rfl⟩
  · go_returns
    have n : ¬ IsHi (t * d) := by
      rintro ⟨a, b⟩
      have := (beg_le h1 (t := t)).2 (by omega)
      omega
    exact ⟨beg_no n, rfl⟩
theorem end_bad (t d : Int) (h1 : d < 1 ∨ 1048576 < d) (w : World) :
    Calls Try.prog 17 #[.int .i64 t, .int .i64 d] w fun e w' => e = .returned (.tuple #[.int .i64 0, .int .i64 61]) ∧ w = w' := by
  have c1 := width_bad d h1
  have c2 := fun x => begin_bad x d h1
  clear h1
  go_enter Try.func17, Try.ntmps17
  go_wp2_with (first | (go_at_call 33; refine (c1 _).mono ?_; rintro e w' ⟨rfl, rfl⟩) | (go_at_call 16; refine (c2 _ _).mono ?_; rintro e w' ⟨rfl, rfl⟩))
  go_returns
  exact ⟨rfl, rfl⟩
theorem end_ok (t d v x : Int) (j : IsHi t) (h1 : 1 ≤ d) (h2 : d ≤ 1048576) (hv : v = begV ((t + 1) * d)) (hx : x = begE ((t + 1) * d)) (w : World) :
    Calls Try.prog 17 #[.int .i64 t, .int .i64 d] w fun e w' => e = .returned (.tuple #[.int .i64 v, .int .i64 x]) ∧ w = w' := by
  have c1 := width_ok d h1 h2
  by_cases g : t = 9223372036854775807
  · have n : ¬ IsHi ((t + 1) * d) := by
      rintro ⟨a, b⟩
      subst g
      have : (9223372036854775807 + 1 : Int) * d = 9223372036854775808 * d := rfl
      omega
    rw [begV_not n] at hv; rw [begE_not n] at hx
    subst hv hx g
    clear n
    go_enter Try.func17, Try.ntmps17
    go_wp2_with (first | (go_at_call 33; refine (c1 _).mono ?_; rintro e w' ⟨rfl, rfl⟩))
    go_returns
    exact ⟨rfl, rfl⟩
  · have j' : IsHi (t + 1) := by obtain ⟨a, b⟩ := j; exact ⟨by omega, by omega⟩
    have c2 := begin_ok (t + 1) d j' h1 h2
    rw [← hv, ← hx] at c2
    clear hv hx
    have g' : (t == 9223372036854775807) = false := by simpa using g
    have b := j'.b
    have a := j.a
    go_enter Try.func17, Try.ntmps17
    go_wp2_with (first | (go_at_call 33; refine (c1 _).mono ?_; rintro e w' ⟨rfl, rfl⟩) | (go_at_call 16; refine (c2 _).mono ?_; rintro e w' ⟨rfl, rfl⟩))
    go_returns
    exact ⟨rfl, rfl⟩
theorem through_ok (t d q : Int) (j : IsHi t) (h1 : 1 ≤ d) (h2 : d ≤ 1048576) (hq : q = t / d) (n : -9223372036854775808 < q) (w : World) :
    Calls Try.prog 20 #[.int .i64 t, .int .i64 d] w fun e w' => e = .returned (.tuple #[.int .i64 (q - 1), .int .i64 0]) ∧ w = w' := by
  have c1 := of_ok t d q j h1 h2 hq
  have k := div_hi j h1
  rw [← hq] at k
  have b := k.b
  clear hq k
  go_enter Try.func20, Try.ntmps20
  go_wp2_with (go_at_call 14; refine (c1 _).mono ?_; rintro e w' ⟨rfl, rfl⟩)
  go_returns
  exact ⟨rfl, rfl⟩
theorem through_no (t d : Int) (j : IsHi t) (h1 : 1 ≤ d) (h2 : d ≤ 1048576) (hq : -9223372036854775808 = t / d) (w : World) :
    Calls Try.prog 20 #[.int .i64 t, .int .i64 d] w fun e w' => e = .returned (.tuple #[.int .i64 0, .int .i64 60]) ∧ w = w' := by
  have c1 := of_ok t d _ j h1 h2 hq
  clear hq
  go_enter Try.func20, Try.ntmps20
  go_wp2_with (go_at_call 14; refine (c1 _).mono ?_; rintro e w' ⟨rfl, rfl⟩)
  go_returns
  exact ⟨rfl, rfl⟩
theorem through_bad (t d : Int) (h1 : d < 1 ∨ 1048576 < d) (w : World) :
    Calls Try.prog 20 #[.int .i64 t, .int .i64 d] w fun e w' => e = .returned (.tuple #[.int .i64 0, .int .i64 61]) ∧ w = w' := by
  have c1 := of_bad t d h1
  clear h1
  go_enter Try.func20, Try.ntmps20
  go_wp2_with (go_at_call 14; refine (c1 _).mono ?_; rintro e w' ⟨rfl, rfl⟩)
  go_returns
  exact ⟨rfl, rfl⟩
theorem awake_ok (w : World) :
    Calls Try.prog 13 #[] w fun e w' => e = .returned (.bool true) ∧ w = w' := by
  have c1 := of_ok 25 10 2 ⟨by omega, by omega⟩ (by omega) (by omega) rfl
  have c2 := of_ok (-1) 10 (-1) ⟨by omega, by omega⟩ (by omega) (by omega) rfl
  go_enter Try.func13, Try.ntmps13
  go_wp2_with fail
  refine (c1 _).mono ?_
  rintro e w' ⟨rfl, rfl⟩
  go_wp2_with fail
  refine (c2 _).mono ?_
  rintro e w' ⟨rfl, rfl⟩
  go_wp2_with fail
  go_returns
  exact ⟨rfl, rfl⟩
end Go.Proofs.Ytobcjpgcafdjkaa
