/- The reference's Of, Begin, End, Through; WindowThroughs, WindowOfs. -/
import Derived.Test.YtobcjpgcafdjkaaWinlaw1
namespace Go.Proofs.Ytobcjpgcafdjkaa
set_option linter.unusedVariables false
open Go.RowKit W
theorem rbad_no (d : Int) (h1 : 1 ≤ d) (h2 : d ≤ 1048576) (w : World) :
    Calls Try.prog 35 #[.int .i64 d] w fun e w' => e = .returned (.bool false) ∧ w = w' := by
  go_enter Try.func35, Try.ntmps35
  go_wp2
  go_ret
  exact ⟨by first | rfl | (simp; omega), rfl⟩
theorem rbad_yes (d : Int) (h1 : d < 1 ∨ 1048576 < d) (w : World) :
    Calls Try.prog 35 #[.int .i64 d] w fun e w' => e = .returned (.bool true) ∧ w = w' := by
  rcases h1 with h | h
  · go_enter Try.func35, Try.ntmps35
    go_wp2
    go_ret
    exact ⟨by first | rfl | (simp; omega), rfl⟩
  · have h' : ¬ d < 1 := by omega
    go_enter Try.func35, Try.ntmps35
    go_wp2
    go_ret
    exact ⟨by first | rfl | (simp; omega), rfl⟩
theorem rof_ok (t d q : Int) (j : IsHi t) (h1 : 1 ≤ d) (h2 : d ≤ 1048576) (hq : q = t / d) (w : World) :
    Calls Try.prog 22 #[.int .i64 t, .int .i64 d] w fun e w' => e = .returned (.tuple #[.int .i64 q, .int .i64 0]) ∧ w = w' := by
  subst hq
  have c1 := rbad_no d h1 h2
  go_enter Try.func22, Try.ntmps22
  go_wp2_with (go_at_call 35; refine (c1 _).mono ?_; rintro e w' ⟨rfl, rfl⟩)
  · go_returns
    have e := wrap_floor_neg j h1 ‹_›
    exact ⟨win_ret2 e, rfl⟩
  · go_returns
    have e := wrap_floor_pos j h1 ‹_›
    exact ⟨win_ret2 e, rfl⟩
theorem rof_bad (t d : Int) (h1 : d < 1 ∨ 1048576 < d) (w : World) :
    Calls Try.prog 22 #[.int .i64 t, .int .i64 d] w fun e w' => e = .returned (.tuple #[.int .i64 0, .int .i64 61]) ∧ w = w' := by
  have c1 := rbad_yes d h1
  clear h1
  go_enter Try.func22, Try.ntmps22
  go_wp2_with (go_at_call 35; refine (c1 _).mono ?_; rintro e w' ⟨rfl, rfl⟩)
  go_returns
  exact ⟨rfl, rfl⟩
theorem rbegin_bad (t d : Int) (h1 : d < 1 ∨ 1048576 < d) (w : World) :
    Calls Try.prog 23 #[.int .i64 t, .int .i64 d] w fun e w' => e = .returned (.tuple #[.int .i64 0, .int .i64 61]) ∧ w = w' := by
  have c1 := rbad_yes d h1
  clear h1
  go_enter Try.func23, Try.ntmps23
  go_wp2_with (go_at_call 35; refine (c1 _).mono ?_; rintro e w' ⟨rfl, rfl⟩)
  go_returns
  exact ⟨rfl, rfl⟩
theorem rbegin_ok (t d : Int) (h1 : 1 ≤ d) (h2 : d ≤ 1048576) (w : World) :
    Calls Try.prog 23 #[.int .i64 t, .int .i64 d] w fun e w' => e = .returned (.tuple #[.int .i64 (begV (t * d)), .int .i64 (begE (t * d))]) ∧ w = w' := by
  have c1 := rbad_no d h1 h2
  go_enter Try.func23, Try.ntmps23
  go_wp2_with (go_at_call 35; refine (c1 _).mono ?_; rintro e w' ⟨rfl, rfl⟩)
  · go_returns
    have n : ¬ IsHi (t * d) := by
      rintro ⟨a, b⟩
      have := (beg_ge h1 (t := t)).2 a
      have := (beg_le h1 (t := t)).2 (by omega)
      omega
    exact ⟨beg_no n, rfl⟩
  · go_returns
    have n : IsHi (t * d) := by
      have := (beg_ge h1 (t := t)).1 (by omega)
      have := (beg_le h1 (t := t)).1 (by omega)
      exact ⟨by omega, by omega⟩
    exact ⟨beg_yes n, rfl⟩
  · go_returns
    have n : ¬ IsHi (t * d) := by
      rintro ⟨a, b⟩
      have := (beg_le h1 (t := t)).2 (by omega)
      omega
    exact ⟨beg_no n, rfl⟩
theorem rend_bad (t d : Int) (h1 : d < 1 ∨ 1048576 < d) (w : World) :
    Calls Try.prog 24 #[.int .i64 t, .int .i64 d] w fun e w' => e = .returned (.tuple #[.int .i64 0, .int .i64 61]) ∧ w = w' := by
  have c1 := rbad_yes d h1
  clear h1
  go_enter Try.func24, Try.ntmps24
  go_wp2_with (go_at_call 35; refine (c1 _).mono ?_; rintro e w' ⟨rfl, rfl⟩)
  go_returns
  exact ⟨rfl, rfl⟩
theorem rend_ok (t d v x : Int) (j : IsHi t) (h1 : 1 ≤ d) (h2 : d ≤ 1048576) (hv : v = begV ((t + 1) * d)) (hx : x = begE ((t + 1) * d)) (w : World) :
    Calls Try.prog 24 #[.int .i64 t, .int .i64 d] w fun e w' => e = .returned (.tuple #[.int .i64 v, .int .i64 x]) ∧ w = w' := by
  have c1 := rbad_no d h1 h2
  by_cases g : t = 9223372036854775807
  · have n : ¬ IsHi ((t + 1) * d) := by
      rintro ⟨a, b⟩
      subst g
      have : (9223372036854775807 + 1 : Int) * d = 9223372036854775808 * d := rfl
      omega
    rw [begV_not n] at hv; rw [begE_not n] at hx
    subst hv hx g
    clear n
    go_enter Try.func24, Try.ntmps24
    go_wp2_with (first | (go_at_call 35; refine (c1 _).mono ?_; rintro e w' ⟨rfl, rfl⟩))
    go_returns
    exact ⟨rfl, rfl⟩
  · have c2 := rbegin_ok (t + 1) d h1 h2
    rw [← hv, ← hx] at c2
    clear hv hx
    have g' : (t == 9223372036854775807) = false := by simpa using g
    have b : t < 9223372036854775807 := by have := j.b; omega
    have a := j.a
    go_enter Try.func24, Try.ntmps24
    go_wp2_with (first | (go_at_call 35; refine (c1 _).mono ?_; rintro e w' ⟨rfl, rfl⟩) | (go_at_call 23; refine (c2 _).mono ?_; rintro e w' ⟨rfl, rfl⟩))
    go_returns
    exact ⟨rfl, rfl⟩
theorem rthrough_ok (t d q : Int) (j : IsHi t) (h1 : 1 ≤ d) (h2 : d ≤ 1048576) (hq : q = t / d) (n : -9223372036854775808 < q) (w : World) :
    Calls Try.prog 21 #[.int .i64 t, .int .i64 d] w fun e w' => e = .returned (.tuple #[.int .i64 (q - 1), .int .i64 0]) ∧ w = w' := by
  have c1 := rof_ok t d q j h1 h2 hq
  have k := div_hi j h1
  rw [← hq] at k
  have b := k.b
  clear hq k
  go_enter Try.func21, Try.ntmps21
  go_wp2_with (go_at_call 22; refine (c1 _).mono ?_; rintro e w' ⟨rfl, rfl⟩)
  go_returns
  exact ⟨rfl, rfl⟩
theorem rthrough_no (t d : Int) (j : IsHi t) (h1 : 1 ≤ d) (h2 : d ≤ 1048576) (hq : -9223372036854775808 = t / d) (w : World) :
    Calls Try.prog 21 #[.int .i64 t, .int .i64 d] w fun e w' => e = .returned (.tuple #[.int .i64 0, .int .i64 60]) ∧ w = w' := by
  have c1 := rof_ok t d _ j h1 h2 hq
  clear hq
  go_enter Try.func21, Try.ntmps21
  go_wp2_with (go_at_call 22; refine (c1 _).mono ?_; rintro e w' ⟨rfl, rfl⟩)
  go_returns
  exact ⟨rfl, rfl⟩
theorem rthrough_bad (t d : Int) (h1 : d < 1 ∨ 1048576 < d) (w : World) :
    Calls Try.prog 21 #[.int .i64 t, .int .i64 d] w fun e w' => e = .returned (.tuple #[.int .i64 0, .int .i64 61]) ∧ w = w' := by
  have c1 := rof_bad t d h1
  clear h1
  go_enter Try.func21, Try.ntmps21
  go_wp2_with (go_at_call 22; refine (c1 _).mono ?_; rintro e w' ⟨rfl, rfl⟩)
  go_returns
  exact ⟨rfl, rfl⟩
abbrev Two (f : Nat) (t d q x : Int) : Prop := ∀ w, Calls Try.prog f #[.int .i64 t, .int .i64 d] w fun e w' => e = .returned (.tuple #[.int .i64 q, .int .i64 x]) ∧ w = w'
theorem throughs_any (t d q x : Int) (c1 : Two 20 t d q x) (c2 : Two 21 t d q x) (w : World) :
    Calls Try.prog 8 #[.int .i64 t, .int .i64 d] w fun e w' => e = .returned (.bool true) ∧ w = w' := by
  have c3 := through_ok 30 10 3 ⟨by omega, by omega⟩ (by omega) (by omega) rfl (by omega)
  go_enter Try.func8, Try.ntmps8
  go_wp2_with fail
  refine (c1 _).mono ?_
  rintro e w' ⟨rfl, rfl⟩
  go_wp2_with fail
  refine (c2 _).mono ?_
  rintro e w' ⟨rfl, rfl⟩
  go_wp2_with fail
  refine (c3 _).mono ?_
  rintro e w' ⟨rfl, rfl⟩
  go_wp2_with fail
  go_returns
  exact ⟨rfl, rfl⟩
theorem law_WindowThroughs (t d : Int) (w0 : (Lit.int .i64 t).wf = true) (w1 : (Lit.int .i64 d).wf = true) (w : World) :
    Calls Try.prog 8 #[.int .i64 t, .int .i64 d] w fun e w' => e = .returned (.bool true) ∧ Below w.heap.size w w' := by
  have i0 := win_hi_of_wf w0
  suffices h : Calls Try.prog 8 #[.int .i64 t, .int .i64 d] w fun e w' => e = .returned (.bool true) ∧ w = w' from h.mono fun e w' ⟨he, hw⟩ => ⟨he, hw ▸ Below.refl _ _⟩
  by_cases h : d < 1 ∨ 1048576 < d
  · exact throughs_any t d _ _ (through_bad t d h) (rthrough_bad t d h) w
  · have h1 : 1 ≤ d := by omega
    have h2 : d ≤ 1048576 := by omega
    have jq := div_hi i0 h1
    by_cases z : -9223372036854775808 = t / d
    · exact throughs_any t d _ _ (through_no t d i0 h1 h2 z) (rthrough_no t d i0 h1 h2 z) w
    · have := jq.a
      exact throughs_any t d _ _ (through_ok t d _ i0 h1 h2 rfl (by omega)) (rthrough_ok t d _ i0 h1 h2 rfl (by omega)) w
theorem ofs_any (t d q x a y b z : Int) (c1 : Two 14 t d q x) (c2 : Two 22 t d q x)
    (c3 : Two 16 t d a y) (c4 : Two 23 t d a y) (c5 : Two 17 t d b z) (c6 : Two 24 t d b z) (w : World) :
    Calls Try.prog 9 #[.int .i64 t, .int .i64 d] w fun e w' => e = .returned (.bool true) ∧ w = w' := by
  have c0 := awake_ok
  go_enter Try.func9, Try.ntmps9
  go_wp2_with fail
  refine (c1 _).mono ?_
  rintro e w' ⟨rfl, rfl⟩
  go_wp2_with fail
  refine (c2 _).mono ?_
  rintro e w' ⟨rfl, rfl⟩
  go_wp2_with fail
  refine (c3 _).mono ?_
  rintro e w' ⟨rfl, rfl⟩
  go_wp2_with fail
  refine (c4 _).mono ?_
  rintro e w' ⟨rfl, rfl⟩
  go_wp2_with fail
  refine (c5 _).mono ?_
  rintro e w' ⟨rfl, rfl⟩
  go_wp2_with fail
  refine (c6 _).mono ?_
  rintro e w' ⟨rfl, rfl⟩
  go_wp2_with fail
  refine (c0 _).mono ?_
  rintro e w' ⟨rfl, rfl⟩
  go_wp2_with fail
  go_returns
  exact ⟨rfl, rfl⟩
theorem law_WindowOfs (t d : Int) (w0 : (Lit.int .i64 t).wf = true) (w1 : (Lit.int .i64 d).wf = true) (w : World) :
    Calls Try.prog 9 #[.int .i64 t, .int .i64 d] w fun e w' => e = .returned (.bool true) ∧ Below w.heap.size w w' := by
  have i0 := win_hi_of_wf w0
  suffices h : Calls Try.prog 9 #[.int .i64 t, .int .i64 d] w fun e w' => e = .returned (.bool true) ∧ w = w' from h.mono fun e w' ⟨he, hw⟩ => ⟨he, hw ▸ Below.refl _ _⟩
  by_cases h : d < 1 ∨ 1048576 < d
  · exact ofs_any t d _ _ _ _ _ _ (of_bad t d h) (rof_bad t d h) (begin_bad t d h) (rbegin_bad t d h) (end_bad t d h) (rend_bad t d h) w
  · have h1 : 1 ≤ d := by omega
    have h2 : d ≤ 1048576 := by omega
    exact ofs_any t d _ _ _ _ _ _ (of_ok t d _ i0 h1 h2 rfl) (rof_ok t d _ i0 h1 h2 rfl) (begin_ok t d i0 h1 h2) (rbegin_ok t d h1 h2) (end_ok t d _ _ i0 h1 h2 rfl rfl) (rend_ok t d _ _ i0 h1 h2 rfl rfl) w
end Go.Proofs.Ytobcjpgcafdjkaa
