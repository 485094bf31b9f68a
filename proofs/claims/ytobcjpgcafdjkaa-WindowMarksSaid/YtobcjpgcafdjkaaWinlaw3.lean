/- WindowMarks: the walks. -/
import Derived.Test.YtobcjpgcafdjkaaWinlaw2
namespace Go.Proofs.Ytobcjpgcafdjkaa
set_option linter.unusedVariables false
open Go.RowKit W
abbrev ThroughIs (t d q x : Int) : Prop := ∀ w, Calls Try.prog 20 #[.int .i64 t, .int .i64 d] w fun e w' => e = .returned (.tuple #[.int .i64 q, .int .i64 x]) ∧ w = w'
abbrev MarksTrue (t d : Int) (w : World) : Prop := Calls Try.prog 7 #[.int .i64 t, .int .i64 d] w fun e w' => e = .returned (.bool true) ∧ w = w'
theorem marks_bad (t d : Int) (h : d < 1 ∨ 1048576 < d) (w : World) : MarksTrue t d w := by
  have c0 := awake_ok
  unfold MarksTrue
  have h' : d < 1 ∨ ¬ d < 1 := by omega
  rcases h' with h' | h'
  · go_enter Try.func7, Try.ntmps7
    go_wp2_with fail
    refine (c0 _).mono ?_
    rintro e w' ⟨rfl, rfl⟩
    go_wp2_with fail
    go_returns
    exact ⟨rfl, rfl⟩
  · have h2 : 1048576 < d := by omega
    go_enter Try.func7, Try.ntmps7
    go_wp2_with fail
    refine (c0 _).mono ?_
    rintro e w' ⟨rfl, rfl⟩
    go_wp2_with fail
    go_returns
    exact ⟨rfl, rfl⟩
theorem marks_least (w : World) (c1 : ThroughIs (-9223372036854775808) 1 0 60) : MarksTrue (-9223372036854775808) 1 w := by
  have c0 := awake_ok
  unfold MarksTrue
  go_enter Try.func7, Try.ntmps7
  go_wp2_with fail
  refine (c0 _).mono ?_
  rintro e w' ⟨rfl, rfl⟩
  go_wp2_with fail
  refine (c1 _).mono ?_
  rintro e w' ⟨rfl, rfl⟩
  go_wp2_with fail
  go_returns
  exact ⟨rfl, rfl⟩
theorem marks_in (t d q a b : Int) (h1 : 1 ≤ d) (h2 : d ≤ 1048576) (c1 : ThroughIs t d q 0) (c2 : EndIs q d a 0) (c3 : EndIs (q + 1) d b 0)
    (m1 : a ≤ t) (m2 : t < b) (q1 : -9223372036854775808 ≤ q) (q2 : q < 9223372036854775807) (w : World) : MarksTrue t d w := by
  have c0 := awake_ok
  have n1 : ¬ d < 1 := by omega
  have n2 : ¬ 1048576 < d := by omega
  unfold MarksTrue
  go_enter Try.func7, Try.ntmps7
  go_wp2_with fail
  refine (c0 _).mono ?_
  rintro e w' ⟨rfl, rfl⟩
  go_wp2_with fail
  refine (c1 _).mono ?_
  rintro e w' ⟨rfl, rfl⟩
  go_wp2_with fail
  refine (c2 _).mono ?_
  rintro e w' ⟨rfl, rfl⟩
  go_wp2_with fail
  refine (c3 _).mono ?_
  rintro e w' ⟨rfl, rfl⟩
  go_wp2_with fail
  go_returns
  exact ⟨rfl, rfl⟩
theorem marks_high (t d q a : Int) (h1 : 1 ≤ d) (h2 : d ≤ 1048576) (c1 : ThroughIs t d q 0) (c2 : EndIs q d a 0) (c3 : EndIs (q + 1) d 0 60)
    (m1 : a ≤ t) (m2 : 9223372036854775807 - d < t) (q1 : -9223372036854775808 ≤ q) (q2 : q < 9223372036854775807) (w : World) : MarksTrue t d w := by
  have c0 := awake_ok
  have n1 : ¬ d < 1 := by omega
  have n2 : ¬ 1048576 < d := by omega
  unfold MarksTrue
  go_enter Try.func7, Try.ntmps7
  go_wp2_with fail
  refine (c0 _).mono ?_
  rintro e w' ⟨rfl, rfl⟩
  go_wp2_with fail
  refine (c1 _).mono ?_
  rintro e w' ⟨rfl, rfl⟩
  go_wp2_with fail
  refine (c2 _).mono ?_
  rintro e w' ⟨rfl, rfl⟩
  go_wp2_with fail
  refine (c3 _).mono ?_
  rintro e w' ⟨rfl, rfl⟩
  go_wp2_with fail
  go_returns
  exact ⟨rfl, rfl⟩
theorem marks_low (t d q b x : Int) (h1 : 1 ≤ d) (h2 : d ≤ 1048576) (c1 : ThroughIs t d q 0) (c2 : EndIs q d 0 60) (c3 : EndIs (q + 1) d b x)
    (m1 : t < -9223372036854775808 + 2 * d) (q1 : -9223372036854775808 ≤ q) (q2 : q < 9223372036854775807) (w : World) : MarksTrue t d w := by
  have c0 := awake_ok
  have n1 : ¬ d < 1 := by omega
  have n2 : ¬ 1048576 < d := by omega
  unfold MarksTrue
  go_enter Try.func7, Try.ntmps7
  go_wp2_with fail
  refine (c0 _).mono ?_
  rintro e w' ⟨rfl, rfl⟩
  go_wp2_with fail
  refine (c1 _).mono ?_
  rintro e w' ⟨rfl, rfl⟩
  go_wp2_with fail
  refine (c2 _).mono ?_
  rintro e w' ⟨rfl, rfl⟩
  go_wp2_with fail
  refine (c3 _).mono ?_
  rintro e w' ⟨rfl, rfl⟩
  go_wp2_with fail
  go_returns
  exact ⟨rfl, rfl⟩
theorem law_WindowMarks (t d : Int) (w0 : (Lit.int .i64 t).wf = true) (w1 : (Lit.int .i64 d).wf = true) (w : World) :
    Calls Try.prog 7 #[.int .i64 t, .int .i64 d] w fun e w' => e = .returned (.bool true) ∧ Below w.heap.size w w' := by
  have i0 := hi_of_wf w0
  suffices h : MarksTrue t d w from h.mono fun e w' ⟨he, hw⟩ => ⟨he, hw ▸ Below.refl _ _⟩
  by_cases h : d < 1 ∨ 1048576 < d
  · exact marks_bad t d h w
  · have h1 : 1 ≤ d := by omega
    have h2 : d ≤ 1048576 := by omega
    have jq := div_hi i0 h1
    obtain ⟨t1, t2⟩ := i0
    have k1 := jq.a
    have k2 := jq.b
    have f1 : t / d * d ≤ t := Int.ediv_mul_le t (by omega)
    have f2 : t < (t / d + 1) * d := Int.lt_ediv_add_one_mul_self t (by omega)
    have f3 : (t / d + 1) * d = t / d * d + d := by rw [Int.add_mul, Int.one_mul]
    by_cases z : t / d = -9223372036854775808
    · have e1 : -9223372036854775808 * d ≤ t := by rw [z] at f1; exact f1
      have hd : d = 1 := by rw [z] at f2; omega
      have ht : t = -9223372036854775808 := by rw [z, hd] at f2; omega
      subst hd ht
      exact marks_least w (through_no _ _ ⟨by omega, by omega⟩ (by omega) (by omega) (by decide))
    · have ct := through_ok t d _ ⟨t1, t2⟩ h1 h2 rfl (by omega)
      have ce := end_ok (t / d - 1) d _ _ ⟨by omega, by omega⟩ h1 h2 rfl rfl
      have cf := end_ok (t / d - 1 + 1) d _ _ ⟨by omega, by omega⟩ h1 h2 rfl rfl
      have g1 : t / d - 1 + 1 = t / d := by omega
      rw [g1] at ce
      by_cases a : IsHi (t / d * d)
      · rw [begV_in a, begE_in a] at ce
        obtain ⟨a1, a2⟩ := a
        by_cases b : IsHi ((t / d + 1) * d)
        · rw [g1, begV_in b, begE_in b] at cf
          rw [← g1] at cf
          exact marks_in t d _ _ _ h1 h2 ct ce cf f1 (by rw [g1]; exact f2) (by omega) (by omega) w
        · rw [g1, begV_not b, begE_not b] at cf
          rw [← g1] at cf
          refine marks_high t d _ _ h1 h2 ct ce cf f1 ?_ (by omega) (by omega) w
          have : 9223372036854775808 ≤ (t / d + 1) * d := by
            rcases Int.lt_or_le ((t / d + 1) * d) 9223372036854775808 with x | x
            · exact absurd ⟨by omega, x⟩ b
            · exact x
          omega
      · rw [begV_not a, begE_not a] at ce
        have al : t / d * d < -9223372036854775808 := by
          rcases Int.lt_or_le (t / d * d) (-9223372036854775808) with x | x
          · exact x
          · exact absurd ⟨x, by omega⟩ a
        exact marks_low t d _ _ _ h1 h2 ct ce cf (by omega) (by omega) (by omega) w
end Go.Proofs.Ytobcjpgcafdjkaa
