/- WindowHolds: the walks. -/
import Derived.Test.YtobcjpgcafdjkaaWinlaw1
namespace Go.Proofs.Ytobcjpgcafdjkaa
set_option linter.unusedVariables false
open Go.RowKit W
abbrev OfIs (t d q : Int) : Prop := ∀ w, Calls Try.prog 14 #[.int .i64 t, .int .i64 d] w fun e w' => e = .returned (.tuple #[.int .i64 q, .int .i64 0]) ∧ w = w'
abbrev BeginIs (t d v x : Int) : Prop := ∀ w, Calls Try.prog 16 #[.int .i64 t, .int .i64 d] w fun e w' => e = .returned (.tuple #[.int .i64 v, .int .i64 x]) ∧ w = w'
abbrev EndIs (t d v x : Int) : Prop := ∀ w, Calls Try.prog 17 #[.int .i64 t, .int .i64 d] w fun e w' => e = .returned (.tuple #[.int .i64 v, .int .i64 x]) ∧ w = w'
theorem holds_bad (t d : Int) (h : d < 1 ∨ 1048576 < d) (w : World) :
    Calls Try.prog 5 #[.int .i64 t, .int .i64 d] w fun e w' => e = .returned (.bool true) ∧ w = w' := by
  have c0 := of_bad t d h
  rcases h with h | h
  · go_enter Try.func5, Try.ntmps5
    go_wp2_with (go_at_call 14; refine (c0 _).mono ?_; rintro e w' ⟨rfl, rfl⟩)
    go_returns
    exact ⟨rfl, rfl⟩
  · have h' : ¬ d < 1 := by omega
    go_enter Try.func5, Try.ntmps5
    go_wp2_with (go_at_call 14; refine (c0 _).mono ?_; rintro e w' ⟨rfl, rfl⟩)
    go_returns
    exact ⟨rfl, rfl⟩
theorem holds_in (t d q a b : Int) (h1 : 1 ≤ d) (h2 : d ≤ 1048576) (c1 : OfIs t d q) (c2 : BeginIs q d a 0) (c3 : EndIs q d b 0) (c4 : BeginIs (q + 1) d b 0)
    (m1 : a ≤ t) (m2 : t < b) (e1 : wrap64 (b - a) = d) (q1 : -9223372036854775808 ≤ q) (q2 : q < 9223372036854775807) (w : World) :
    Calls Try.prog 5 #[.int .i64 t, .int .i64 d] w fun e w' => e = .returned (.bool true) ∧ w = w' := by
  have c0 := awake_ok
  have n1 : ¬ d < 1 := by omega
  have n2 : ¬ 1048576 < d := by omega
  have n3 : (q == 9223372036854775807) = false := by simp; omega
  go_enter Try.func5, Try.ntmps5
  go_wp2_with fail
  refine (c1 _).mono ?_
  rintro e w' ⟨rfl, rfl⟩
  go_wp2_with fail
  refine (c0 _).mono ?_
  rintro e w' ⟨rfl, rfl⟩
  go_wp2_with fail
  refine (c2 _).mono ?_
  rintro e w' ⟨rfl, rfl⟩
  go_wp2_with fail
  refine (c3 _).mono ?_
  rintro e w' ⟨rfl, rfl⟩
  go_wp2_with fail
  refine (c4 _).mono ?_
  rintro e w' ⟨rfl, rfl⟩
  go_wp2_with fail
  go_returns
  exact ⟨rfl, rfl⟩
theorem holds_low (t d q b : Int) (h1 : 1 ≤ d) (h2 : d ≤ 1048576) (c1 : OfIs t d q) (c2 : BeginIs q d 0 60) (c3 : EndIs q d b 0) (c4 : BeginIs (q + 1) d b 0)
    (m1 : t < -9223372036854775808 + d) (m2 : t < b) (q1 : -9223372036854775808 ≤ q) (q2 : q < 9223372036854775807) (w : World) :
    Calls Try.prog 5 #[.int .i64 t, .int .i64 d] w fun e w' => e = .returned (.bool true) ∧ w = w' := by
  have c0 := awake_ok
  have n1 : ¬ d < 1 := by omega
  have n2 : ¬ 1048576 < d := by omega
  have n3 : (q == 9223372036854775807) = false := by simp; omega
  go_enter Try.func5, Try.ntmps5
  go_wp2_with fail
  refine (c1 _).mono ?_
  rintro e w' ⟨rfl, rfl⟩
  go_wp2_with fail
  refine (c0 _).mono ?_
  rintro e w' ⟨rfl, rfl⟩
  go_wp2_with fail
  refine (c2 _).mono ?_
  rintro e w' ⟨rfl, rfl⟩
  go_wp2_with fail
  refine (c3 _).mono ?_
  rintro e w' ⟨rfl, rfl⟩
  go_wp2_with fail
  refine (c4 _).mono ?_
  rintro e w' ⟨rfl, rfl⟩
  go_wp2_with fail
  go_returns
  exact ⟨rfl, rfl⟩
theorem holds_high (t d q a : Int) (h1 : 1 ≤ d) (h2 : d ≤ 1048576) (c1 : OfIs t d q) (c2 : BeginIs q d a 0) (c3 : EndIs q d 0 60) (c4 : q < 9223372036854775807 → BeginIs (q + 1) d 0 60)
    (m1 : a ≤ t) (m2 : 9223372036854775807 - d ≤ t) (q1 : -9223372036854775808 ≤ q) (q4 : q ≤ 9223372036854775807) (w : World) :
    Calls Try.prog 5 #[.int .i64 t, .int .i64 d] w fun e w' => e = .returned (.bool true) ∧ w = w' := by
  have c0 := awake_ok
  have n1 : ¬ d < 1 := by omega
  have n2 : ¬ 1048576 < d := by omega
  by_cases q2 : q < 9223372036854775807
  · have c4 := c4 q2
    have n3 : (q == 9223372036854775807) = false := by simp; omega
    go_enter Try.func5, Try.ntmps5
    go_wp2_with fail
    refine (c1 _).mono ?_
    rintro e w' ⟨rfl, rfl⟩
    go_wp2_with fail
    refine (c0 _).mono ?_
    rintro e w' ⟨rfl, rfl⟩
    go_wp2_with fail
    refine (c2 _).mono ?_
    rintro e w' ⟨rfl, rfl⟩
    go_wp2_with fail
    refine (c3 _).mono ?_
    rintro e w' ⟨rfl, rfl⟩
    go_wp2_with fail
    refine (c4 _).mono ?_
    rintro e w' ⟨rfl, rfl⟩
    go_wp2_with fail
    go_returns
    exact ⟨rfl, rfl⟩
  · clear c4
    obtain rfl : q = 9223372036854775807 := by omega
    go_enter Try.func5, Try.ntmps5
    go_wp2_with fail
    refine (c1 _).mono ?_
    rintro e w' ⟨rfl, rfl⟩
    go_wp2_with fail
    refine (c0 _).mono ?_
    rintro e w' ⟨rfl, rfl⟩
    go_wp2_with fail
    refine (c2 _).mono ?_
    rintro e w' ⟨rfl, rfl⟩
    go_wp2_with fail
    refine (c3 _).mono ?_
    rintro e w' ⟨rfl, rfl⟩
    go_wp2_with fail
    go_returns
    exact ⟨rfl, rfl⟩
theorem law_WindowHolds (t d : Int) (w0 : (Lit.int .i64 t).wf = true) (w1 : (Lit.int .i64 d).wf = true) (w : World) :
    Calls Try.prog 5 #[.int .i64 t, .int .i64 d] w fun e w' => e = .returned (.bool true) ∧ Below w.heap.size w w' := by
  have i0 := hi_of_wf w0
  suffices h : Calls Try.prog 5 #[.int .i64 t, .int .i64 d] w fun e w' => e = .returned (.bool true) ∧ w = w' from h.mono fun e w' ⟨he, hw⟩ => ⟨he, hw ▸ Below.refl _ _⟩
  by_cases h : d < 1 ∨ 1048576 < d
  · exact holds_bad t d h w
  · have h1 : 1 ≤ d := by omega
    have h2 : d ≤ 1048576 := by omega
    have jq := div_hi i0 h1
    obtain ⟨t1, t2⟩ := i0
    have k1 := jq.a
    have k2 := jq.b
    have f1 : t / d * d ≤ t := Int.ediv_mul_le t (by omega)
    have f2 : t < (t / d + 1) * d := Int.lt_ediv_add_one_mul_self t (by omega)
    have f3 : (t / d + 1) * d = t / d * d + d := by rw [Int.add_mul, Int.one_mul]
    have co := of_ok t d _ ⟨t1, t2⟩ h1 h2 rfl
    have cb := begin_ok (t / d) d jq h1 h2
    have ce := end_ok (t / d) d _ _ jq h1 h2 rfl rfl
    by_cases a : IsHi (t / d * d)
    · rw [begV_in a, begE_in a] at cb
      by_cases b : IsHi ((t / d + 1) * d)
      · rw [begV_in b, begE_in b] at ce
        obtain ⟨a1, a2⟩ := a
        have ql : t / d < 9223372036854775807 := by
          rcases Int.lt_or_le (t / d) 9223372036854775807 with x | x
          · exact x
          · exfalso
            have y : t / d = 9223372036854775807 := by omega
            have z : (t / d + 1) * d = 9223372036854775808 * d := by rw [y]; rfl
            have := b.b
            omega
        have cn := begin_ok (t / d + 1) d ⟨by omega, by omega⟩ h1 h2
        rw [begV_in b, begE_in b] at cn
        exact holds_in t d _ _ _ h1 h2 co cb ce cn f1 f2 (by rw [f3]; exact (wrap_in ⟨by omega, by omega⟩).trans (by omega)) k1 ql w
      · rw [begV_not b, begE_not b] at ce
        refine holds_high t d _ _ h1 h2 co cb ce (fun ql => ?_) f1 ?_ k1 (by omega) w
        · have cn := begin_ok (t / d + 1) d ⟨by omega, by omega⟩ h1 h2
          rw [begV_not b, begE_not b] at cn
          exact cn
        · have : 9223372036854775808 ≤ (t / d + 1) * d := by
            rcases Int.lt_or_le ((t / d + 1) * d) 9223372036854775808 with x | x
            · exact absurd ⟨by omega, x⟩ b
            · exact x
          omega
    · rw [begV_not a, begE_not a] at cb
      have al : t / d * d < -9223372036854775808 := by
        rcases Int.lt_or_le (t / d * d) (-9223372036854775808) with x | x
        · exact x
        · exact absurd ⟨x, by omega⟩ a
      have b : IsHi ((t / d + 1) * d) := ⟨by omega, by omega⟩
      rw [begV_in b, begE_in b] at ce
      have tn : t / d < 0 := div_neg1 h1 (by omega)
      have cn := begin_ok (t / d + 1) d ⟨by omega, by omega⟩ h1 h2
      rw [begV_in b, begE_in b] at cn
      exact holds_low t d _ _ h1 h2 co cb ce cn (by omega) f2 k1 (by omega) w
end Go.Proofs.Ytobcjpgcafdjkaa
