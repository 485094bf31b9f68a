/- WindowOrders, WindowHolds, WindowMarks: the walks. -/
import Derived.Test.YtobcjpgcafdjkaaWin
namespace Go.Proofs.Ytobcjpgcafdjkaa
set_option linter.unusedVariables false
open Go.RowKit W
theorem div_mono {t l d : Int} (h : 1 ≤ d) (k : t ≤ l) : t / d ≤ l / d := Int.ediv_le_ediv (by omega) k
theorem mod1000 (l : Int) : -1000 < l.tmod 1000 ∧ l.tmod 1000 < 1000 := ⟨by have := Int.lt_tmod_of_pos l (show (0:Int) < 1000 by omega); omega, Int.tmod_lt_of_pos l (by omega)⟩
theorem kd_bound {k d : Int} (h1 : 1 ≤ d) (h2 : d ≤ 1048576) (k1 : -1000 < k) (k2 : k < 1000) : -1048576000 ≤ k * d ∧ k * d ≤ 1048576000 := by
  have a : k * d ≤ 1000 * d := Int.mul_le_mul_of_nonneg_right (by omega) (by omega)
  have b : -1000 * d ≤ k * d := Int.mul_le_mul_of_nonneg_right (by omega) (by omega)
  omega
theorem orders_bad (t l d : Int) (h : d < 1 ∨ 1048576 < d) (w : World) :
    Calls Try.prog 3 #[.int .i64 t, .int .i64 l, .int .i64 d] w fun e w' => e = .returned (.bool true) ∧ w = w' := by
  have c0 := awake_ok
  rcases h with h | h
  · go_enter Try.func3, Try.ntmps3
    go_wp2_with (go_at_call 13; refine (c0 _).mono ?_; rintro e w' ⟨rfl, rfl⟩)
    go_returns
    exact ⟨rfl, rfl⟩
  · have h' : ¬ d < 1 := by omega
    go_enter Try.func3, Try.ntmps3
    go_wp2_with (go_at_call 13; refine (c0 _).mono ?_; rintro e w' ⟨rfl, rfl⟩)
    go_returns
    exact ⟨rfl, rfl⟩
theorem orders_ok (t l d a b k p : Int) (h1 : 1 ≤ d) (h2 : d ≤ 1048576) (ca : ∀ w, Calls Try.prog 14 #[.int .i64 t, .int .i64 d] w fun e w' => e = .returned (.tuple #[.int .i64 a, .int .i64 0]) ∧ w = w')
    (cb : ∀ w, Calls Try.prog 14 #[.int .i64 l, .int .i64 d] w fun e w' => e = .returned (.tuple #[.int .i64 b, .int .i64 0]) ∧ w = w')
    (cc : -4611686018427387904 ≤ t → t ≤ 4611686018427387904 → ∀ w, Calls Try.prog 14 #[.int .i64 (t + p), .int .i64 d] w fun e w' => e = .returned (.tuple #[.int .i64 (a + k), .int .i64 0]) ∧ w = w')
    (m1 : t ≤ l → a ≤ b) (m2 : l ≤ t → b ≤ a) (ek : l.tmod 1000 = k) (ep : wrap64 (k * d) = p) (p1 : -1048576000 ≤ p) (p2 : p ≤ 1048576000) (a1 : -9223372036854774808 ≤ a + k) (a2 : a + k < 9223372036854775807)
    (w : World) : Calls Try.prog 3 #[.int .i64 t, .int .i64 l, .int .i64 d] w fun e w' => e = .returned (.bool true) ∧ w = w' := by
  have c0 := awake_ok
  have n1 : ¬ d < 1 := by omega
  have n2 : ¬ 1048576 < d := by omega
  go_enter Try.func3, Try.ntmps3
  go_wp2_with (go_at_call 13; refine (c0 _).mono ?_; rintro e w' ⟨rfl, rfl⟩)
  refine (ca _).mono ?_
  rintro e w' ⟨rfl, rfl⟩
  go_wp2_with fail
  refine (cb _).mono ?_
  rintro e w' ⟨rfl, rfl⟩
  go_wp2_with fail
  all_goals first
    | (go_returns; exact ⟨rfl, rfl⟩)
    | (refine (cc (by omega) (by omega) _).mono ?_; rintro e w' ⟨rfl, rfl⟩; go_wp2_with fail; go_returns; exact ⟨rfl, rfl⟩)
theorem orders_far (t l d a b : Int) (h1 : 1 ≤ d) (h2 : d ≤ 1048576) (ca : ∀ w, Calls Try.prog 14 #[.int .i64 t, .int .i64 d] w fun e w' => e = .returned (.tuple #[.int .i64 a, .int .i64 0]) ∧ w = w')
    (cb : ∀ w, Calls Try.prog 14 #[.int .i64 l, .int .i64 d] w fun e w' => e = .returned (.tuple #[.int .i64 b, .int .i64 0]) ∧ w = w')
    (far : t < -4611686018427387904 ∨ 4611686018427387904 < t) (m1 : t ≤ l → a ≤ b) (m2 : l ≤ t → b ≤ a)
    (w : World) : Calls Try.prog 3 #[.int .i64 t, .int .i64 l, .int .i64 d] w fun e w' => e = .returned (.bool true) ∧ w = w' := by
  have c0 := awake_ok
  have n1 : ¬ d < 1 := by omega
  have n2 : ¬ 1048576 < d := by omega
  go_enter Try.func3, Try.ntmps3
  go_wp2_with (go_at_call 13; refine (c0 _).mono ?_; rintro e w' ⟨rfl, rfl⟩)
  refine (ca _).mono ?_
  rintro e w' ⟨rfl, rfl⟩
  go_wp2_with fail
  refine (cb _).mono ?_
  rintro e w' ⟨rfl, rfl⟩
  go_wp2_with fail
  all_goals first
    | (go_returns; exact ⟨rfl, rfl⟩)
    | (exfalso; omega)
theorem win_hi_of_wf {x : Int} (h : (Lit.int .i64 x).wf = true) : IsHi x := by
  simp only [Lit.wf, IntKind.min, IntKind.max, IntKind.signed, IntKind.bits, Bool.and_eq_true, decide_eq_true_eq, if_true] at h
  exact ⟨by omega, by omega⟩
theorem law_WindowOrders (t l d : Int) (w0 : (Lit.int .i64 t).wf = true) (w1 : (Lit.int .i64 l).wf = true) (w2 : (Lit.int .i64 d).wf = true) (w : World) :
    Calls Try.prog 3 #[.int .i64 t, .int .i64 l, .int .i64 d] w fun e w' => e = .returned (.bool true) ∧ Below w.heap.size w w' := by
  have i0 := win_hi_of_wf w0
  have i1 := win_hi_of_wf w1
  by_cases h : d < 1 ∨ 1048576 < d
  · exact (orders_bad t l d h w).mono fun e w' ⟨he, hw⟩ => ⟨he, hw ▸ Below.refl _ _⟩
  · have h1 : 1 ≤ d := by omega
    have h2 : d ≤ 1048576 := by omega
    have km := mod1000 l
    have kb := kd_bound h1 h2 km.1 km.2
    have da := div_hi i0 h1
    obtain ⟨da1, da2⟩ := da
    by_cases g : -4611686018427387904 ≤ t ∧ t ≤ 4611686018427387904
    · have q1 : -4611686018427387904 ≤ t / d := Int.le_ediv_of_mul_le (by omega) (by omega)
      have q2 : t / d < 4611686018427387905 := Int.ediv_lt_of_lt_mul (by omega) (by omega)
      refine (orders_ok t l d (t / d) (l / d) (l.tmod 1000) (l.tmod 1000 * d) h1 h2 (of_ok t d _ i0 h1 h2 rfl) (of_ok l d _ i1 h1 h2 rfl) (fun _ _ => ?_) (div_mono h1) (div_mono h1) rfl (wrap_in ⟨by omega, by omega⟩) kb.1 kb.2 (by omega) (by omega) w).mono fun e w' ⟨he, hw⟩ => ⟨he, hw ▸ Below.refl _ _⟩
      exact of_ok _ d _ ⟨by omega, by omega⟩ h1 h2 (by rw [Int.add_mul_ediv_right _ _ (by omega)])
    · exact (orders_far t l d (t / d) (l / d) h1 h2 (of_ok t d _ i0 h1 h2 rfl) (of_ok l d _ i1 h1 h2 rfl) (by omega) (div_mono h1) (div_mono h1) w).mono fun e w' ⟨he, hw⟩ => ⟨he, hw ▸ Below.refl _ _⟩
end Go.Proofs.Ytobcjpgcafdjkaa
