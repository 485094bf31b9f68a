/- Plain numbers: quotients cut towards nought; a divisor of two words. No Go in sight. -/
import Derived.Test.YtdjehbagnkfkpaaDoorMath
namespace Go.Proofs.YtdjehbagnkfkpaaDoor
set_option linter.unusedVariables false
namespace W
theorem tdiv_sg (x y : Int) : Int.tdiv x y = sg (decide (x < 0) != decide (y < 0)) (ab x / ab y) := by
  unfold sg ab
  by_cases h : x < 0 <;> by_cases g : y < 0 <;> simp only [h, g, decide_true, decide_false, bne_self_eq_false, if_true, if_false, Bool.false_bne, Bool.true_bne, Bool.not_false, Bool.false_eq_true]
  · rw [← Int.tdiv_eq_ediv_of_nonneg (by omega), Int.neg_tdiv, Int.tdiv_neg, Int.neg_neg]
  · rw [← Int.tdiv_eq_ediv_of_nonneg (by omega), Int.neg_tdiv, Int.neg_neg]
  · rw [← Int.tdiv_eq_ediv_of_nonneg (by omega), Int.tdiv_neg, Int.neg_neg]
  · rw [← Int.tdiv_eq_ediv_of_nonneg (by omega)]
theorem tmod_sg (x y : Int) : Int.tmod x y = sg (decide (x < 0)) (ab x % ab y) := by
  unfold sg ab
  by_cases h : x < 0 <;> by_cases g : y < 0 <;> simp only [h, g, decide_true, decide_false, if_true, if_false, Bool.false_eq_true]
  · rw [← Int.tmod_eq_emod_of_nonneg (by omega), Int.neg_tmod, Int.tmod_neg, Int.neg_neg]
  · rw [← Int.tmod_eq_emod_of_nonneg (by omega), Int.neg_tmod, Int.neg_neg]
  · rw [← Int.tmod_eq_emod_of_nonneg (by omega), Int.tmod_neg]
  · rw [← Int.tmod_eq_emod_of_nonneg (by omega)]
theorem ab_nonneg (x : Int) : 0 ≤ ab x := by unfold ab; split <;> omega
theorem ab_gt0 {x : Int} (h : x ≠ 0) : 0 < ab x := by unfold ab; split <;> omega
theorem sg_fits {n : Bool} {m : Int} (a : 0 ≤ m) (b : m < 170141183460469231731687303715884105728) : Fits (sg n m) := by
  unfold sg; cases n <;> exact ⟨by simp; omega, by simp; omega⟩
theorem tmod_fits {x y : Int} (f : Fits x) (g : Fits y) (h : y ≠ 0) : Fits (Int.tmod x y) := by
  rw [tmod_sg]
  have p := ab_gt0 h
  have a := Int.emod_nonneg (ab x) (show ab y ≠ 0 by omega)
  have b := Int.emod_lt_of_pos (ab x) p
  have c : ab y ≤ 170141183460469231731687303715884105728 := by obtain ⟨_, _⟩ := g; unfold ab; split <;> omega
  exact sg_fits a (by omega)
/-- The highest 64 bits of a divisor as a divisor: the quotient is not too small, and at most one too great. -/
theorem high_try {A B D P t e h : Int} (a0 : 0 ≤ A) (a1 : A < 340282366920938463463374607431768211456) (hD : D = h * P) (h0 : 9223372036854775808 ≤ h) (hP : P = 2 ∨ 4 ≤ P)
    (eB : B = D + e) (e0 : 0 ≤ e) (e1 : e < P) (ht : t = A / D) : A / B ≤ t ∧ t ≤ A / B + 1 := by
  have p0 : 0 < P := by omega
  have d1 : 9223372036854775808 * P ≤ D := by rw [hD]; exact Int.mul_le_mul_of_nonneg_right h0 (by omega)
  have d0 : 0 < D := by omega
  have b0 : 0 < B := by omega
  have t0 : 0 ≤ t := by rw [ht]; exact Int.ediv_nonneg a0 (by omega)
  have tD : t * D ≤ A := by rw [ht]; exact Int.ediv_mul_le A (by omega)
  have tA : A < (t + 1) * D := by rw [ht]; exact Int.lt_ediv_add_one_mul_self A d0
  have tB : A < (t + 1) * B := by
    have : (t + 1) * B = (t + 1) * D + (t + 1) * e := by rw [eB, Int.mul_add]
    have : 0 ≤ (t + 1) * e := Int.mul_nonneg (by omega) e0
    omega
  refine ⟨by have := Int.ediv_lt_of_lt_mul b0 tB; omega, ?_⟩
  have tP : t * P ≤ 36893488147419103232 := by
    have h1 : t * (9223372036854775808 * P) ≤ t * D := Int.mul_le_mul_of_nonneg_left d1 t0
    have h2 : t * (9223372036854775808 * P) = 9223372036854775808 * (t * P) := by rw [Int.mul_left_comm]
    omega
  have te : t * e ≤ D := by
    have h1 : t * e ≤ t * (P - 1) := Int.mul_le_mul_of_nonneg_left (by omega) t0
    have h2 : t * (P - 1) = t * P - t := by rw [Int.mul_sub, Int.mul_one]
    rcases hP with hP | hP
    · subst hP; omega
    · omega
  have k : t - 1 ≤ A / B := Int.le_ediv_of_mul_le b0 (by
    have : (t - 1) * B = t * D + t * e - D - e := by rw [eB, Int.sub_mul, Int.mul_add, Int.one_mul]; omega
    omega)
  omega
/-- What stands behind the quotient that was tried. -/
theorem tried {A B q : Int} (a0 : 0 ≤ A) (b0 : 0 < B) (q0 : q = A / B ∨ q = A / B - 1) : 0 ≤ A - q * B ∧ A - q * B < 2 * B ∧
    (A - q * B < B → q = A / B ∧ A - q * B = A % B) ∧ (¬ A - q * B < B → q + 1 = A / B ∧ A - q * B - B = A % B) := by
  have e := Int.mul_ediv_add_emod A B
  have r0 := Int.emod_nonneg A (show B ≠ 0 by omega)
  have r1 := Int.emod_lt_of_pos A b0
  rw [Int.mul_comm] at e
  rcases q0 with h | h
  · rw [h]; refine ⟨by omega, by omega, fun _ => ⟨rfl, by omega⟩, fun g => by omega⟩
  · have : q * B = A / B * B - B := by rw [h, Int.sub_mul, Int.one_mul]
    refine ⟨by omega, by omega, fun g => by omega, fun g => ⟨by omega, by omega⟩⟩
end W
end Go.Proofs.YtdjehbagnkfkpaaDoor
