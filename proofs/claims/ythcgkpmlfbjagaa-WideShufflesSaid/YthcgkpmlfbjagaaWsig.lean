/- wide: amounts and signs. -/
import Derived.Test.YthcgkpmlfbjagaaWlimbs
namespace Go.Proofs.Ythcgkpmlfbjagaa
set_option linter.unusedVariables false
open Go.RowKit W
theorem signed_any (n : Bool) (m1 m0 : Int) (i : IsLo m1) (j : IsLo m0) (w : World) :
    Calls Try.prog 50 #[.bool n, .agg #[.int .u64 m0, .int .u64 m1]] w fun e w' => e = sumRes (sg n (V m1 m0)) ∧ Below w.heap.size w w' := by
  cases n
  · exact signed_f m1 m0 i j w
  · exact signed_t m1 m0 i j w
theorem ab_le {v : Int} (f : Fits v) : 0 ≤ ab v ∧ ab v ≤ 170141183460469231731687303715884105728 := by obtain ⟨_, _⟩ := f; unfold ab; split <;> omega
theorem lo_ab {v : Int} (f : Fits v) : IsLo (hi (ab v)) := by have := ab_le f; exact ⟨by unfold hi; omega, by unfold hi; omega⟩
theorem sg_mul (x y : Int) : sg (decide (x < 0) != decide (y < 0)) (ab x * ab y) = x * y := by
  unfold sg ab
  by_cases h : x < 0 <;> by_cases g : y < 0 <;> simp [h, g, Int.neg_mul, Int.mul_neg]
theorem neg_hi {a b : Int} (i : IsW (a, b)) : decide (a < 0) = decide (V a b < 0) := by
  obtain ⟨⟨_, _⟩, ⟨_, _⟩⟩ := i; rw [decide_eq_decide]; simp only at *; unfold V; omega
theorem mul_over {x y : Int} (fx : Fits x) (fy : Fits y) (h : 340282366920938463463374607431768211456 ≤ ab x * ab y) : ¬ Fits (x * y) := by
  rintro ⟨p, q⟩
  have e := sg_mul x y
  unfold sg at e
  split at e <;> omega
end Go.Proofs.Ythcgkpmlfbjagaa
