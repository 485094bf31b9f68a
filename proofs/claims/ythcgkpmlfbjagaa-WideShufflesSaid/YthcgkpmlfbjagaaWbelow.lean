/- wide: below: what the call does. -/
import Derived.Test.YthcgkpmlfbjagaaWmul
namespace Go.Proofs.Ythcgkpmlfbjagaa
set_option linter.unusedVariables false
open Go.RowKit W
set_option maxHeartbeats 800000 in
theorem below_spec (a1 a0 b1 b0 : Int) (i : IsLo a0) (j : IsLo b0) (w : World) :
    Calls Try.prog 57 #[.agg #[.int .u64 a0, .int .u64 a1], .agg #[.int .u64 b0, .int .u64 b1]] w
      fun e w' => e = .returned (.bool (decide (V a1 a0 < V b1 b0))) ∧ Below w.heap.size w w' := by
  go_enter Try.func57, Try.ntmps57
  go_wp2
  · go_ret
    have e : decide (V a1 a0 < V b1 b0) = decide (a0 < b0) := by rw [decide_eq_decide]; obtain ⟨_, _⟩ := i; obtain ⟨_, _⟩ := j; unfold V; omega
    exact ⟨ret_bool (by rw [e]), by go_grown⟩
  · go_ret
    have e : decide (V a1 a0 < V b1 b0) = false := by rw [decide_eq_false_iff_not]; obtain ⟨_, _⟩ := i; obtain ⟨_, _⟩ := j; unfold V; omega
    exact ⟨ret_bool (by rw [e]; simp; omega), by go_grown⟩
  · go_ret
    have e : decide (V a1 a0 < V b1 b0) = true := by rw [decide_eq_true_eq]; obtain ⟨_, _⟩ := i; obtain ⟨_, _⟩ := j; unfold V; omega
    exact ⟨ret_bool (by rw [e]), by go_grown⟩
end Go.Proofs.Ythcgkpmlfbjagaa
