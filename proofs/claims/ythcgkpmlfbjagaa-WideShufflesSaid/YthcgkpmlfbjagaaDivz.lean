/- math/bits.Div64 at a high word 0. -/
import Derived.Test.YthcgkpmlfbjagaaWbase
namespace Go.Proofs.Ythcgkpmlfbjagaa
set_option linter.unusedVariables false
open Go.RowKit W
set_option maxHeartbeats 1000000 in
theorem div64_zero (x y : Int) (i : IsLo x) (j : IsLo y) (n : y ≠ 0) (w : World) :
    Calls Try.prog 72 #[.int .u64 0, .int .u64 x, .int .u64 y] w fun e w' => e = .returned (.tuple #[.int .u64 (x / y), .int .u64 (x % y)]) ∧ Below w.heap.size w w' := by
  have n1 : (y == 0) = false := by simpa using n
  have n2 : ¬ y ≤ 0 := by have := j.a; omega
  have n3 : ¬ y = 0 := n
  go_enter Try.func72, Try.ntmps72
  go_wp2_with fail
  go_quiet (fail)
  go_wp2_with fail
  go_returns
  refine ⟨ret_two ?_ ?_, below_drewN (Below.refl _ _) _⟩
  · rw [Int.tdiv_eq_ediv_of_nonneg i.a, IntKind.wrap_u64]
    have a : 0 ≤ x / y := Int.ediv_nonneg i.a (by have := j.a; omega)
    have b : x / y ≤ x := Int.ediv_le_self _ i.a
    have := i.b
    exact Int.emod_eq_of_lt a (by omega)
  · exact Int.tmod_eq_emod_of_nonneg i.a
end Go.Proofs.Ythcgkpmlfbjagaa
