/- wide: Of. -/
import Derived.Test.YtnlefakicjojdaaWbase
namespace Go.Proofs.Ytnlefakicjojdaa
set_option linter.unusedVariables false
open Go.RowKit W
theorem hi_small {n : Int} (j : IsHi n) : n / 9223372036854775808 = hi n := by obtain ⟨_, _⟩ := j; unfold hi; omega
theorem fits_small {n : Int} (j : IsHi n) : Fits n := by obtain ⟨_, _⟩ := j; exact ⟨by omega, by omega⟩
set_option maxHeartbeats 400000 in
theorem wof_spec (n : Int) (j : IsHi n) (w : World) :
    Calls Try.prog 27 #[.int .i64 n] w fun e w' => e = wideRes n ∧ Below w.heap.size w w' := by
  have e1 : IntKind.u64.wrap n = lo n := by rw [IntKind.wrap_u64]; rfl
  have e2 := hi_small j
  unfold wideRes
  rw [← e2]
  obtain ⟨l, hl⟩ : ∃ l, l = lo n := ⟨_, rfl⟩
  rw [← hl] at e1 ⊢
  clear e2 hl
  go_enter Try.func27, Try.ntmps27
  go_wp2
  go_returns
  exact ⟨rfl, by go_grown⟩
end Go.Proofs.Ytnlefakicjojdaa
