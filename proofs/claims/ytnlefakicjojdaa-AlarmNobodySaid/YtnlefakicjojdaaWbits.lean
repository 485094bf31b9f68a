/- math/bits, as the model runs it. -/
import Derived.Test.YtnlefakicjojdaaWbase
import Derived.Laws.Externs
namespace Go.Proofs.Ytnlefakicjojdaa
set_option linter.unusedVariables false
open Go.RowKit W
theorem run_addC (x y c : Int) (i : IsLo x) (j : IsLo y) (k : IsBit c) (w : World) :
    (callFunc 61 #[.int .u64 x, .int .u64 y, .int .u64 c]).run Try.prog w =
      .ok (.value (.tuple #[.int .u64 (addD x y c), .int .u64 (addC x y c)])) w := by
  obtain ⟨x, rfl⟩ := Int.eq_ofNat_of_zero_le i.a
  obtain ⟨y, rfl⟩ := Int.eq_ofNat_of_zero_le j.a
  obtain ⟨c, rfl⟩ := Int.eq_ofNat_of_zero_le k.a
  obtain ⟨_, hc⟩ := k
  have hc : c = 0 ∨ c = 1 := by omega
  rw [run_callFunc_extern Try.func61 (by kernel_rfl) (by kernel_rfl) (by kernel_rfl) (e := (Extern.MathBitsCarry.rows.getD 0 default).2) (by kernel_rfl)]
  rcases hc with rfl | rfl <;> rfl
end Go.Proofs.Ytnlefakicjojdaa
