/- alarm: the rule 'up', reckoned. -/
import Derived.Test.YtnlefakicjojdaaAln
namespace Go.Proofs.Ytnlefakicjojdaa
set_option linter.unusedVariables false
set_option linter.unusedSimpArgs false
open Go.RowKit W Go.Maps
def upR : Ru := ⟨⟨#[117, 112]⟩, true, 0, 10, 0, 20, 0, 2, 1, 0, 0⟩
theorem upOk : RuW upR := ⟨⟨⟨by decide, by decide⟩, ⟨by decide, by decide⟩⟩, ⟨⟨by decide, by decide⟩, ⟨by decide, by decide⟩⟩, ⟨⟨by decide, by decide⟩, ⟨by decide, by decide⟩⟩⟩
theorem upMay : mayB upR = true := by decide
theorem upBad : badI [] [upR] 0 = none := by rw [badI_cons, if_neg (by rw [upMay]; simp)]; rfl
def s25 : St := fedS upR st0 1 true 25
theorem s25_is : s25 = ⟨3, 3, 1, 0, 0, 0, 1, 0⟩ := rfl
theorem o25_is : fedO upR st0 1 true 0 25 = some [.string ⟨#[117, 112]⟩, .int .i64 1, .int .i64 1, .int .i64 3, .bool false, .bool true, .int .i64 0, .int .u64 25] := by rfl
theorem o19_is : fedO upR ⟨3, 3, 1, 0, 0, 0, 1, 0⟩ 2 true 0 19 = none := by rfl
end Go.Proofs.Ytnlefakicjojdaa
