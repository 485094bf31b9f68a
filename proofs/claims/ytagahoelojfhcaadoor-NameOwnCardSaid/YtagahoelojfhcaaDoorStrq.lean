/- Strings compared. -/
import Derived.Test.YtagahoelojfhcaaDoorHid
namespace Go.Proofs.YtagahoelojfhcaaDoor
open Go.RowKit W
theorem toL_ne {a b : ByteArray} (h : a ≠ b) : ¬ a.toList = b.toList := by
  intro e
  rw [ByteArray.toList_eq, ByteArray.toList_eq] at e
  exact h (ByteArray.ext (Array.toList_inj.1 e))
theorem str_eql (a b : ByteArray) (h : a ≠ b) (w : World) : (binOp .eql 9 (.string a) (.string b)).run Tryd.prog w = .ok (.bool false) w := by
  simp [go_sem]; exact toL_ne h
theorem str_neq (a b : ByteArray) (h : a ≠ b) (w : World) : (binOp .neq 9 (.string a) (.string b)).run Tryd.prog w = .ok (.bool true) w := by
  simp [go_sem]; exact toL_ne h
theorem str_eql_same (a : ByteArray) (w : World) : (binOp .eql 9 (.string a) (.string a)).run Tryd.prog w = .ok (.bool true) w := by
  simp [go_sem]
theorem str_neq_same (a : ByteArray) (w : World) : (binOp .neq 9 (.string a) (.string a)).run Tryd.prog w = .ok (.bool false) w := by
  simp [go_sem]
end Go.Proofs.YtagahoelojfhcaaDoor
