/- NameCompiles: the law's walk. -/
import Derived.Test.YtagahoelojfhcaaDoorNal
import Derived.Test.YtagahoelojfhcaaDoorNef
import Derived.Test.YtagahoelojfhcaaDoorNeg
import Derived.Test.YtagahoelojfhcaaDoorShp
import Derived.Test.YtagahoelojfhcaaDoorLawnn
namespace Go.Proofs.YtagahoelojfhcaaDoor
set_option linter.unusedVariables false
set_option linter.unusedSimpArgs false
open Go.RowKit W
theorem patE_err {s : ByteArray} {f i j : Nat} {acc : List (List Gl)} {c : Int} (h : patA s f i acc = (j, .error c)) : c = 31 ∨ c = 3 := by
  induction f generalizing i acc with
  | zero => cases h; exact .inl rfl
  | succ f ih =>
    unfold patA at h
    split at h
    · rename_i e; cases h; exact node_err e
    · split at h
      · cases h; exact .inr rfl
      · split at h
        · cases h
        · exact ih h
end Go.Proofs.YtagahoelojfhcaaDoor
