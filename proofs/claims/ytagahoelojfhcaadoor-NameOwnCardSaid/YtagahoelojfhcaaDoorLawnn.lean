/- NameNames: the law's walk. -/
import Derived.Test.YtagahoelojfhcaaDoorNal
import Derived.Test.YtagahoelojfhcaaDoorNst
import Derived.Test.YtagahoelojfhcaaDoorShp
namespace Go.Proofs.YtagahoelojfhcaaDoor
set_option linter.unusedVariables false
set_option linter.unusedSimpArgs false
open Go.RowKit W
theorem gm_at {W : World} (h : W.ShapedOpen Tryd.prog) : ∃ m, GM m W := Tryd.laysM146.s1_3 W h
end Go.Proofs.YtagahoelojfhcaaDoor
