/- WindowOrders, WindowHolds, WindowMarks: the walks. -/
import Derived.Test.YtpkkcdbmhgmncaaWin
namespace Go.Proofs.Ytpkkcdbmhgmncaa
set_option linter.unusedVariables false
open Go.RowKit W
theorem div_mono {t l d : Int} (h : 1 ≤ d) (k : t ≤ l) : t / d ≤ l / d := Int.ediv_le_ediv (by omega) k
theorem mod1000 (l : Int) : -1000 < l.tmod 1000 ∧ l.tmod 1000 < 1000 := ⟨by have := Int.lt_tmod_of_pos l (show (0:Int) < 1000 by omega); omega, Int.tmod_lt_of_pos l (by omega)⟩
theorem kd_bound {k d : Int} (h1 : 1 ≤ d) (h2 : d ≤ 1048576) (k1 : -1000 < k) (k2 : k < 1000) : -1048576000 ≤ k * d ∧ k * d ≤ 1048576000 := by
  have a : k * d ≤ 1000 * d := Int.mul_le_mul_of_nonneg_right (by omega) (by omega)
  have b : -1000 * d ≤ k * d := Int.mul_le_mul_of_nonneg_right (by omega) (by omega)
  omega
theorem win_hi_of_wf {x : Int} (h : (Lit.int .i64 x).wf = true) : IsHi x := by
  simp only [Lit.wf, IntKind.min, IntKind.max, IntKind.signed, IntKind.bits, Bool.and_eq_true, decide_eq_true_eq, if_true] at h
  exact ⟨by omega, by omega⟩
end Go.Proofs.Ytpkkcdbmhgmncaa
