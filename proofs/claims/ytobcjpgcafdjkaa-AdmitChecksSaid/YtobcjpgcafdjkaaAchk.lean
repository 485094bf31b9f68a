/- admit: Check; the reference's Check. -/
import Derived.Test.YtobcjpgcafdjkaaHid
namespace Go.Proofs.Ytobcjpgcafdjkaa
set_option linter.unusedVariables false
set_option linter.unusedSimpArgs false
open Go.RowKit W
/-- May the settings be? -/
def cfgB (a b c d e f g h i : Int) : Bool :=
  decide (1 ≤ a) && decide (a ≤ 1048576) && decide (0 ≤ b) && decide (b ≤ 1099511627775) && decide (0 ≤ c) && decide (c ≤ 1099511627775) && decide (1 ≤ d) && decide (d ≤ 1099511627775) && decide (1 ≤ e) && decide (e ≤ 1024) && decide (1 ≤ f) && decide (f ≤ 65536) && decide (1 ≤ g) && decide (g ≤ 65536) && decide (1 ≤ h) && decide (h ≤ 16) && decide (1 ≤ i) && decide (i ≤ 1024)
def cfgE (a b c d e f g h i : Int) : Int := if cfgB a b c d e f g h i = true then 0 else 120
abbrev cfgV (a b c d e f g h i : Int) : Value := .agg #[.int .i64 a, .int .i64 b, .int .i64 c, .int .i64 d, .int .i64 e, .int .i64 f, .int .i64 g, .int .i64 h, .int .i64 i]
theorem cfgE_no {a b c d e f g h i : Int} (q : ¬ (1 ≤ a ∧ a ≤ 1048576 ∧ 0 ≤ b ∧ b ≤ 1099511627775 ∧ 0 ≤ c ∧ c ≤ 1099511627775 ∧ 1 ≤ d ∧ d ≤ 1099511627775 ∧ 1 ≤ e ∧ e ≤ 1024 ∧ 1 ≤ f ∧ f ≤ 65536 ∧ 1 ≤ g ∧ g ≤ 65536 ∧ 1 ≤ h ∧ h ≤ 16 ∧ 1 ≤ i ∧ i ≤ 1024)) : cfgE a b c d e f g h i = 120 := by
  unfold cfgE
  rw [if_neg]
  intro p
  refine q ?_
  unfold cfgB at p
  simp only [Bool.and_eq_true, decide_eq_true_eq] at p
  omega
theorem cfgE_yes {a b c d e f g h i : Int} (q : 1 ≤ a ∧ a ≤ 1048576 ∧ 0 ≤ b ∧ b ≤ 1099511627775 ∧ 0 ≤ c ∧ c ≤ 1099511627775 ∧ 1 ≤ d ∧ d ≤ 1099511627775 ∧ 1 ≤ e ∧ e ≤ 1024 ∧ 1 ≤ f ∧ f ≤ 65536 ∧ 1 ≤ g ∧ g ≤ 65536 ∧ 1 ≤ h ∧ h ≤ 16 ∧ 1 ≤ i ∧ i ≤ 1024) : cfgE a b c d e f g h i = 0 := by
  unfold cfgE
  rw [if_pos]
  unfold cfgB
  simp only [Bool.and_eq_true, decide_eq_true_eq]
  omega
set_option maxRecDepth 100000 in
set_option maxHeartbeats 4000000 in
theorem rcheck_spec (a b c d e f g h i : Int) (w : World) :
    Calls Try.prog 30 #[cfgV a b c d e f g h i] w fun x w' => x = .returned (.int .i64 (cfgE a b c d e f g h i)) ∧ Below w.heap.size w w' := by
  go_enter Try.func30, Try.ntmps30
  go_wp2_with fail
  all_goals
    go_returns
    refine ⟨ret_int ?_, by go_grown⟩
    first
    | exact (cfgE_yes (by omega)).symm
    | exact (cfgE_no (by omega)).symm
end Go.Proofs.Ytobcjpgcafdjkaa
