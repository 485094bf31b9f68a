/- wide: Cmp, Sign: what each call does. -/
import Derived.Test.YtnlefakicjojdaaWbase
namespace Go.Proofs.Ytnlefakicjojdaa
set_option linter.unusedVariables false
open Go.RowKit W
set_option maxHeartbeats 400000 in
theorem cmp_spec (h l h' l' : Int) (i : IsLo l) (i' : IsLo l') (w : World) :
    Calls Try.prog 45 #[.agg #[.int .i64 h, .int .u64 l], .agg #[.int .i64 h', .int .u64 l']] w
      fun e w' => e = .returned (.int .i64 (cmpI (V h l) (V h' l'))) ∧ Below w.heap.size w w' := by
  go_enter Try.func45, Try.ntmps45
  go_wp2
  · go_ret
    exact ⟨ret_int (cmp_eq (V_eq ‹_› ‹_›)).symm, by go_grown⟩
  · go_ret
    exact ⟨ret_int (cmp_lt (V_lt2 ‹_› ‹_›)).symm, by go_grown⟩
  · go_ret
    exact ⟨ret_int (cmp_gt (V_lt2 (by omega) (by omega))).symm, by go_grown⟩
  · go_ret
    exact ⟨ret_int (cmp_gt (V_lt1 i' i (by omega))).symm, by go_grown⟩
  · go_ret
    exact ⟨ret_int (cmp_lt (V_lt1 i i' (by omega))).symm, by go_grown⟩
set_option maxHeartbeats 400000 in
theorem sign_spec (h l : Int) (i : IsLo l) (w : World) :
    Calls Try.prog 44 #[.agg #[.int .i64 h, .int .u64 l]] w
      fun e w' => e = .returned (.int .i64 (cmpI (V h l) 0)) ∧ Below w.heap.size w w' := by
  have c := cmp_spec h l 0 0 i isLo_0
  go_enter Try.func44, Try.ntmps44
  go_wp2_with (go_at_call 45; refine (c _).mono ?_; rintro e w' ⟨rfl, hb⟩)
  go_ret
  exact ⟨rfl, by refine Below.trans ?_ (hb.mono ?_) <;> go_grown⟩
end Go.Proofs.Ytnlefakicjojdaa
