/- The reference of layer 2: Of, By, Small over amounts. -/
import Derived.Test.YtdjehbagnkfkpaaDoorBy
import Derived.Test.YtdjehbagnkfkpaaDoorMsmall
import Derived.Test.YtdjehbagnkfkpaaDoorQuom
namespace Go.Proofs.YtdjehbagnkfkpaaDoor
set_option linter.unusedVariables false
open Go.RowKit W
theorem by_mg (x n : Int) (x0 : 0 ≤ x) (x1 : x < 340282366920938463463374607431768211456) (n0 : 0 < n) (n1 : n < 9223372036854775808) (w : World) :
    Calls Tryd.prog 46 #[mgV x, .int .u64 n] w fun e w' => e = .returned (.tuple #[mgV (x / n), .int .u64 (x % n)]) ∧ Below w.heap.size w w' := by
  have c := by_some (mh x) (ml x) n (mo x) (isLo_mh x) (isLo_ml x) n0 n1 w
  obtain ⟨e1, e2⟩ := V_mag x0 x1
  have q0 : 0 ≤ x / n := Int.ediv_nonneg x0 (by omega)
  have q1 : x / n ≤ x := Int.ediv_le_self _ x0
  obtain ⟨g1, g2⟩ := V_mag q0 (by omega)
  have h1 : mh (x / n) = hi (x / n) := by unfold mh u hi; omega
  rw [e1] at c
  show Calls Tryd.prog _ _ w fun e w' => e = .returned (.tuple #[magV (mh (x / n)) (ml (x / n)) (mo (x / n)), .int .u64 (x % n)]) ∧ Below w.heap.size w w'
  rw [g2, h1]
  exact c
theorem rsmall_mg (x : Int) (b : Bool) (x0 : 0 ≤ x) (x1 : x < 340282366920938463463374607431768211456) (w : World) :
    Calls Tryd.prog 29 #[mgV x, .bool b] w fun e w' => e = .returned (.tuple #[.int .i64 (smallV (sg b x)), .bool (smallB (sg b x))]) ∧ Below w.heap.size w w' := by
  have c := rsmall_spec (mh x) (ml x) b (isLo_mh x) (isLo_ml x) w
  obtain ⟨e1, e2⟩ := V_mag x0 x1
  rw [e1] at c
  show Calls Tryd.prog _ #[magV (mh x) (ml x) (mo x), .bool b] w _
  rw [e2]
  exact c
theorem mg_small {x : Int} (x0 : 0 ≤ x) (x1 : x < 18446744073709551616) : mgV x = magV 0 x false := by
  have h1 : mh x = 0 := by unfold mh u hi; omega
  have h2 : ml x = x := by unfold ml lo; omega
  have h3 : mo x = false := by unfold mo; exact decide_eq_false (by omega)
  show magV (mh x) (ml x) (mo x) = _
  rw [h1, h2, h3]
set_option maxHeartbeats 1000000 in
theorem rof_spec (v : Int) (i : IsHi v) (w : World) :
    Calls Tryd.prog 31 #[.int .i64 v] w fun e w' => e = .returned (.tuple #[mgV (ab v), .bool (decide (v < 0))]) ∧ Below w.heap.size w w' := by
  obtain ⟨i1, i2⟩ := i
  have a0 := ab_nonneg v
  have a1 : ab v < 18446744073709551616 := by unfold ab; split <;> omega
  rw [mg_small a0 a1]
  by_cases n : v < 0
  · have e1 : IntKind.i64.wrap (v + 1) = v + 1 := by rw [IntKind.wrap_i64]; omega
    have e2 : IntKind.i64.wrap (-(v + 1)) = -(v + 1) := by rw [IntKind.wrap_i64]; omega
    have e3 : IntKind.u64.wrap (-(v + 1)) = -(v + 1) := by rw [IntKind.wrap_u64]; omega
    have e4 : ab v = -(v + 1) + 1 := by unfold ab; rw [if_pos n]; omega
    have e5 : IntKind.u64.wrap (-(v + 1) + 1) = ab v := by rw [IntKind.wrap_u64]; omega
    generalize ab v = m at *
    clear e4
    go_enter Tryd.func31, Tryd.ntmps31
    go_wp2_with fail
    go_returns
    exact ⟨by simp [n], by go_grown⟩
  · have e4 : ab v = v := by unfold ab; rw [if_neg n]
    rw [e4]
    have e5 : IntKind.u64.wrap v = v := by rw [IntKind.wrap_u64]; omega
    go_enter Tryd.func31, Tryd.ntmps31
    go_wp2_with fail
    go_returns
    exact ⟨by simp [n], by go_grown⟩
end Go.Proofs.YtdjehbagnkfkpaaDoor
