/- MicroRest: a wide number is its parts and a rest that is below them. -/
import Derived.Test.YtedpbdcbbfofoaaMrest
namespace Go.Proofs.Ytedpbdcbbfofoaa
set_option linter.unusedVariables false
open Go.RowKit W
theorem mg_two {x : Int} (x0 : 0 ≤ x) (x1 : x < 340282366920938463463374607431768211456) : mgV x = magV (hi x) (lo x) false := by
  have h1 : mh x = hi x := by unfold mh u hi; omega
  have h3 : mo x = false := (V_mag x0 x1).2
  show magV (mh x) (ml x) (mo x) = _
  rw [h1, h3]; rfl
theorem law_MicroRest (a0 b0 a1 : Int) (wa0 : (Lit.int .i64 a0).wf = true) (wb0 : (Lit.int .u64 b0).wf = true) (w1 : (Lit.int .i64 a1).wf = true) (w : World) :
    Calls Try.prog 8 #[.agg #[.int .i64 a0, .int .u64 b0], .int .i64 a1] w fun e w' => e = .returned (.bool true) ∧ Below w.heap.size w w' := by
  have i : IsW (a0, b0) := ⟨hi_of_wf wa0, lo_of_wf wb0⟩
  have j : IsHi a1 := hi_of_wf w1
  have fa : Fits (V a0 b0) := fits_V i.a i.b
  have k1 := share_spec a0 b0 a1 i j
  unfold shareV shareE at k1
  by_cases n1 : a1 < 1
  · rw [if_pos n1, if_pos n1, show hi 0 = 0 by decide, show lo 0 = 0 by decide] at k1
    exact rest_low a0 b0 a1 n1 k1 w
  rw [if_neg n1, if_neg n1] at k1
  have fq := share_fits fa n1
  have k2 := ramount_mg a0 b0 i
  have k3 := ramount_mg (hi (Int.tdiv (V a0 b0) a1)) (lo (Int.tdiv (V a0 b0) a1)) ⟨isHi_hi fq, isLo_lo _⟩
  rw [V_hi_lo] at k3
  obtain ⟨_, j1⟩ := j
  have en : IntKind.u64.wrap a1 = a1 := by rw [IntKind.wrap_u64]; omega
  have le := ab_le fa
  have an : ab a1 = a1 := by unfold ab; rw [if_neg (by omega)]
  have td := tdiv_sg (V a0 b0) a1
  rw [an, decide_eq_false (show ¬ a1 < 0 by omega), Bool.bne_false] at td
  have q0 : 0 ≤ ab (V a0 b0) / a1 := Int.ediv_nonneg le.1 (by omega)
  have q1 : ab (V a0 b0) / a1 ≤ ab (V a0 b0) := Int.ediv_le_self _ le.1
  have e := Int.mul_ediv_add_emod (ab (V a0 b0)) a1
  rw [Int.mul_comm] at e
  have r0 := Int.emod_nonneg (ab (V a0 b0)) (show a1 ≠ 0 by omega)
  have r1 := Int.emod_lt_of_pos (ab (V a0 b0)) (show 0 < a1 by omega)
  have aq : ab (Int.tdiv (V a0 b0) a1) = ab (V a0 b0) / a1 := by
    rw [td]
    generalize ab (V a0 b0) / a1 = z at *
    unfold sg ab; split <;> split <;> omega
  have sq : 0 < ab (V a0 b0) / a1 → decide (Int.tdiv (V a0 b0) a1 < 0) = decide (V a0 b0 < 0) := by
    intro h
    rw [td]
    by_cases n : V a0 b0 < 0
    · rw [decide_eq_true n]; exact decide_eq_true (by show -(ab (V a0 b0) / a1) < 0; omega)
    · rw [decide_eq_false n]; exact decide_eq_false (by show ¬ ab (V a0 b0) / a1 < 0; omega)
  rw [aq] at k3
  have k4 := times_mg (ab (V a0 b0) / a1) a1 q0 ⟨by omega, by omega⟩
  have b0' : 0 ≤ ab (V a0 b0) / a1 * a1 := Int.mul_nonneg q0 (by omega)
  generalize decide (V a0 b0 < 0) = below at *
  generalize decide (Int.tdiv (V a0 b0) a1 < 0) = minus at *
  generalize Int.tdiv (V a0 b0) a1 = q at *
  generalize ab (V a0 b0) / a1 * a1 = bk at *
  generalize ab (V a0 b0) / a1 = p at *
  generalize ab (V a0 b0) % a1 = r at *
  generalize ab (V a0 b0) = m at *
  rw [mg_two le.1 (by omega)] at k2
  rw [mg_two q0 (by omega)] at k3 k4
  rw [mg_two b0' (by omega)] at k4
  have h00 : IntKind.u64.wrap (hi m - hi m) = 0 := by rw [Int.sub_self]; decide
  have pc : p = 0 ∨ 0 < hi p ∨ (¬ 0 < hi p ∧ 0 < lo p) := by unfold hi lo; omega
  by_cases c : hi bk = hi m
  · have c1 : ¬ lo m < lo bk := by unfold hi at c; unfold lo; omega
    have c2 : IntKind.u64.wrap (lo m - lo bk) = m - bk := by unfold hi at c; unfold lo; rw [IntKind.wrap_u64]; omega
    rw [c] at k4
    rcases pc with pc | pc | ⟨pc, pc'⟩
    · rw [pc, show hi 0 = 0 by decide, show lo 0 = 0 by decide] at k3 k4
      exact rest_zero_i a0 b0 a1 _ _ _ _ _ _ _ _ n1 en c1 c2 (by omega) h00 k1 k2 k3 k4 w
    · rw [sq (by unfold hi at pc; omega)] at k3
      exact rest_high_i a0 b0 a1 _ _ _ _ _ _ _ _ _ n1 en pc c1 c2 (by omega) h00 k1 k2 k3 k4 w
    · rw [sq (by unfold lo at pc'; omega)] at k3
      exact rest_lows_i a0 b0 a1 _ _ _ _ _ _ _ _ _ n1 en pc pc' c1 c2 (by omega) h00 k1 k2 k3 k4 w
  · have ch : hi m = hi bk + 1 := by unfold hi at *; omega
    have c0 : ¬ hi m < hi bk := by omega
    have c0' : (hi bk == hi m) = false := by simpa using c
    have c1 : lo m < lo bk := by unfold hi at ch; unfold lo; omega
    have c2 : IntKind.u64.wrap (lo m - lo bk) = m - bk := by unfold hi at ch; unfold lo; rw [IntKind.wrap_u64]; omega
    have c4 : IntKind.u64.wrap (hi m - hi bk) = 1 := by rw [ch, show hi bk + 1 - hi bk = 1 by omega]; decide
    rcases pc with pc | pc | ⟨pc, pc'⟩
    · rw [pc, show hi 0 = 0 by decide, show lo 0 = 0 by decide] at k3 k4
      exact rest_zero_ii a0 b0 a1 _ _ _ _ _ _ _ _ _ n1 en c0 c0' c1 c2 (by omega) c4 k1 k2 k3 k4 w
    · rw [sq (by unfold hi at pc; omega)] at k3
      exact rest_high_ii a0 b0 a1 _ _ _ _ _ _ _ _ _ _ n1 en pc c0 c0' c1 c2 (by omega) c4 k1 k2 k3 k4 w
    · rw [sq (by unfold lo at pc'; omega)] at k3
      exact rest_lows_ii a0 b0 a1 _ _ _ _ _ _ _ _ _ _ n1 en pc pc' c0 c0' c1 c2 (by omega) c4 k1 k2 k3 k4 w
end Go.Proofs.Ytedpbdcbbfofoaa
