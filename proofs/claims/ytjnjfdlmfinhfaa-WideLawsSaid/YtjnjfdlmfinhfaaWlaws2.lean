/- WideLaws: the whole. -/
import Derived.Test.YtjnjfdlmfinhfaaWlaws
namespace Go.Proofs.Ytjnjfdlmfinhfaa
set_option linter.unusedVariables false
open Go.RowKit W
theorem lo_of_wf {x : Int} (h : (Lit.int .u64 x).wf = true) : IsLo x := by
  simp only [Lit.wf, IntKind.min, IntKind.max, IntKind.signed, IntKind.bits, Bool.and_eq_true] at h
  exact ⟨by simp at h; omega, by simp at h; omega⟩
theorem hi_of_wf {x : Int} (h : (Lit.int .i64 x).wf = true) : IsHi x := by
  simp only [Lit.wf, IntKind.min, IntKind.max, IntKind.signed, IntKind.bits, Bool.and_eq_true, decide_eq_true_eq, if_true] at h
  exact ⟨by omega, by omega⟩
theorem isW_res (v : Int) : IsW (hi (resV v), lo (resV v)) := ⟨isHi_hi (fits_resV v), isLo_lo _⟩
theorem law_WideLaws (a1 a0 b1 b0 c1 c0 : Int) (wa1 : (Lit.int .i64 a1).wf = true) (wa0 : (Lit.int .u64 a0).wf = true) (wb1 : (Lit.int .i64 b1).wf = true) (wb0 : (Lit.int .u64 b0).wf = true) (wc1 : (Lit.int .i64 c1).wf = true) (wc0 : (Lit.int .u64 c0).wf = true) (w : World) :
    Calls Try.prog 12 #[.agg #[.int .i64 a1, .int .u64 a0], .agg #[.int .i64 b1, .int .u64 b0], .agg #[.int .i64 c1, .int .u64 c0]] w fun e w' => e = .returned (.bool true) ∧ Below w.heap.size w w' := by
  have ia : IsW (a1, a0) := ⟨hi_of_wf wa1, lo_of_wf wa0⟩
  have ib : IsW (b1, b0) := ⟨hi_of_wf wb1, lo_of_wf wb0⟩
  have ic : IsW (c1, c0) := ⟨hi_of_wf wc1, lo_of_wf wc0⟩
  have k1 := add_spec a1 a0 b1 b0 ia ib
  have k2 := add_spec b1 b0 a1 a0 ib ia
  rw [Int.add_comm] at k2
  have k3 := mul_spec a1 a0 b1 b0 ia ib
  have k4 := mul_spec b1 b0 a1 a0 ib ia
  rw [Int.mul_comm] at k4
  have k5 := add_spec b1 b0 c1 c0 ib ic
  have k6 := mul_spec a1 a0 _ _ ia (isW_res (V b1 b0 + V c1 c0))
  have k7 := mul_spec a1 a0 c1 c0 ia ic
  have k8 := add_spec _ _ _ _ (isW_res (V a1 a0 * V b1 b0)) (isW_res (V a1 a0 * V c1 c0))
  have k9 := sub_spec _ _ b1 b0 (isW_res (V a1 a0 + V b1 b0)) ib
  simp only [V_hi_lo] at k6 k8 k9
  have fa := fits_V ia.a ia.b
  have F1 : resE (V b1 b0 + V c1 c0) = 0 → resE (V a1 a0 * resV (V b1 b0 + V c1 c0)) = 0 → resE (V a1 a0 * V b1 b0) = 0 → resE (V a1 a0 * V c1 c0) = 0 →
      resE (resV (V a1 a0 * V b1 b0) + resV (V a1 a0 * V c1 c0)) = 0 ∧ resV (resV (V a1 a0 * V b1 b0) + resV (V a1 a0 * V c1 c0)) = resV (V a1 a0 * resV (V b1 b0 + V c1 c0)) := by
    intro h1 h2 h3 h4
    have e : resV (V a1 a0 * V b1 b0) + resV (V a1 a0 * V c1 c0) = V a1 a0 * resV (V b1 b0 + V c1 c0) := by
      rw [resV_fits (resE_zero h1), resV_fits (resE_zero h3), resV_fits (resE_zero h4), Int.mul_add]
    rw [e]
    exact ⟨h2, rfl⟩
  have F2 : resE (V a1 a0 + V b1 b0) = 0 → resE (resV (V a1 a0 + V b1 b0) - V b1 b0) = 0 ∧ hi (resV (resV (V a1 a0 + V b1 b0) - V b1 b0)) = a1 ∧ lo (resV (resV (V a1 a0 + V b1 b0) - V b1 b0)) = a0 := by
    intro h
    have e : resV (V a1 a0 + V b1 b0) - V b1 b0 = V a1 a0 := by rw [resV_fits (resE_zero h)]; omega
    rw [e, resV_fits fa]
    exact ⟨resE_fits fa, hi_V ia.b, lo_V ia.b⟩
  by_cases n1 : resE (V a1 a0 + V b1 b0) = 0
  · obtain ⟨g1, g2, g3⟩ := F2 n1
    by_cases n2 : resE (V b1 b0 + V c1 c0) = 0 ∧ resE (V a1 a0 * resV (V b1 b0 + V c1 c0)) = 0 ∧ resE (V a1 a0 * V b1 b0) = 0 ∧ resE (V a1 a0 * V c1 c0) = 0
    · obtain ⟨d1, d2, d3, d4⟩ := n2
      obtain ⟨f1, f2⟩ := F1 d1 d2 d3 d4
      unfold sumRes at k1 k2 k3 k4 k5 k6 k7 k8 k9
      rw [n1] at k1 k2
      rw [d3] at k3 k4
      rw [d1] at k5
      rw [d2] at k6
      rw [d4] at k7
      rw [f1, f2] at k8
      rw [g1, g2, g3] at k9
      exact laws_11 _ _ _ _ _ _ _ _ _ _ _ _ _ _ _ _ alive_ok k1 k2 k3 k4 k5 k6 k7 k8 k9 w
    · unfold sumRes at k1 k2 k3 k4 k5 k6 k7 k8 k9
      rw [n1] at k1 k2
      rw [g1, g2, g3] at k9
      exact laws_10 _ _ _ _ _ _ _ _ _ _ _ _ _ _ _ _ _ _ _ _ _ _ _ alive_ok k1 k2 k3 k4 k5 k6 k7 k8 k9 n2 w
  · by_cases n2 : resE (V b1 b0 + V c1 c0) = 0 ∧ resE (V a1 a0 * resV (V b1 b0 + V c1 c0)) = 0 ∧ resE (V a1 a0 * V b1 b0) = 0 ∧ resE (V a1 a0 * V c1 c0) = 0
    · obtain ⟨d1, d2, d3, d4⟩ := n2
      obtain ⟨f1, f2⟩ := F1 d1 d2 d3 d4
      unfold sumRes at k1 k2 k3 k4 k5 k6 k7 k8 k9
      rw [d3] at k3 k4
      rw [d1] at k5
      rw [d2] at k6
      rw [d4] at k7
      rw [f1, f2] at k8
      exact laws_01 _ _ _ _ _ _ _ _ _ _ _ _ _ _ _ _ _ _ _ _ alive_ok k1 k2 k3 k4 k5 k6 k7 k8 k9 n1 w
    · exact laws_00 _ _ _ _ _ _ _ _ _ _ _ _ _ _ _ _ _ _ _ _ _ _ _ _ _ _ _ alive_ok k1 k2 k3 k4 k5 k6 k7 k8 k9 n1 n2 w
end Go.Proofs.Ytjnjfdlmfinhfaa
