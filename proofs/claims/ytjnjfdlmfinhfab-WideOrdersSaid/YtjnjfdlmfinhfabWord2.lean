/- WideOrders: the whole. -/
import Derived.Test.YtjnjfdlmfinhfabWord
namespace Go.Proofs.Ytjnjfdlmfinhfab
set_option linter.unusedVariables false
open Go.RowKit W
theorem lo_of_wf {x : Int} (h : (Lit.int .u64 x).wf = true) : IsLo x := by
  simp only [Lit.wf, IntKind.min, IntKind.max, IntKind.signed, IntKind.bits, Bool.and_eq_true] at h
  exact ⟨by simp at h; omega, by simp at h; omega⟩
theorem hi_of_wf {x : Int} (h : (Lit.int .i64 x).wf = true) : IsHi x := by
  simp only [Lit.wf, IntKind.min, IntKind.max, IntKind.signed, IntKind.bits, Bool.and_eq_true, decide_eq_true_eq, if_true] at h
  exact ⟨by omega, by omega⟩
theorem law_WideOrders (a1 a0 b1 b0 c1 c0 : Int) (wa1 : (Lit.int .i64 a1).wf = true) (wa0 : (Lit.int .u64 a0).wf = true) (wb1 : (Lit.int .i64 b1).wf = true) (wb0 : (Lit.int .u64 b0).wf = true) (wc1 : (Lit.int .i64 c1).wf = true) (wc0 : (Lit.int .u64 c0).wf = true) (w : World) :
    Calls Try.prog 3 #[.agg #[.int .i64 a1, .int .u64 a0], .agg #[.int .i64 b1, .int .u64 b0], .agg #[.int .i64 c1, .int .u64 c0]] w fun e w' => e = .returned (.bool true) ∧ Below w.heap.size w w' := by
  have ia : IsW (a1, a0) := ⟨hi_of_wf wa1, lo_of_wf wa0⟩
  have ib : IsW (b1, b0) := ⟨hi_of_wf wb1, lo_of_wf wb0⟩
  have ic : IsW (c1, c0) := ⟨hi_of_wf wc1, lo_of_wf wc0⟩
  have k1 := cmp_spec a1 a0 b1 b0 ia.b ib.b
  have k2 := cmp_spec b1 b0 c1 c0 ib.b ic.b
  have k3 := cmp_spec a1 a0 c1 c0 ia.b ic.b
  have k4 := cmp_spec b1 b0 a1 a0 ib.b ia.b
  have k5 := add_spec a1 a0 c1 c0 ia ic
  have k6 := add_spec b1 b0 c1 c0 ib ic
  have k7 := cmp_spec (hi (resV (V a1 a0 + V c1 c0))) (lo (resV (V a1 a0 + V c1 c0))) (hi (resV (V b1 b0 + V c1 c0))) (lo (resV (V b1 b0 + V c1 c0))) (isLo_lo _) (isLo_lo _)
  rw [V_hi_lo, V_hi_lo] at k7
  have O : OneOrder (cmpI (V a1 a0) (V b1 b0)) (cmpI (V b1 b0) (V c1 c0)) (cmpI (V a1 a0) (V c1 c0)) (cmpI (V b1 b0) (V a1 a0)) := by
    rcases cmp_cases (V a1 a0) (V b1 b0) with ⟨p, p'⟩ | ⟨p, p'⟩ | ⟨p, p'⟩ <;> rcases cmp_cases (V b1 b0) (V c1 c0) with ⟨q, q'⟩ | ⟨q, q'⟩ | ⟨q, q'⟩ <;> rcases cmp_cases (V a1 a0) (V c1 c0) with ⟨r, r'⟩ | ⟨r, r'⟩ | ⟨r, r'⟩ <;>
      rcases cmp_cases (V b1 b0) (V a1 a0) with ⟨t, t'⟩ | ⟨t, t'⟩ | ⟨t, t'⟩ <;> first | (exfalso; omega) | exact ⟨by omega, by omega, by omega, by omega, by omega⟩
  unfold sumRes at k5 k6
  by_cases n : resE (V a1 a0 + V c1 c0) = 0 ∧ resE (V b1 b0 + V c1 c0) = 0
  · obtain ⟨n1, n2⟩ := n
    have e : cmpI (resV (V a1 a0 + V c1 c0)) (resV (V b1 b0 + V c1 c0)) = cmpI (V a1 a0) (V b1 b0) := by
      rw [resV_fits (resE_zero n1), resV_fits (resE_zero n2)]
      rcases cmp_cases (V a1 a0) (V b1 b0) with ⟨p, p'⟩ | ⟨p, p'⟩ | ⟨p, p'⟩
      · rw [p', cmp_lt (by omega)]
      · rw [p', cmp_eq (by omega)]
      · rw [p', cmp_gt (by omega)]
    rw [e] at k7
    rw [n1] at k5
    rw [n2] at k6
    exact orders_eq _ _ _ _ _ _ _ _ _ _ _ _ _ _ alive_ok k1 k2 k3 k4 k5 k6 k7 O w
  · exact orders_ne _ _ _ _ _ _ _ _ _ _ _ _ _ _ _ _ _ alive_ok k1 k2 k3 k4 k5 k6 k7 O n w
end Go.Proofs.Ytjnjfdlmfinhfab
