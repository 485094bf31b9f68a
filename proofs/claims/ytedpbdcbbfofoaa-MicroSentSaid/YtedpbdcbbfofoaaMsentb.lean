/- MicroSent: what a value stands for, sent at a rate. -/
import Derived.Test.YtedpbdcbbfofoaaMsent
import Derived.Test.YtedpbdcbbfofoaaMsentp
namespace Go.Proofs.Ytedpbdcbbfofoaa
set_option linter.unusedVariables false
open Go.RowKit W
theorem mag_two {x : Int} (x0 : 0 ≤ x) (x1 : x < 340282366920938463463374607431768211456) : mgV x = magV (hi x) (lo x) false := by
  have h1 : mh x = hi x := by unfold mh u hi; omega
  have h3 : mo x = false := (V_mag x0 x1).2
  show magV (mh x) (ml x) (mo x) = _
  rw [h1, h3]; rfl
theorem scale_fine {v r : Int} (b : ¬ badRate r) (f : ¬ far v) : scaleV v r = sg (decide (v < 0)) (ab v * 1000000 / r) ∧ scaleE v r = 0 := by
  have h1 : ¬ r < 1000 := fun h => b (.inl h)
  have h2 : ¬ 1000000 < r := fun h => b (.inr h)
  have f1 : ab v ≤ 1000000000000000 := by unfold far at f; unfold ab; split <;> omega
  have a0 := ab_nonneg v
  have t0 : 0 ≤ ab v * 1000000 := by omega
  have q0 : 0 ≤ ab v * 1000000 / r := Int.ediv_nonneg t0 (by omega)
  have q1 : ab v * 1000000 / r ≤ 1000000000000000000 := by
    have : ab v * 1000000 / r < 1000000000000000001 := Int.ediv_lt_of_lt_mul (by omega) (by omega)
    omega
  have e : Int.tdiv (v * 1000000) r = sg (decide (v < 0)) (ab v * 1000000 / r) := by
    have er : ab r = r := by unfold ab; rw [if_neg (by omega)]
    rw [sg_unit v, tdiv_parts _ _ _ t0, er, decide_eq_false (show ¬ r < 0 by omega), Bool.bne_false]
  have hh : IsHi (sg (decide (v < 0)) (ab v * 1000000 / r)) := by unfold sg; split <;> exact ⟨by omega, by omega⟩
  have sb : smallB (sg (decide (v < 0)) (ab v * 1000000 / r)) = true := decide_eq_true hh
  obtain ⟨e1, e2⟩ := part_yes (show r ≠ 0 by omega) e sb
  unfold scaleV scaleE
  rw [if_neg b, if_neg b, if_neg f, if_neg f, e1, e2]
  exact ⟨if_pos hh, rfl⟩
theorem scale_mono {v r : Int} (b : ¬ badRate r) : sg (decide (v < 0)) (ab v * 1000000 / r) ≤ sg (decide (v + 1 < 0)) (ab (v + 1) * 1000000 / r) := by
  have h1 : 0 < r := by have : ¬ r < 1000 := fun h => b (.inl h); omega
  by_cases n : v < 0
  · rw [decide_eq_true n]
    have a1 : ab v = -v := by unfold ab; rw [if_pos n]
    by_cases m : v + 1 < 0
    · rw [decide_eq_true m]
      have a2 : ab (v + 1) = -(v + 1) := by unfold ab; rw [if_pos m]
      have := Int.ediv_le_ediv h1 (show ab (v + 1) * 1000000 ≤ ab v * 1000000 by omega)
      show -(_) ≤ -(_)
      omega
    · rw [decide_eq_false m]
      have q := Int.ediv_nonneg (show 0 ≤ ab v * 1000000 by have := ab_nonneg v; omega) (show 0 ≤ r by omega)
      have q' := Int.ediv_nonneg (show 0 ≤ ab (v + 1) * 1000000 by have := ab_nonneg (v + 1); omega) (show 0 ≤ r by omega)
      show -(_) ≤ _
      show -(ab v * 1000000 / r) ≤ ab (v + 1) * 1000000 / r
      omega
  · have m : ¬ v + 1 < 0 := by omega
    rw [decide_eq_false n, decide_eq_false m]
    have a1 : ab v = v := by unfold ab; rw [if_neg n]
    have a2 : ab (v + 1) = v + 1 := by unfold ab; rw [if_neg m]
    exact Int.ediv_le_ediv h1 (show ab v * 1000000 ≤ ab (v + 1) * 1000000 by omega)
theorem law_MicroSent (a0 a1 : Int) (w0 : (Lit.int .i64 a0).wf = true) (w1 : (Lit.int .i64 a1).wf = true) (w : World) :
    Calls Try.prog 9 #[.int .i64 a0, .int .i64 a1] w fun e w' => e = .returned (.bool true) ∧ Below w.heap.size w w' := by
  have i := hi_of_wf w0
  have j := hi_of_wf w1
  have k1 := scale_spec a0 a1 i j
  have k0 := scale_spec 7 1000000 ⟨by omega, by omega⟩ ⟨by omega, by omega⟩
  rw [show scaleV 7 1000000 = 7 by decide, show scaleE 7 1000000 = 0 by decide] at k0
  by_cases bad : badRate a1 ∨ far a0
  · have e1 : scaleV a0 a1 = 0 ∧ (scaleE a0 a1 != 0) = true := by
      unfold scaleV scaleE
      by_cases b : badRate a1
      · rw [if_pos b, if_pos b]; exact ⟨rfl, rfl⟩
      · have f : far a0 := bad.resolve_left b
        rw [if_neg b, if_neg b, if_pos f, if_pos f]; exact ⟨rfl, rfl⟩
    rw [e1.1] at k1
    by_cases h1 : 1000000000000000 < a0
    · exact sent_bad_a a0 a1 _ e1.2 h1 k1 k0 w
    by_cases h2 : a0 < -1000000000000000
    · exact sent_bad_b a0 a1 _ e1.2 h1 h2 k1 k0 w
    by_cases h3 : a1 < 1000
    · exact sent_bad_c a0 a1 _ e1.2 h1 h2 h3 k1 k0 w
    · exact sent_bad_d a0 a1 _ e1.2 h1 h2 h3 (by unfold badRate far at bad; omega) k1 k0 w
  have b : ¬ badRate a1 := fun h => bad (.inl h)
  have f : ¬ far a0 := fun h => bad (.inr h)
  have r1 : ¬ a1 < 1000 := fun h => b (.inl h)
  have r2 : ¬ 1000000 < a1 := fun h => b (.inr h)
  have f1 : ¬ a0 < -1000000000000000 := fun h => f (.inl h)
  have f2 : ¬ 1000000000000000 < a0 := fun h => f (.inr h)
  obtain ⟨e1, e2⟩ := scale_fine b f
  rw [e1, e2] at k1
  have mono := scale_mono (v := a0) b
  have va := ab_nonneg a0
  have vb : ab a0 ≤ 1000000000000000 := by unfold ab; split <;> omega
  have q0 : 0 ≤ ab a0 * 1000000 / a1 := Int.ediv_nonneg (by omega) (by omega)
  have q1 : ab a0 * 1000000 / a1 < 1000000000000000001 := Int.ediv_lt_of_lt_mul (by omega) (by omega)
  have em := Int.mul_ediv_add_emod (ab a0 * 1000000) a1
  rw [Int.mul_comm] at em
  have m0 := Int.emod_nonneg (ab a0 * 1000000) (show a1 ≠ 0 by omega)
  have m1 := Int.emod_lt_of_pos (ab a0 * 1000000) (show 0 < a1 by omega)
  have unit : a1 = 1000000 → ab a0 * 1000000 / a1 = ab a0 := fun h => by rw [h]; exact Int.mul_ediv_cancel _ (by omega)
  have k2 := rof_spec a0 i
  rw [mg_small va (by omega)] at k2
  have ix : IsHi (sg (decide (a0 < 0)) (ab a0 * 1000000 / a1)) := by unfold sg; split <;> exact ⟨by omega, by omega⟩
  have k3 := rof_spec _ ix
  have ax : ab (sg (decide (a0 < 0)) (ab a0 * 1000000 / a1)) = ab a0 * 1000000 / a1 := by
    generalize ab a0 * 1000000 / a1 = z at *
    unfold sg ab; split <;> split <;> omega
  rw [ax, mg_small q0 (by omega)] at k3
  have k4 := times_mg (ab a0) 1000000 va ⟨by omega, by omega⟩
  rw [mg_small va (by omega), mag_two (show 0 ≤ ab a0 * 1000000 by omega) (by omega)] at k4
  have k5 := times_mg (ab a0 * 1000000 / a1) a1 q0 ⟨by omega, by omega⟩
  have b0 : 0 ≤ ab a0 * 1000000 / a1 * a1 := Int.mul_nonneg q0 (by omega)
  rw [mg_small q0 (by omega), mag_two b0 (by omega)] at k5
  have er : IntKind.u64.wrap a1 = a1 := by rw [IntKind.wrap_u64]; omega
  have k7 : a0 < 1000000000000000 → ∀ w, Calls Try.prog 11 #[.int .i64 (a0 + 1), .int .i64 a1] w fun e w' => e = .returned (.tuple #[.int .i64 (sg (decide (a0 + 1 < 0)) (ab (a0 + 1) * 1000000 / a1)), .int .i64 0]) ∧ Below w.heap.size w w' := fun h => by
    have g := scale_fine (v := a0 + 1) b (fun h' => by unfold far at h'; omega)
    have k := scale_spec (a0 + 1) a1 ⟨by omega, by omega⟩ j
    rw [g.1, g.2] at k
    exact k
  have ev : IntKind.i64.wrap (a0 + 1) = a0 + 1 := by have := i.a; rw [IntKind.wrap_i64]; omega
  generalize sg (decide (a0 + 1 < 0)) (ab (a0 + 1) * 1000000 / a1) = y at *
  have k6 := rof_spec (ab a0 * 1000000 % a1) ⟨by omega, by omega⟩
  have ad : ab (ab a0 * 1000000 % a1) = ab a0 * 1000000 % a1 := by unfold ab; rw [if_neg (by unfold ab at m0; exact Int.not_lt.2 m0)]
  rw [ad, mg_small m0 (by omega)] at k6
  have dr : ¬ a1 ≤ ab a0 * 1000000 % a1 := by omega
  have xv : ∀ X, sg (decide (a0 < 0)) X = if a0 < 0 then -X else X := fun X => by unfold sg; by_cases n : a0 < 0 <;> simp [n]
  have av : ab a0 = if a0 < 0 then -a0 else a0 := rfl
  rw [xv] at *
  clear k0 e1 e2 ad ax xv
  generalize ab a0 * 1000000 % a1 = d at *
  generalize hX : ab a0 * 1000000 / a1 = X at *
  generalize hB : X * a1 = B at *
  have ed : IntKind.i64.wrap (IntKind.u64.wrap (lo (ab a0 * 1000000) - lo B)) = d := by
    have : IntKind.u64.wrap (lo (ab a0 * 1000000) - lo B) = d := by rw [IntKind.wrap_u64]; unfold lo; omega
    rw [this, IntKind.wrap_i64]; omega
  have hl : (hi B = hi (ab a0 * 1000000) ∧ ¬ lo (ab a0 * 1000000) < lo B) ∨ (¬ hi (ab a0 * 1000000) < hi B ∧ (hi B == hi (ab a0 * 1000000)) = false) := by
    by_cases c : hi B = hi (ab a0 * 1000000)
    · left; exact ⟨c, by unfold hi at c; unfold lo; omega⟩
    · right; exact ⟨by unfold hi; omega, by simpa using c⟩
  by_cases n : a0 < 0
  · rw [if_pos n] at *
    have l0 : a0 < 1000000000000000 := by omega
    by_cases z : X = 0
    · subst z
      have u0 : (a1 == 1000000) = false := by simp; intro h; have := unit h; omega
      rw [Int.neg_zero] at *
      rcases hl with ⟨c, c1⟩ | ⟨c0, c0'⟩
      · rw [c] at k5
        exact sent_ziol a0 a1 _ _ _ _ _ _ _ _ _ _ _ er ed dr n c1 u0 l0 mono ev k1 k2 k3 k4 k5 k6 (k7 l0) w
      · exact sent_zjol a0 a1 _ _ _ _ _ _ _ _ _ _ _ _ er ed dr n c0 c0' u0 l0 mono ev k1 k2 k3 k4 k5 k6 (k7 l0) w
    · have x0 : -X < 0 := by omega
      by_cases u : a1 = 1000000
      · have u0 : (a1 == 1000000) = true := by simpa using u
        have u1 : (-X != a0) = false := by have := unit u; simp; omega
        rcases hl with ⟨c, c1⟩ | ⟨c0, c0'⟩
        · rw [c] at k5
          exact sent_niul a0 a1 _ _ _ _ _ _ _ _ _ _ _ _ er ed dr x0 n c1 u0 u1 l0 mono ev k1 k2 k3 k4 k5 k6 (k7 l0) w
        · exact sent_njul a0 a1 _ _ _ _ _ _ _ _ _ _ _ _ _ er ed dr x0 n c0 c0' u0 u1 l0 mono ev k1 k2 k3 k4 k5 k6 (k7 l0) w
      · have u0 : (a1 == 1000000) = false := by simpa using u
        rcases hl with ⟨c, c1⟩ | ⟨c0, c0'⟩
        · rw [c] at k5
          exact sent_niol a0 a1 _ _ _ _ _ _ _ _ _ _ _ _ er ed dr x0 n c1 u0 l0 mono ev k1 k2 k3 k4 k5 k6 (k7 l0) w
        · exact sent_njol a0 a1 _ _ _ _ _ _ _ _ _ _ _ _ _ er ed dr x0 n c0 c0' u0 l0 mono ev k1 k2 k3 k4 k5 k6 (k7 l0) w
  · rw [if_neg n] at *
    have x0 : ¬ X < 0 := by omega
    by_cases u : a1 = 1000000
    · have u0 : (a1 == 1000000) = true := by simpa using u
      have u1 : (X != a0) = false := by have := unit u; simp; omega
      by_cases l0 : a0 < 1000000000000000
      · rcases hl with ⟨c, c1⟩ | ⟨c0, c0'⟩
        · rw [c] at k5
          exact sent_piul a0 a1 _ _ _ _ _ _ _ _ _ _ _ _ er ed dr x0 n c1 u0 u1 l0 mono ev k1 k2 k3 k4 k5 k6 (k7 l0) w
        · exact sent_pjul a0 a1 _ _ _ _ _ _ _ _ _ _ _ _ _ er ed dr x0 n c0 c0' u0 u1 l0 mono ev k1 k2 k3 k4 k5 k6 (k7 l0) w
      · rcases hl with ⟨c, c1⟩ | ⟨c0, c0'⟩
        · rw [c] at k5
          exact sent_pium a0 a1 _ _ _ _ _ _ _ _ _ _ er ed dr x0 n c1 u0 u1 l0 k1 k2 k3 k4 k5 k6 w
        · exact sent_pjum a0 a1 _ _ _ _ _ _ _ _ _ _ _ er ed dr x0 n c0 c0' u0 u1 l0 k1 k2 k3 k4 k5 k6 w
    · have u0 : (a1 == 1000000) = false := by simpa using u
      by_cases l0 : a0 < 1000000000000000
      · rcases hl with ⟨c, c1⟩ | ⟨c0, c0'⟩
        · rw [c] at k5
          exact sent_piol a0 a1 _ _ _ _ _ _ _ _ _ _ _ _ er ed dr x0 n c1 u0 l0 mono ev k1 k2 k3 k4 k5 k6 (k7 l0) w
        · exact sent_pjol a0 a1 _ _ _ _ _ _ _ _ _ _ _ _ _ er ed dr x0 n c0 c0' u0 l0 mono ev k1 k2 k3 k4 k5 k6 (k7 l0) w
      · rcases hl with ⟨c, c1⟩ | ⟨c0, c0'⟩
        · rw [c] at k5
          exact sent_piom a0 a1 _ _ _ _ _ _ _ _ _ _ er ed dr x0 n c1 u0 l0 k1 k2 k3 k4 k5 k6 w
        · exact sent_pjom a0 a1 _ _ _ _ _ _ _ _ _ _ _ er ed dr x0 n c0 c0' u0 l0 k1 k2 k3 k4 k5 k6 w
end Go.Proofs.Ytedpbdcbbfofoaa
