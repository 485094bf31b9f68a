/- The reference of layer 2: Product, Ratio, Scale answer what the program's do. -/
import Derived.Test.YtedpbdcbbfofoaaMrefw
import Derived.Test.YtedpbdcbbfofoaaMpartb
namespace Go.Proofs.Ytedpbdcbbfofoaa
set_option linter.unusedVariables false
open Go.RowKit W
theorem tdiv_parts (s : Bool) (P c : Int) (h : 0 ≤ P) : Int.tdiv (sg s P) c = sg (s != decide (c < 0)) (P / ab c) := by
  unfold sg ab
  cases s <;> by_cases g : c < 0 <;> simp only [g, decide_true, decide_false, if_true, if_false, Bool.false_bne, Bool.true_bne, Bool.not_false, Bool.not_true, Bool.false_eq_true]
  · rw [← Int.tdiv_eq_ediv_of_nonneg h, Int.tdiv_neg, Int.neg_neg]
  · rw [Int.tdiv_eq_ediv_of_nonneg h]
  · rw [← Int.tdiv_eq_ediv_of_nonneg h, Int.neg_tdiv, Int.tdiv_neg]
  · rw [← Int.tdiv_eq_ediv_of_nonneg h, Int.neg_tdiv]
theorem ab_unit : ab 1000000 = 1000000 := by decide
theorem ab_lt {v : Int} (i : IsHi v) : 0 ≤ ab v ∧ ab v ≤ 9223372036854775808 := by obtain ⟨_, _⟩ := i; unfold ab; split <;> omega
theorem isLo_ab {v : Int} (i : IsHi v) : IsLo (ab v) := by have := ab_lt i; exact ⟨by omega, by omega⟩
theorem part_yes {a b c v : Int} (hc : c ≠ 0) (e : Int.tdiv (a * b) c = v) (h : smallB v = true) : partV a b c = smallV v ∧ partE a b c = 0 := by
  unfold partV partE; rw [if_neg hc, if_neg hc, e, h]; exact ⟨rfl, rfl⟩
theorem part_no {a b c v : Int} (hc : c ≠ 0) (e : Int.tdiv (a * b) c = v) (h : smallB v = false) : partV a b c = 0 ∧ partE a b c = 10 := by
  unfold partV partE; rw [if_neg hc, if_neg hc, e, h]
  have : ¬ IsHi v := of_decide_eq_false h
  exact ⟨if_neg this, rfl⟩
theorem rproduct_spec (a b : Int) (ia : IsHi a) (ib : IsHi b) (w : World) :
    Calls Try.prog 16 #[.int .i64 a, .int .i64 b] w fun y w' => y = .returned (.tuple #[.int .i64 (partV a b 1000000), .int .i64 (partE a b 1000000)]) ∧ Below w.heap.size w w' := by
  obtain ⟨a0, a1⟩ := ab_lt ia
  obtain ⟨b0, b1⟩ := ab_lt ib
  have ka := rof_spec a ia
  have kb := rof_spec b ib
  rw [mg_small b0 (by omega)] at kb
  have t0 := Int.mul_nonneg a0 b0
  have t1 : ab a * ab b ≤ 9223372036854775808 * 9223372036854775808 := Int.mul_le_mul a1 b1 b0 (by omega)
  have kt := times_mg (ab a) (ab b) a0 (isLo_ab ib)
  have kq := by_mg (ab a * ab b) 1000000 t0 (by omega) (by omega) (by omega)
  have q0 : 0 ≤ ab a * ab b / 1000000 := Int.ediv_nonneg t0 (by omega)
  have q1 : ab a * ab b / 1000000 ≤ ab a * ab b := Int.ediv_le_self _ t0
  have ks := rsmall_mg (ab a * ab b / 1000000) (decide (a < 0) != decide (b < 0)) q0 (by omega)
  have e : Int.tdiv (a * b) 1000000 = sg (decide (a < 0) != decide (b < 0)) (ab a * ab b / 1000000) := by
    rw [← sg_mul a b, tdiv_parts _ _ _ t0, ab_unit, show decide ((1000000 : Int) < 0) = false by decide, Bool.bne_false]
  generalize sg (decide (a < 0) != decide (b < 0)) (ab a * ab b / 1000000) = v at *
  by_cases h : smallB v = true
  · obtain ⟨e1, e2⟩ := part_yes (by omega) e h
    rw [e1, e2]
    rw [h] at ks
    exact rproduct_yes a b _ _ _ _ _ _ _ _ ka kb kt kq ks w
  · have h := Bool.eq_false_iff.2 h
    obtain ⟨e1, e2⟩ := part_no (by omega) e h
    rw [e1, e2]
    rw [h] at ks
    exact rproduct_no a b _ _ _ _ _ _ _ _ ka kb kt kq ks w
theorem sg_unit (a : Int) : a * 1000000 = sg (decide (a < 0)) (ab a * 1000000) := by
  unfold sg ab; by_cases h : a < 0 <;> simp [h]; omega
theorem half63 {X : Int} (a : 0 ≤ X) (b : X < 85070591730234615865843651857942052864) : IntKind.u64.wrap (IntKind.u64.wrap (mh X * 2) + ml X / 9223372036854775808) = X / 9223372036854775808 := by
  have h1 : mh X = X / 18446744073709551616 := by unfold mh u hi; omega
  have h2 : ml X = X % 18446744073709551616 := rfl
  have h3 : X / 18446744073709551616 < 4611686018427387904 := by omega
  have h4 : X / 9223372036854775808 = X / 18446744073709551616 * 2 + X % 18446744073709551616 / 9223372036854775808 := by omega
  rw [h1, h2, h4]
  have h5 : X % 18446744073709551616 / 9223372036854775808 ≤ 1 := by omega
  have h6 : 0 ≤ X % 18446744073709551616 / 9223372036854775808 := by omega
  have h7 : 0 ≤ X / 18446744073709551616 := by omega
  generalize X % 18446744073709551616 / 9223372036854775808 = y at *
  generalize X / 18446744073709551616 = z at *
  clear h1 h2 h4
  rw [show IntKind.u64.wrap (z * 2) = z * 2 by rw [IntKind.wrap_u64]; omega, IntKind.wrap_u64]
  omega
theorem rratio_spec (a b : Int) (ia : IsHi a) (ib : IsHi b) (w : World) :
    Calls Try.prog 18 #[.int .i64 a, .int .i64 b] w fun y w' => y = .returned (.tuple #[.int .i64 (partV a 1000000 b), .int .i64 (partE a 1000000 b)]) ∧ Below w.heap.size w w' := by
  by_cases z : b = 0
  · subst z
    exact rratio_zero a w
  obtain ⟨a0, a1⟩ := ab_lt ia
  obtain ⟨b0, b1⟩ := ab_lt ib
  have bp := ab_gt0 z
  have ka := rof_spec a ia
  have kb := rof_spec b ib
  rw [mg_small b0 (by omega)] at kb
  have t0 : 0 ≤ ab a * 1000000 := by omega
  have kt := times_mg (ab a) 1000000 a0 ⟨by omega, by omega⟩
  have q0 : 0 ≤ ab a * 1000000 / ab b := Int.ediv_nonneg t0 (by omega)
  have q1 : ab a * 1000000 / ab b ≤ ab a * 1000000 := Int.ediv_le_self _ t0
  have ks := rsmall_mg (ab a * 1000000 / ab b) (decide (a < 0) != decide (b < 0)) q0 (by omega)
  have e : Int.tdiv (a * 1000000) b = sg (decide (a < 0) != decide (b < 0)) (ab a * 1000000 / ab b) := by
    rw [sg_unit a, tdiv_parts _ _ _ t0]
  have bz : (b == 0) = false := by simpa using z
  by_cases l : ab b = 9223372036854775808
  · have ez : IntKind.u64.wrap (IntKind.u64.wrap (mh (ab a * 1000000) * 2) + ml (ab a * 1000000) / 9223372036854775808) = ab a * 1000000 / ab b := by
      rw [l]; exact half63 t0 (by omega)
    rw [mg_small q0 (by rw [l]; omega)] at ks
    rw [l] at kb
    generalize sg (decide (a < 0) != decide (b < 0)) (ab a * 1000000 / ab b) = v at *
    by_cases h : smallB v = true
    · obtain ⟨e1, e2⟩ := part_yes z e h
      rw [e1, e2]
      rw [h] at ks
      exact rratio_least_yes a b _ _ _ _ _ _ bz ez ka kb kt ks w
    · have h := Bool.eq_false_iff.2 h
      obtain ⟨e1, e2⟩ := part_no z e h
      rw [e1, e2]
      rw [h] at ks
      exact rratio_least_no a b _ _ _ _ _ _ bz ez ka kb kt ks w
  · have kq := by_mg (ab a * 1000000) (ab b) t0 (by omega) bp (by omega)
    have nn : (ab b == 9223372036854775808) = false := by simpa using l
    generalize sg (decide (a < 0) != decide (b < 0)) (ab a * 1000000 / ab b) = v at *
    by_cases h : smallB v = true
    · obtain ⟨e1, e2⟩ := part_yes z e h
      rw [e1, e2]
      rw [h] at ks
      exact rratio_yes a b _ _ _ _ _ _ _ _ bz nn ka kb kt kq ks w
    · have h := Bool.eq_false_iff.2 h
      obtain ⟨e1, e2⟩ := part_no z e h
      rw [e1, e2]
      rw [h] at ks
      exact rratio_no a b _ _ _ _ _ _ _ _ bz nn ka kb kt kq ks w
set_option maxHeartbeats 1000000 in
theorem rfar_spec (v : Int) (w : World) :
    Calls Try.prog 28 #[.int .i64 v] w fun y w' => y = .returned (.bool (decide (far v))) ∧ Below w.heap.size w w' := by
  by_cases h1 : 1000000000000000 < v
  · have e : decide (far v) = true := decide_eq_true (.inr h1)
    rw [e]
    go_enter Try.func28, Try.ntmps28
    go_wp2_with fail
    go_returns
    exact ⟨rfl, by go_grown⟩
  · by_cases h2 : v < -1000000000000000
    · have e : decide (far v) = true := decide_eq_true (.inl h2)
      rw [e]
      go_enter Try.func28, Try.ntmps28
      go_wp2_with fail
      go_returns
      exact ⟨rfl, by go_grown⟩
    · have e : decide (far v) = false := decide_eq_false (fun h => by rcases h with h | h <;> omega)
      rw [e]
      go_enter Try.func28, Try.ntmps28
      go_wp2_with fail
      go_returns
      exact ⟨rfl, by go_grown⟩
theorem rscale_spec (v r : Int) (iv : IsHi v) (ir : IsHi r) (w : World) :
    Calls Try.prog 12 #[.int .i64 v, .int .i64 r] w fun y w' => y = .returned (.tuple #[.int .i64 (scaleV v r), .int .i64 (scaleE v r)]) ∧ Below w.heap.size w w' := by
  unfold scaleV scaleE
  by_cases b : badRate r
  · rw [if_pos b, if_pos b]
    by_cases h : r < 1000
    · exact rscale_low v r h w
    · exact rscale_high v r h (by rcases b with b | b <;> omega) w
  · rw [if_neg b, if_neg b]
    have h1 : ¬ r < 1000 := fun h => b (.inl h)
    have h2 : ¬ 1000000 < r := fun h => b (.inr h)
    have kf := rfar_spec v
    by_cases f : far v
    · rw [if_pos f, if_pos f]
      rw [decide_eq_true f] at kf
      exact rscale_far v r h1 h2 kf w
    · rw [if_neg f, if_neg f]
      rw [decide_eq_false f] at kf
      have f1 : ab v ≤ 1000000000000000 := by unfold far at f; unfold ab; split <;> omega
      have a0 := ab_nonneg v
      have t0 : 0 ≤ ab v * 1000000 := by omega
      have kt := times_mg (ab v) 1000000 a0 ⟨by omega, by omega⟩
      have kq := by_mg (ab v * 1000000) r t0 (by omega) (by omega) (by omega)
      have q0 : 0 ≤ ab v * 1000000 / r := Int.ediv_nonneg t0 (by omega)
      have q1 : ab v * 1000000 / r ≤ 1000000000000000000 := by
        have : ab v * 1000000 / r < 1000000000000000001 := Int.ediv_lt_of_lt_mul (by omega) (by omega)
        omega
      have ks := rsmall_mg (ab v * 1000000 / r) (decide (v < 0)) q0 (by omega)
      have e : Int.tdiv (v * 1000000) r = sg (decide (v < 0)) (ab v * 1000000 / r) := by
        have er : ab r = r := by unfold ab; rw [if_neg (by omega)]
        rw [sg_unit v, tdiv_parts _ _ _ t0, er, decide_eq_false (show ¬ r < 0 by omega), Bool.bne_false]
      have sb : smallB (sg (decide (v < 0)) (ab v * 1000000 / r)) = true := by
        refine decide_eq_true ?_
        unfold sg; split <;> exact ⟨by omega, by omega⟩
      obtain ⟨e1, e2⟩ := part_yes (show r ≠ 0 by omega) e sb
      rw [e1, e2]
      exact rscale_some v r _ _ _ _ _ _ _ h1 h2 (by rw [IntKind.wrap_u64]; omega) kf (rof_spec v iv) kt kq ks w
end Go.Proofs.Ytedpbdcbbfofoaa
