/- MicroNear. (gen_mnear.py) -/
import Derived.Test.YtdjehbagnkfkpaaDoorMrnd
namespace Go.Proofs.YtdjehbagnkfkpaaDoor
set_option linter.unusedVariables false
set_option linter.unusedSimpArgs false
open Go.RowKit W
set_option maxRecDepth 100000 in
set_option maxHeartbeats 4000000 in
theorem near_up (v p t n d : Int) (i : Nat) (hp : ¬ p < 0) (hp2 : ¬ 6 < p) (ep : 6 - p = (i : Int)) (t0 : 1 ≤ t) (t1 : t ≤ 1000000) (n0 : 0 ≤ n) (n1 : n ≤ 9223372036854775807) (v0 : 0 ≤ v) (v1 : v ≤ 9223372036854775807) (em : n % t = 0) (et : Int.tmod n t = 0) (nv : v < n) (ed : n - v = d) (d0 : 0 ≤ d) (d1 : 2 * d ≤ t)
    (k1 : ∀ w, Pows w → Calls Tryd.prog 23 #[.int .i64 v, .int .i64 p] w fun e w' => e = .returned (.tuple #[.int .i64 n, .int .i64 0]) ∧ Below w.heap.size w w')
    (k2 : ∀ w, Calls Tryd.prog 25 #[.int .i64 (i : Int)] w fun e w' => e = .returned (.int .u64 t) ∧ Below w.heap.size w w')
    (w : World) (H : Pows w) : Calls Tryd.prog 12 #[.int .i64 v, .int .i64 p] w fun e w' => e = .returned (.bool true) ∧ Below w.heap.size w w' := by
  have HH := hide H
  clear H
  have tz : (t == 0) = false := by rw [beq_eq_false_iff_ne]; omega
  have tz2 : ¬ t = 0 := by omega
  have tm : ¬ t = -1 := by omega
  go_enter Tryd.func12, Tryd.ntmps12
  go_wp2_with fail
  refine (k1 _ HH.out).mono ?_
  rintro e w1 ⟨rfl, h1⟩
  clear k1
  go_wp2_with fail
  refine (k2 _).mono ?_
  rintro e w2 ⟨rfl, h2⟩
  clear k2
  have B2 : Below w.heap.size w w2 := h1.trans (h2.mono h1.size)
  clear h1 h2
  go_wp2_with fail
  all_goals
    go_returns
    exact ⟨rfl, by go_grown⟩
set_option maxRecDepth 100000 in
set_option maxHeartbeats 4000000 in
theorem near_dn (v p t n d : Int) (i : Nat) (hp : ¬ p < 0) (hp2 : ¬ 6 < p) (ep : 6 - p = (i : Int)) (t0 : 1 ≤ t) (t1 : t ≤ 1000000) (n0 : 0 ≤ n) (n1 : n ≤ 9223372036854775807) (v0 : 0 ≤ v) (v1 : v ≤ 9223372036854775807) (em : n % t = 0) (et : Int.tmod n t = 0) (D1 : Int) (nv : n < v) (nv2 : ¬ v < n) (ew : IntKind.u64.wrap (n - v) = D1) (ed : IntKind.u64.wrap (-D1) = d) (d0 : 0 ≤ d) (d1 : 2 * d < t)
    (k1 : ∀ w, Pows w → Calls Tryd.prog 23 #[.int .i64 v, .int .i64 p] w fun e w' => e = .returned (.tuple #[.int .i64 n, .int .i64 0]) ∧ Below w.heap.size w w')
    (k2 : ∀ w, Calls Tryd.prog 25 #[.int .i64 (i : Int)] w fun e w' => e = .returned (.int .u64 t) ∧ Below w.heap.size w w')
    (w : World) (H : Pows w) : Calls Tryd.prog 12 #[.int .i64 v, .int .i64 p] w fun e w' => e = .returned (.bool true) ∧ Below w.heap.size w w' := by
  have HH := hide H
  clear H
  have tz : (t == 0) = false := by rw [beq_eq_false_iff_ne]; omega
  have tz2 : ¬ t = 0 := by omega
  have tm : ¬ t = -1 := by omega
  go_enter Tryd.func12, Tryd.ntmps12
  go_wp2_with fail
  refine (k1 _ HH.out).mono ?_
  rintro e w1 ⟨rfl, h1⟩
  clear k1
  go_wp2_with fail
  refine (k2 _).mono ?_
  rintro e w2 ⟨rfl, h2⟩
  clear k2
  have B2 : Below w.heap.size w w2 := h1.trans (h2.mono h1.size)
  clear h1 h2
  go_wp2_with fail
  all_goals
    go_returns
    exact ⟨rfl, by go_grown⟩
set_option maxRecDepth 100000 in
set_option maxHeartbeats 4000000 in
theorem near_eq (p t n : Int) (i : Nat) (hp : ¬ p < 0) (hp2 : ¬ 6 < p) (ep : 6 - p = (i : Int)) (t0 : 1 ≤ t) (t1 : t ≤ 1000000) (n0 : 0 ≤ n) (n1 : n ≤ 9223372036854775807) (em : n % t = 0) (et : Int.tmod n t = 0) 
    (k1 : ∀ w, Pows w → Calls Tryd.prog 23 #[.int .i64 n, .int .i64 p] w fun e w' => e = .returned (.tuple #[.int .i64 n, .int .i64 0]) ∧ Below w.heap.size w w')
    (k2 : ∀ w, Calls Tryd.prog 25 #[.int .i64 (i : Int)] w fun e w' => e = .returned (.int .u64 t) ∧ Below w.heap.size w w')
    (w : World) (H : Pows w) : Calls Tryd.prog 12 #[.int .i64 n, .int .i64 p] w fun e w' => e = .returned (.bool true) ∧ Below w.heap.size w w' := by
  have HH := hide H
  clear H
  have tz : (t == 0) = false := by rw [beq_eq_false_iff_ne]; omega
  have tz2 : ¬ t = 0 := by omega
  have tm : ¬ t = -1 := by omega
  go_enter Tryd.func12, Tryd.ntmps12
  go_wp2_with fail
  refine (k1 _ HH.out).mono ?_
  rintro e w1 ⟨rfl, h1⟩
  clear k1
  go_wp2_with fail
  refine (k2 _).mono ?_
  rintro e w2 ⟨rfl, h2⟩
  clear k2
  have B2 : Below w.heap.size w w2 := h1.trans (h2.mono h1.size)
  clear h1 h2
  go_wp2_with fail
  all_goals
    go_returns
    exact ⟨rfl, by go_grown⟩
set_option maxRecDepth 100000 in
set_option maxHeartbeats 4000000 in
theorem near_ndn (v p t n d : Int) (i : Nat) (hp : ¬ p < 0) (hp2 : ¬ 6 < p) (ep : 6 - p = (i : Int)) (t0 : 1 ≤ t) (t1 : t ≤ 1000000) (n0 : n ≤ 0) (n1 : -9223372036854775808 ≤ n) (v0 : v < 0) (v1 : -9223372036854775808 ≤ v) (N1 V1 D1 : Int) (en : IntKind.u64.wrap n = N1) (ev : IntKind.u64.wrap v = V1) (ew : IntKind.u64.wrap (N1 - V1) = D1) (et : Int.tmod n t = 0) (nv : n < v) (nv2 : ¬ v < n) (ed : IntKind.u64.wrap (-D1) = d) (d0 : 0 ≤ d) (d1 : 2 * d ≤ t)
    (k1 : ∀ w, Pows w → Calls Tryd.prog 23 #[.int .i64 v, .int .i64 p] w fun e w' => e = .returned (.tuple #[.int .i64 n, .int .i64 0]) ∧ Below w.heap.size w w')
    (k2 : ∀ w, Calls Tryd.prog 25 #[.int .i64 (i : Int)] w fun e w' => e = .returned (.int .u64 t) ∧ Below w.heap.size w w')
    (w : World) (H : Pows w) : Calls Tryd.prog 12 #[.int .i64 v, .int .i64 p] w fun e w' => e = .returned (.bool true) ∧ Below w.heap.size w w' := by
  have HH := hide H
  clear H
  have tz : (t == 0) = false := by rw [beq_eq_false_iff_ne]; omega
  have tz2 : ¬ t = 0 := by omega
  have tm : ¬ t = -1 := by omega
  go_enter Tryd.func12, Tryd.ntmps12
  go_wp2_with fail
  refine (k1 _ HH.out).mono ?_
  rintro e w1 ⟨rfl, h1⟩
  clear k1
  go_wp2_with fail
  refine (k2 _).mono ?_
  rintro e w2 ⟨rfl, h2⟩
  clear k2
  have B2 : Below w.heap.size w w2 := h1.trans (h2.mono h1.size)
  clear h1 h2
  go_wp2_with fail
  all_goals
    go_returns
    exact ⟨rfl, by go_grown⟩
set_option maxRecDepth 100000 in
set_option maxHeartbeats 4000000 in
theorem near_nst (v p t n d : Int) (i : Nat) (hp : ¬ p < 0) (hp2 : ¬ 6 < p) (ep : 6 - p = (i : Int)) (t0 : 1 ≤ t) (t1 : t ≤ 1000000) (n0 : n ≤ 0) (n1 : -9223372036854775808 ≤ n) (v0 : v < 0) (v1 : -9223372036854775808 ≤ v) (N1 V1 D1 : Int) (en : IntKind.u64.wrap n = N1) (ev : IntKind.u64.wrap v = V1) (ew : IntKind.u64.wrap (N1 - V1) = D1) (et : Int.tmod n t = 0) (nv : ¬ n < v) (nv2 : v < n) (d0 : 0 ≤ D1) (d1 : 2 * D1 < t)
    (k1 : ∀ w, Pows w → Calls Tryd.prog 23 #[.int .i64 v, .int .i64 p] w fun e w' => e = .returned (.tuple #[.int .i64 n, .int .i64 0]) ∧ Below w.heap.size w w')
    (k2 : ∀ w, Calls Tryd.prog 25 #[.int .i64 (i : Int)] w fun e w' => e = .returned (.int .u64 t) ∧ Below w.heap.size w w')
    (w : World) (H : Pows w) : Calls Tryd.prog 12 #[.int .i64 v, .int .i64 p] w fun e w' => e = .returned (.bool true) ∧ Below w.heap.size w w' := by
  have HH := hide H
  clear H
  have tz : (t == 0) = false := by rw [beq_eq_false_iff_ne]; omega
  have tz2 : ¬ t = 0 := by omega
  have tm : ¬ t = -1 := by omega
  go_enter Tryd.func12, Tryd.ntmps12
  go_wp2_with fail
  refine (k1 _ HH.out).mono ?_
  rintro e w1 ⟨rfl, h1⟩
  clear k1
  go_wp2_with fail
  refine (k2 _).mono ?_
  rintro e w2 ⟨rfl, h2⟩
  clear k2
  have B2 : Below w.heap.size w w2 := h1.trans (h2.mono h1.size)
  clear h1 h2
  go_wp2_with fail
  all_goals
    go_returns
    exact ⟨rfl, by go_grown⟩
set_option maxRecDepth 100000 in
set_option maxHeartbeats 4000000 in
theorem near_neq (v p t n d : Int) (i : Nat) (hp : ¬ p < 0) (hp2 : ¬ 6 < p) (ep : 6 - p = (i : Int)) (t0 : 1 ≤ t) (t1 : t ≤ 1000000) (n0 : n ≤ 0) (n1 : -9223372036854775808 ≤ n) (v0 : v < 0) (v1 : -9223372036854775808 ≤ v) (N1 V1 D1 : Int) (en : IntKind.u64.wrap n = N1) (ev : IntKind.u64.wrap v = V1) (ew : IntKind.u64.wrap (N1 - V1) = D1) (et : Int.tmod n t = 0) (nv : ¬ n < v) (nv2 : ¬ v < n) (d0 : D1 = 0)
    (k1 : ∀ w, Pows w → Calls Tryd.prog 23 #[.int .i64 v, .int .i64 p] w fun e w' => e = .returned (.tuple #[.int .i64 n, .int .i64 0]) ∧ Below w.heap.size w w')
    (k2 : ∀ w, Calls Tryd.prog 25 #[.int .i64 (i : Int)] w fun e w' => e = .returned (.int .u64 t) ∧ Below w.heap.size w w')
    (w : World) (H : Pows w) : Calls Tryd.prog 12 #[.int .i64 v, .int .i64 p] w fun e w' => e = .returned (.bool true) ∧ Below w.heap.size w w' := by
  have HH := hide H
  clear H
  have tz : (t == 0) = false := by rw [beq_eq_false_iff_ne]; omega
  have tz2 : ¬ t = 0 := by omega
  have tm : ¬ t = -1 := by omega
  go_enter Tryd.func12, Tryd.ntmps12
  go_wp2_with fail
  refine (k1 _ HH.out).mono ?_
  rintro e w1 ⟨rfl, h1⟩
  clear k1
  go_wp2_with fail
  refine (k2 _).mono ?_
  rintro e w2 ⟨rfl, h2⟩
  clear k2
  have B2 : Below w.heap.size w w2 := h1.trans (h2.mono h1.size)
  clear h1 h2
  go_wp2_with fail
  all_goals
    go_returns
    exact ⟨rfl, by go_grown⟩
set_option maxRecDepth 100000 in
set_option maxHeartbeats 4000000 in
theorem near_ehi (v p t n d : Int) (i : Nat) (hp : ¬ p < 0) (hp2 : ¬ 6 < p) (ep : 6 - p = (i : Int)) (t0 : 1 ≤ t) (t1 : t ≤ 1000000) (g : 9223372036854775807 - t < v)
    (k1 : ∀ w, Pows w → Calls Tryd.prog 23 #[.int .i64 v, .int .i64 p] w fun e w' => e = .returned (.tuple #[.int .i64 0, .int .i64 10]) ∧ Below w.heap.size w w')
    (k2 : ∀ w, Calls Tryd.prog 25 #[.int .i64 (i : Int)] w fun e w' => e = .returned (.int .u64 t) ∧ Below w.heap.size w w')
    (w : World) (H : Pows w) : Calls Tryd.prog 12 #[.int .i64 v, .int .i64 p] w fun e w' => e = .returned (.bool true) ∧ Below w.heap.size w w' := by
  have HH := hide H
  clear H
  have tz : (t == 0) = false := by rw [beq_eq_false_iff_ne]; omega
  have tz2 : ¬ t = 0 := by omega
  have tm : ¬ t = -1 := by omega
  go_enter Tryd.func12, Tryd.ntmps12
  go_wp2_with fail
  refine (k1 _ HH.out).mono ?_
  rintro e w1 ⟨rfl, h1⟩
  clear k1
  go_wp2_with fail
  refine (k2 _).mono ?_
  rintro e w2 ⟨rfl, h2⟩
  clear k2
  have B2 : Below w.heap.size w w2 := h1.trans (h2.mono h1.size)
  clear h1 h2
  go_wp2_with fail
  all_goals
    go_returns
    exact ⟨rfl, by go_grown⟩
set_option maxRecDepth 100000 in
set_option maxHeartbeats 4000000 in
theorem near_elo (v p t n d : Int) (i : Nat) (hp : ¬ p < 0) (hp2 : ¬ 6 < p) (ep : 6 - p = (i : Int)) (t0 : 1 ≤ t) (t1 : t ≤ 1000000) (g : ¬ 9223372036854775807 - t < v) (g2 : v < -9223372036854775808 + t)
    (k1 : ∀ w, Pows w → Calls Tryd.prog 23 #[.int .i64 v, .int .i64 p] w fun e w' => e = .returned (.tuple #[.int .i64 0, .int .i64 10]) ∧ Below w.heap.size w w')
    (k2 : ∀ w, Calls Tryd.prog 25 #[.int .i64 (i : Int)] w fun e w' => e = .returned (.int .u64 t) ∧ Below w.heap.size w w')
    (w : World) (H : Pows w) : Calls Tryd.prog 12 #[.int .i64 v, .int .i64 p] w fun e w' => e = .returned (.bool true) ∧ Below w.heap.size w w' := by
  have HH := hide H
  clear H
  have tz : (t == 0) = false := by rw [beq_eq_false_iff_ne]; omega
  have tz2 : ¬ t = 0 := by omega
  have tm : ¬ t = -1 := by omega
  go_enter Tryd.func12, Tryd.ntmps12
  go_wp2_with fail
  refine (k1 _ HH.out).mono ?_
  rintro e w1 ⟨rfl, h1⟩
  clear k1
  go_wp2_with fail
  refine (k2 _).mono ?_
  rintro e w2 ⟨rfl, h2⟩
  clear k2
  have B2 : Below w.heap.size w w2 := h1.trans (h2.mono h1.size)
  clear h1 h2
  go_wp2_with fail
  all_goals
    go_returns
    exact ⟨rfl, by go_grown⟩
set_option maxRecDepth 100000 in
set_option maxHeartbeats 4000000 in
theorem near_low (v p : Int) (h : p < 0)
    (k1 : ∀ w, Pows w → Calls Tryd.prog 23 #[.int .i64 v, .int .i64 p] w fun e w' => e = .returned (.tuple #[.int .i64 0, .int .i64 1]) ∧ Below w.heap.size w w')
    (w : World) (H : Pows w) : Calls Tryd.prog 12 #[.int .i64 v, .int .i64 p] w fun e w' => e = .returned (.bool true) ∧ Below w.heap.size w w' := by
  have HH := hide H
  clear H
  go_enter Tryd.func12, Tryd.ntmps12
  go_wp2_with fail
  refine (k1 _ HH.out).mono ?_
  rintro e w1 ⟨rfl, h1⟩
  clear k1
  go_wp2_with fail
  all_goals
    go_returns
    exact ⟨rfl, by go_grown⟩
set_option maxRecDepth 100000 in
set_option maxHeartbeats 4000000 in
theorem near_high (v p : Int) (h : 6 < p) (h2 : ¬ p < 0)
    (k1 : ∀ w, Pows w → Calls Tryd.prog 23 #[.int .i64 v, .int .i64 p] w fun e w' => e = .returned (.tuple #[.int .i64 0, .int .i64 1]) ∧ Below w.heap.size w w')
    (w : World) (H : Pows w) : Calls Tryd.prog 12 #[.int .i64 v, .int .i64 p] w fun e w' => e = .returned (.bool true) ∧ Below w.heap.size w w' := by
  have HH := hide H
  clear H
  go_enter Tryd.func12, Tryd.ntmps12
  go_wp2_with fail
  refine (k1 _ HH.out).mono ?_
  rintro e w1 ⟨rfl, h1⟩
  clear k1
  go_wp2_with fail
  all_goals
    go_returns
    exact ⟨rfl, by go_grown⟩
theorem tmod_mul (x t : Int) : Int.tmod (x * t) t = 0 := Int.mul_tmod_left x t
/-- What is near: how far it lies, and on which side. -/
theorem near_pos_facts (v t : Int) (hv : 0 ≤ v) (t0 : 1 ≤ t) : 0 ≤ nearV v t ∧ nearV v t % t = 0 ∧ Int.tmod (nearV v t) t = 0 ∧ (v < nearV v t → 2 * (nearV v t - v) ≤ t) ∧ (nearV v t ≤ v → 2 * (v - nearV v t) < t) := by
  have m0 := Int.emod_nonneg v (show t ≠ 0 by omega)
  have m1 := Int.emod_lt_of_pos v (show 0 < t by omega)
  have d := Int.emod_add_mul_ediv v t
  have c : t * (v / t) = v / t * t := Int.mul_comm _ _
  have q0 : 0 ≤ v / t := Int.ediv_nonneg hv (by omega)
  have e := near_pos v t hv t0
  by_cases g : t ≤ 2 * (v % t) ∧ 1 < t
  · rw [if_pos g] at e
    have x : (v / t + 1) * t = v / t * t + t := by rw [Int.add_mul, Int.one_mul]
    have n0 : 0 ≤ v / t * t := Int.mul_nonneg q0 (by omega)
    refine ⟨by omega, by rw [e]; exact Int.mul_emod_left _ _, by rw [e]; exact tmod_mul _ _, fun _ => by omega, fun _ => by omega⟩
  · rw [if_neg g] at e
    have n0 : 0 ≤ v / t * t := Int.mul_nonneg q0 (by omega)
    refine ⟨by omega, by rw [e]; exact Int.mul_emod_left _ _, by rw [e]; exact tmod_mul _ _, fun _ => by omega, fun _ => by omega⟩
theorem near_neg_facts (u t : Int) (hv : 0 ≤ u) (t0 : 1 ≤ t) : nearV (-u) t = -(nearV u t) := by
  rw [near_neg u t hv t0, near_pos u t hv t0]
theorem law_MicroNear (v p : Int) (wv : (Lit.int .i64 v).wf = true) (wp : (Lit.int .i64 p).wf = true) (W : World) (hL : laidMetH Tryd.prog Rows.microRoundsRow.laid W) :
    Calls Tryd.prog 12 #[.int .i64 v, .int .i64 p] W fun e w' => e = .returned (.bool true) ∧ Below W.heap.size W w' := by
  have j := hi_of_wf wv
  have P := pows_of hL
  have k1 := fun w h => round_spec v p j w h
  unfold roundR at k1
  by_cases a : p < 0
  · simp only [if_pos (Or.inl a)] at k1
    exact near_low v p a k1 W P
  by_cases b : 6 < p
  · simp only [if_pos (Or.inr b)] at k1
    exact near_high v p b a k1 W P
  simp only [if_neg (show ¬ (p < 0 ∨ 6 < p) by omega)] at k1
  obtain ⟨i, hi⟩ : ∃ i, i = (6 - p).toNat := ⟨_, rfl⟩
  rw [← hi] at k1
  have ep : 6 - p = (i : Int) := by omega
  have k2 := ten_spec i (by omega)
  obtain ⟨t0, t1⟩ := tenN_bd i (by omega)
  generalize tenN i = t at *
  obtain ⟨j1, j2⟩ := j
  by_cases hv : 0 ≤ v
  · obtain ⟨f1, f2, f3, f4, f5⟩ := near_pos_facts v t hv t0
    by_cases h : IsHi (nearV v t)
    · simp only [if_pos h, show smallV (nearV v t) = nearV v t from if_pos h] at k1
      obtain ⟨h1, h2⟩ := h
      generalize nearV v t = n at *
      by_cases g : v < n
      · exact near_up v p t n (n - v) i a b ep t0 t1 f1 (by omega) hv (by omega) f2 f3 g rfl (by omega) (f4 g) k1 k2 W P
      · by_cases g2 : n < v
        · exact near_dn v p t n (v - n) i a b ep t0 t1 f1 (by omega) hv (by omega) f2 f3 (n - v + 18446744073709551616) g2 g (by rw [IntKind.wrap_u64]; omega) (by rw [IntKind.wrap_u64]; omega) (by omega) (f5 (by omega)) k1 k2 W P
        · have e : v = n := by omega
          subst e
          exact near_eq p t v i a b ep t0 t1 f1 (by omega) f2 f3 k1 k2 W P
    · simp only [if_neg h, show smallV (nearV v t) = 0 from if_neg h] at k1
      have g : 9223372036854775807 - t < v := by
        apply Decidable.byContradiction; intro q
        refine h ⟨by omega, ?_⟩
        by_cases g : v < nearV v t
        · have := f4 g; omega
        · omega
      exact near_ehi v p t 0 0 i a b ep t0 t1 g k1 k2 W P
  · obtain ⟨u, rfl⟩ : ∃ u, v = -u := ⟨-v, by omega⟩
    obtain ⟨f1, f2, f3, f4, f5⟩ := near_pos_facts u t (by omega) t0
    have en := near_neg_facts u t (by omega) t0
    have ft : Int.tmod (nearV (-u) t) t = 0 := by rw [en, Int.neg_tmod, f3]; rfl
    by_cases h : IsHi (nearV (-u) t)
    · simp only [if_pos h, show smallV (nearV (-u) t) = nearV (-u) t from if_pos h] at k1
      obtain ⟨h1, h2⟩ := h
      generalize nearV (-u) t = n at *
      generalize nearV u t = m at *
      by_cases g : n < -u
      · exact near_ndn (-u) p t n (-u - n) i a b ep t0 t1 (by omega) h1 (by omega) j1 (if n = 0 then 0 else n + 18446744073709551616) (-u + 18446744073709551616) (n + u + 18446744073709551616) (by rw [IntKind.wrap_u64]; split <;> omega) (by rw [IntKind.wrap_u64]; omega) (by rw [IntKind.wrap_u64]; split <;> omega) ft g (by omega) (by rw [IntKind.wrap_u64]; omega) (by omega) (by have := f4 (by omega); omega) k1 k2 W P
      · by_cases g2 : -u < n
        · exact near_nst (-u) p t n 0 i a b ep t0 t1 (by omega) h1 (by omega) j1 (if n = 0 then 0 else n + 18446744073709551616) (-u + 18446744073709551616) (n + u) (by rw [IntKind.wrap_u64]; split <;> omega) (by rw [IntKind.wrap_u64]; omega) (by rw [IntKind.wrap_u64]; split <;> omega) ft g g2 (by omega) (by have := f5 (by omega); omega) k1 k2 W P
        · exact near_neq (-u) p t n 0 i a b ep t0 t1 (by omega) h1 (by omega) j1 (if n = 0 then 0 else n + 18446744073709551616) (-u + 18446744073709551616) 0 (by rw [IntKind.wrap_u64]; split <;> omega) (by rw [IntKind.wrap_u64]; omega) (by rw [IntKind.wrap_u64]; split <;> omega) ft g g2 rfl k1 k2 W P
    · simp only [if_neg h, show smallV (nearV (-u) t) = 0 from if_neg h] at k1
      have g : -u < -9223372036854775808 + t := by
        apply Decidable.byContradiction; intro q
        refine h ⟨?_, by omega⟩
        by_cases g : u < nearV u t
        · have := f4 g; omega
        · omega
      exact near_elo (-u) p t 0 0 i a b ep t0 t1 (by omega) g k1 k2 W P
end Go.Proofs.YtdjehbagnkfkpaaDoor
