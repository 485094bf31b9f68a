/- micro: Round. (gen_mround.py) -/
import Derived.Test.YtdjehbagnkfkpaaDoorWadd
import Derived.Test.YtdjehbagnkfkpaaDoorWsub
import Derived.Test.YtdjehbagnkfkpaaDoorWsmall
import Derived.Deep.DeepCutAuto
import Derived.Deep.RegionWith
namespace Go.Proofs.YtdjehbagnkfkpaaDoor
set_option linter.unusedVariables false
set_option linter.unusedSimpArgs false
open Go.RowKit W
theorem mfit_err (a b e : Int) (n : (e != 0) = true) (w : World) :
    Calls Tryd.prog 43 #[.agg #[.int .i64 a, .int .u64 b], .int .i64 e] w fun x w' => x = .returned (.tuple #[.int .i64 0, .int .i64 e]) ∧ Below w.heap.size w w' := by
  go_enter Tryd.func43, Tryd.ntmps43
  go_wp2_with fail
  go_returns
  exact ⟨rfl, by go_grown⟩
theorem mfit_walk (a b v : Int) (t : Bool) (c : ∀ w, Calls Tryd.prog 26 #[.agg #[.int .i64 a, .int .u64 b]] w fun e w' => e = .returned (.tuple #[.int .i64 v, .bool t]) ∧ Below w.heap.size w w') (w : World) :
    Calls Tryd.prog 43 #[.agg #[.int .i64 a, .int .u64 b], .int .i64 0] w fun x w' => x = .returned (.tuple #[.int .i64 (if t then v else 0), .int .i64 (if t then 0 else 10)]) ∧ Below w.heap.size w w' := by
  cases t
  all_goals
    go_enter Tryd.func43, Tryd.ntmps43
    go_wp2_with fail
    refine (c _).mono ?_
    rintro e w1 ⟨rfl, h1⟩
    have B1 : Below w.heap.size w w1 := Below.trans (by go_grown) (h1.mono (by simp))
    go_wp2_with fail
    go_returns
    exact ⟨rfl, B1⟩
/-- fit of a number that 128 bits hold. -/
theorem mfit_of {n : Int} (f : Fits n) (w : World) :
    Calls Tryd.prog 43 #[.agg #[.int .i64 (hi n), .int .u64 (lo n)], .int .i64 0] w fun x w' => x = .returned (.tuple #[.int .i64 (smallV n), .int .i64 (if IsHi n then 0 else 10)]) ∧ Below w.heap.size w w' := by
  have c := small_spec (hi n) (lo n) ⟨isHi_hi f, isLo_lo n⟩
  rw [V_hi_lo] at c
  have k := mfit_walk _ _ _ _ c w
  unfold smallB smallV at k
  unfold smallV
  by_cases h : IsHi n
  · rw [decide_eq_true h] at k
    simp only [if_pos h, if_true] at k ⊢
    exact k
  · rw [decide_eq_false h] at k
    simp only [if_neg h] at k ⊢
    exact k
set_option maxRecDepth 100000 in
set_option maxHeartbeats 4000000 in
theorem mround_low (v p : Int) (h : p < 0)
    (w : World) : Calls Tryd.prog 23 #[.int .i64 v, .int .i64 p] w fun e w' => e = .returned (.tuple #[.int .i64 0, .int .i64 1]) ∧ Below w.heap.size w w' := by
  go_enter Tryd.func23, Tryd.ntmps23
  go_wp2_with fail
  go_returns
  exact ⟨rfl, by go_grown⟩
set_option maxRecDepth 100000 in
set_option maxHeartbeats 4000000 in
theorem mround_high (v p : Int) (h : 6 < p) (h2 : ¬ p < 0)
    (w : World) : Calls Tryd.prog 23 #[.int .i64 v, .int .i64 p] w fun e w' => e = .returned (.tuple #[.int .i64 0, .int .i64 1]) ∧ Below w.heap.size w w' := by
  go_enter Tryd.func23, Tryd.ntmps23
  go_wp2_with fail
  go_returns
  exact ⟨rfl, by go_grown⟩
set_option maxRecDepth 100000 in
set_option maxHeartbeats 4000000 in
theorem mround_up (v p t r m m1 m0 : Int) (i : Nat) (hp : ¬ p < 0) (hp2 : ¬ 6 < p) (hi6 : i ≤ 6) (ep : 6 - p = (i : Int)) (t0 : 1 ≤ t) (t1 : t ≤ 1000000) (er : Int.tmod v t = r) (er2 : 0 ≤ v → v % t = r) (rl : -1000000 < r) (rh : r < 1000000) (ml : -9223372036854775808 ≤ m) (mh' : m ≤ 9223372036854775807) (em : v - r = m) (vl : -9223372036854775808 ≤ v) (vh : v ≤ 9223372036854775807) (s1 s0 x1 x0 n er' : Int) (r0 : 0 < r) (g : t ≤ 2 * r)
    (ko : ∀ w, Calls Tryd.prog 30 #[.int .i64 m] w fun e w' => e = .returned (.agg #[.int .i64 m1, .int .u64 m0]) ∧ Below w.heap.size w w')
    (kt : ∀ w, Calls Tryd.prog 30 #[.int .i64 t] w fun e w' => e = .returned (.agg #[.int .i64 s1, .int .u64 s0]) ∧ Below w.heap.size w w')
    (ka : ∀ w, Calls Tryd.prog 44 #[.agg #[.int .i64 m1, .int .u64 m0], .agg #[.int .i64 s1, .int .u64 s0]] w fun e w' => e = .returned (.tuple #[.agg #[.int .i64 x1, .int .u64 x0], .int .i64 0]) ∧ Below w.heap.size w w')
    (kf : ∀ w, Calls Tryd.prog 43 #[.agg #[.int .i64 x1, .int .u64 x0], .int .i64 0] w fun e w' => e = .returned (.tuple #[.int .i64 n, .int .i64 er']) ∧ Below w.heap.size w w')
    (w : World) (hc : w.cell? ⟨0, i, none⟩ = some (.int .i64 t)) : Calls Tryd.prog 23 #[.int .i64 v, .int .i64 p] w fun e w' => e = .returned (.tuple #[.int .i64 n, .int .i64 er']) ∧ Below w.heap.size w w' := by
  have tz : (t == 0) = false := by rw [beq_eq_false_iff_ne]; omega
  have tz2 : ¬ t = 0 := by omega
  have tm : ¬ t = -1 := by omega
  go_enter Tryd.func23, Tryd.ntmps23
  go_wp2_with fail
  refine (ko _).mono ?_
  rintro e w1 ⟨rfl, h1⟩
  have B1 : Below w.heap.size w w1 := Below.trans (by go_grown) (h1.mono (by first | (simp; done) | omega | (simp; omega)))
  have y1 := B1.size
  clear h1 ko
  go_wp2_with fail
  obtain ⟨W, hW⟩ : ∃ X, X = w1.alloc (.cells #[.int .i64 m1, .int .u64 m0] 33) := ⟨_, rfl⟩
  have c0 : W.cell? ⟨w1.heap.size, 0, none⟩ = some (.int .i64 m1) := by rw [hW]; simp [go_sem]
  have c1 : W.cell? ⟨w1.heap.size, 1, none⟩ = some (.int .u64 m0) := by rw [hW]; simp [go_sem]
  have z0 : w1.heap.size < W.heap.size := by rw [hW]; simp
  have BW : Below w.heap.size w W := by rw [hW]; go_grown
  rw [← hW]
  clear hW B1
  have K0 := Keeps.start (Nat.le_refl W.heap.size)
  have K1 := K0.drew
  go_region_with (first
    | (go_at_call 30; (with_reducible refine (kt _).mono ?_); rintro e v20 ⟨rfl, hb20⟩; have K20 := Keeps.call (B := W.heap.size) (W := W) (by repeat (first | assumption | refine Keeps.alloc ?_ _ | refine Keeps.drew ?_ | refine Keeps.setCell ?_ (by first | (simp; done) | omega | (simp; omega)) _)) hb20; have n20 := K20.cell c0 z0; have o20 := K20.cell c1 z0)
    | (go_at_call 44; (with_reducible refine (ka _).mono ?_); rintro e v21 ⟨rfl, hb21⟩; have K21 := Keeps.call (B := W.heap.size) (W := W) (by repeat (first | assumption | refine Keeps.alloc ?_ _ | refine Keeps.drew ?_ | refine Keeps.setCell ?_ (by first | (simp; done) | omega | (simp; omega)) _)) hb21; have n21 := K21.cell c0 z0; have o21 := K21.cell c1 z0)
    | (go_at_call 43; (with_reducible refine (kf _).mono ?_); rintro e v22 ⟨rfl, hb22⟩; have K22 := Keeps.call (B := W.heap.size) (W := W) (by repeat (first | assumption | refine Keeps.alloc ?_ _ | refine Keeps.drew ?_ | refine Keeps.setCell ?_ (by first | (simp; done) | omega | (simp; omega)) _)) hb22; have n22 := K22.cell c0 z0; have o22 := K22.cell c1 z0))
  all_goals
    have BE := BW.trans (K22.below.mono BW.size)
    clear K20 K21 K22 kt ka kf
    go_wp2_with fail
    go_returns
    refine ⟨rfl, ?_⟩
    repeat (first | exact BE | refine Below.setCell ?_ (by first | (simp; done) | omega | (simp; omega)) _ | refine Below.drew ?_ | refine below_drewN ?_ _ | refine Below.alloc ?_ (by first | (simp; done) | omega | (simp; omega)) _)
set_option maxRecDepth 100000 in
set_option maxHeartbeats 4000000 in
theorem mround_down (v p t r m m1 m0 : Int) (i : Nat) (hp : ¬ p < 0) (hp2 : ¬ 6 < p) (hi6 : i ≤ 6) (ep : 6 - p = (i : Int)) (t0 : 1 ≤ t) (t1 : t ≤ 1000000) (er : Int.tmod v t = r) (er2 : 0 ≤ v → v % t = r) (rl : -1000000 < r) (rh : r < 1000000) (ml : -9223372036854775808 ≤ m) (mh' : m ≤ 9223372036854775807) (em : v - r = m) (vl : -9223372036854775808 ≤ v) (vh : v ≤ 9223372036854775807) (s1 s0 x1 x0 n er' : Int) (r0 : r < 0) (g : t ≤ -2 * r) (g0 : ¬ 0 < r)
    (ko : ∀ w, Calls Tryd.prog 30 #[.int .i64 m] w fun e w' => e = .returned (.agg #[.int .i64 m1, .int .u64 m0]) ∧ Below w.heap.size w w')
    (kt : ∀ w, Calls Tryd.prog 30 #[.int .i64 t] w fun e w' => e = .returned (.agg #[.int .i64 s1, .int .u64 s0]) ∧ Below w.heap.size w w')
    (ka : ∀ w, Calls Tryd.prog 45 #[.agg #[.int .i64 m1, .int .u64 m0], .agg #[.int .i64 s1, .int .u64 s0]] w fun e w' => e = .returned (.tuple #[.agg #[.int .i64 x1, .int .u64 x0], .int .i64 0]) ∧ Below w.heap.size w w')
    (kf : ∀ w, Calls Tryd.prog 43 #[.agg #[.int .i64 x1, .int .u64 x0], .int .i64 0] w fun e w' => e = .returned (.tuple #[.int .i64 n, .int .i64 er']) ∧ Below w.heap.size w w')
    (w : World) (hc : w.cell? ⟨0, i, none⟩ = some (.int .i64 t)) : Calls Tryd.prog 23 #[.int .i64 v, .int .i64 p] w fun e w' => e = .returned (.tuple #[.int .i64 n, .int .i64 er']) ∧ Below w.heap.size w w' := by
  have tz : (t == 0) = false := by rw [beq_eq_false_iff_ne]; omega
  have tz2 : ¬ t = 0 := by omega
  have tm : ¬ t = -1 := by omega
  go_enter Tryd.func23, Tryd.ntmps23
  go_wp2_with fail
  refine (ko _).mono ?_
  rintro e w1 ⟨rfl, h1⟩
  have B1 : Below w.heap.size w w1 := Below.trans (by go_grown) (h1.mono (by first | (simp; done) | omega | (simp; omega)))
  have y1 := B1.size
  clear h1 ko
  go_wp2_with fail
  obtain ⟨W, hW⟩ : ∃ X, X = w1.alloc (.cells #[.int .i64 m1, .int .u64 m0] 33) := ⟨_, rfl⟩
  have c0 : W.cell? ⟨w1.heap.size, 0, none⟩ = some (.int .i64 m1) := by rw [hW]; simp [go_sem]
  have c1 : W.cell? ⟨w1.heap.size, 1, none⟩ = some (.int .u64 m0) := by rw [hW]; simp [go_sem]
  have z0 : w1.heap.size < W.heap.size := by rw [hW]; simp
  have BW : Below w.heap.size w W := by rw [hW]; go_grown
  rw [← hW]
  clear hW B1
  have K0 := Keeps.start (Nat.le_refl W.heap.size)
  have K1 := K0.drew
  go_region_with (first
    | (go_at_call 30; (with_reducible refine (kt _).mono ?_); rintro e v20 ⟨rfl, hb20⟩; have K20 := Keeps.call (B := W.heap.size) (W := W) (by repeat (first | assumption | refine Keeps.alloc ?_ _ | refine Keeps.drew ?_ | refine Keeps.setCell ?_ (by first | (simp; done) | omega | (simp; omega)) _)) hb20; have n20 := K20.cell c0 z0; have o20 := K20.cell c1 z0)
    | (go_at_call 45; (with_reducible refine (ka _).mono ?_); rintro e v21 ⟨rfl, hb21⟩; have K21 := Keeps.call (B := W.heap.size) (W := W) (by repeat (first | assumption | refine Keeps.alloc ?_ _ | refine Keeps.drew ?_ | refine Keeps.setCell ?_ (by first | (simp; done) | omega | (simp; omega)) _)) hb21; have n21 := K21.cell c0 z0; have o21 := K21.cell c1 z0)
    | (go_at_call 43; (with_reducible refine (kf _).mono ?_); rintro e v22 ⟨rfl, hb22⟩; have K22 := Keeps.call (B := W.heap.size) (W := W) (by repeat (first | assumption | refine Keeps.alloc ?_ _ | refine Keeps.drew ?_ | refine Keeps.setCell ?_ (by first | (simp; done) | omega | (simp; omega)) _)) hb22; have n22 := K22.cell c0 z0; have o22 := K22.cell c1 z0))
  all_goals
    have BE := BW.trans (K22.below.mono BW.size)
    clear K20 K21 K22 kt ka kf
    go_wp2_with fail
    go_returns
    refine ⟨rfl, ?_⟩
    repeat (first | exact BE | refine Below.setCell ?_ (by first | (simp; done) | omega | (simp; omega)) _ | refine Below.drew ?_ | refine below_drewN ?_ _ | refine Below.alloc ?_ (by first | (simp; done) | omega | (simp; omega)) _)
set_option maxRecDepth 100000 in
set_option maxHeartbeats 4000000 in
theorem mround_stay0 (v p t r m m1 m0 : Int) (i : Nat) (hp : ¬ p < 0) (hp2 : ¬ 6 < p) (hi6 : i ≤ 6) (ep : 6 - p = (i : Int)) (t0 : 1 ≤ t) (t1 : t ≤ 1000000) (er : Int.tmod v t = r) (er2 : 0 ≤ v → v % t = r) (rl : -1000000 < r) (rh : r < 1000000) (ml : -9223372036854775808 ≤ m) (mh' : m ≤ 9223372036854775807) (em : v - r = m) (vl : -9223372036854775808 ≤ v) (vh : v ≤ 9223372036854775807) (r0 : ¬ 0 < r) (r1 : ¬ r < 0)
    (ko : ∀ w, Calls Tryd.prog 30 #[.int .i64 m] w fun e w' => e = .returned (.agg #[.int .i64 m1, .int .u64 m0]) ∧ Below w.heap.size w w')
    (w : World) (hc : w.cell? ⟨0, i, none⟩ = some (.int .i64 t)) : Calls Tryd.prog 23 #[.int .i64 v, .int .i64 p] w fun e w' => e = .returned (.tuple #[.int .i64 m, .int .i64 0]) ∧ Below w.heap.size w w' := by
  have tz : (t == 0) = false := by rw [beq_eq_false_iff_ne]; omega
  have tz2 : ¬ t = 0 := by omega
  have tm : ¬ t = -1 := by omega
  go_enter Tryd.func23, Tryd.ntmps23
  go_wp2_with fail
  refine (ko _).mono ?_
  rintro e w1 ⟨rfl, h1⟩
  have B1 : Below w.heap.size w w1 := Below.trans (by go_grown) (h1.mono (by first | (simp; done) | omega | (simp; omega)))
  have y1 := B1.size
  clear h1 ko
  go_wp2_with fail
  go_returns
  exact ⟨rfl, by go_grown⟩
set_option maxRecDepth 100000 in
set_option maxHeartbeats 4000000 in
theorem mround_stay1 (v p t r m m1 m0 : Int) (i : Nat) (hp : ¬ p < 0) (hp2 : ¬ 6 < p) (hi6 : i ≤ 6) (ep : 6 - p = (i : Int)) (t0 : 1 ≤ t) (t1 : t ≤ 1000000) (er : Int.tmod v t = r) (er2 : 0 ≤ v → v % t = r) (rl : -1000000 < r) (rh : r < 1000000) (ml : -9223372036854775808 ≤ m) (mh' : m ≤ 9223372036854775807) (em : v - r = m) (vl : -9223372036854775808 ≤ v) (vh : v ≤ 9223372036854775807) (r0 : 0 < r) (r1 : ¬ r < 0) (g : ¬ t ≤ 2 * r)
    (ko : ∀ w, Calls Tryd.prog 30 #[.int .i64 m] w fun e w' => e = .returned (.agg #[.int .i64 m1, .int .u64 m0]) ∧ Below w.heap.size w w')
    (w : World) (hc : w.cell? ⟨0, i, none⟩ = some (.int .i64 t)) : Calls Tryd.prog 23 #[.int .i64 v, .int .i64 p] w fun e w' => e = .returned (.tuple #[.int .i64 m, .int .i64 0]) ∧ Below w.heap.size w w' := by
  have tz : (t == 0) = false := by rw [beq_eq_false_iff_ne]; omega
  have tz2 : ¬ t = 0 := by omega
  have tm : ¬ t = -1 := by omega
  go_enter Tryd.func23, Tryd.ntmps23
  go_wp2_with fail
  refine (ko _).mono ?_
  rintro e w1 ⟨rfl, h1⟩
  have B1 : Below w.heap.size w w1 := Below.trans (by go_grown) (h1.mono (by first | (simp; done) | omega | (simp; omega)))
  have y1 := B1.size
  clear h1 ko
  go_wp2_with fail
  go_returns
  exact ⟨rfl, by go_grown⟩
set_option maxRecDepth 100000 in
set_option maxHeartbeats 4000000 in
theorem mround_stay2 (v p t r m m1 m0 : Int) (i : Nat) (hp : ¬ p < 0) (hp2 : ¬ 6 < p) (hi6 : i ≤ 6) (ep : 6 - p = (i : Int)) (t0 : 1 ≤ t) (t1 : t ≤ 1000000) (er : Int.tmod v t = r) (er2 : 0 ≤ v → v % t = r) (rl : -1000000 < r) (rh : r < 1000000) (ml : -9223372036854775808 ≤ m) (mh' : m ≤ 9223372036854775807) (em : v - r = m) (vl : -9223372036854775808 ≤ v) (vh : v ≤ 9223372036854775807) (r0 : ¬ 0 < r) (r1 : r < 0) (g : ¬ t ≤ -2 * r)
    (ko : ∀ w, Calls Tryd.prog 30 #[.int .i64 m] w fun e w' => e = .returned (.agg #[.int .i64 m1, .int .u64 m0]) ∧ Below w.heap.size w w')
    (w : World) (hc : w.cell? ⟨0, i, none⟩ = some (.int .i64 t)) : Calls Tryd.prog 23 #[.int .i64 v, .int .i64 p] w fun e w' => e = .returned (.tuple #[.int .i64 m, .int .i64 0]) ∧ Below w.heap.size w w' := by
  have tz : (t == 0) = false := by rw [beq_eq_false_iff_ne]; omega
  have tz2 : ¬ t = 0 := by omega
  have tm : ¬ t = -1 := by omega
  go_enter Tryd.func23, Tryd.ntmps23
  go_wp2_with fail
  refine (ko _).mono ?_
  rintro e w1 ⟨rfl, h1⟩
  have B1 : Below w.heap.size w w1 := Below.trans (by go_grown) (h1.mono (by first | (simp; done) | omega | (simp; omega)))
  have y1 := B1.size
  clear h1 ko
  go_wp2_with fail
  go_returns
  exact ⟨rfl, by go_grown⟩
/-- The nearest multiple of t. -/
def nearV (v t : Int) : Int :=
  if 0 < Int.tmod v t ∧ t ≤ 2 * Int.tmod v t then v - Int.tmod v t + t
  else if Int.tmod v t < 0 ∧ t ≤ -2 * Int.tmod v t then v - Int.tmod v t - t
  else v - Int.tmod v t
theorem tmod_bd (v t : Int) (t0 : 1 ≤ t) (t1 : t ≤ 1000000) (j : IsHi v) : -1000000 < Int.tmod v t ∧ Int.tmod v t < 1000000 ∧ -9223372036854775808 ≤ v - Int.tmod v t ∧ v - Int.tmod v t ≤ 9223372036854775807 ∧ (0 ≤ v → v % t = Int.tmod v t) ∧ (0 ≤ v → 0 ≤ Int.tmod v t) ∧ (v ≤ 0 → Int.tmod v t ≤ 0) := by
  obtain ⟨a, b⟩ := j
  by_cases h : 0 ≤ v
  · have e : Int.tmod v t = v % t := Int.tmod_eq_emod_of_nonneg h
    have m0 := Int.emod_nonneg v (show t ≠ 0 by omega)
    have m1 := Int.emod_lt_of_pos v (show 0 < t by omega)
    have m2 : v % t ≤ v := by
      have := Int.emod_add_mul_ediv v t
      have := Int.mul_nonneg (show 0 ≤ t by omega) (Int.ediv_nonneg h (show 0 ≤ t by omega))
      omega
    rw [e]
    refine ⟨by omega, by omega, by omega, by omega, fun _ => rfl, fun _ => m0, fun q => ?_⟩
    have : v = 0 := by omega
    rw [this]; simp
  · obtain ⟨u, rfl⟩ : ∃ u, v = -u := ⟨-v, by omega⟩
    have hu : 0 ≤ u := by omega
    have e : Int.tmod (-u) t = -(u % t) := by rw [Int.neg_tmod, Int.tmod_eq_emod_of_nonneg hu]
    have m0 := Int.emod_nonneg u (show t ≠ 0 by omega)
    have m1 := Int.emod_lt_of_pos u (show 0 < t by omega)
    have m2 : u % t ≤ u := by
      have := Int.emod_add_mul_ediv u t
      have := Int.mul_nonneg (show 0 ≤ t by omega) (Int.ediv_nonneg hu (show 0 ≤ t by omega))
      omega
    rw [e]
    exact ⟨by omega, by omega, by omega, by omega, fun q => absurd q (by omega), fun q => absurd q (by omega), fun _ => by omega⟩
theorem mround_mid (v p t : Int) (i : Nat) (j : IsHi v) (hp : 0 ≤ p) (hp2 : p ≤ 6) (ep : 6 - p = (i : Int)) (t0 : 1 ≤ t) (t1 : t ≤ 1000000) (w : World) (hc : w.cell? ⟨0, i, none⟩ = some (.int .i64 t)) :
    Calls Tryd.prog 23 #[.int .i64 v, .int .i64 p] w fun e w' => e = .returned (.tuple #[.int .i64 (smallV (nearV v t)), .int .i64 (if IsHi (nearV v t) then 0 else 10)]) ∧ Below w.heap.size w w' := by
  obtain ⟨b1, b2, b3, b4, b5, b6, b7⟩ := tmod_bd v t t0 t1 j
  have j0 := j
  obtain ⟨j1, j2'⟩ := j
  have j2 : v ≤ 9223372036854775807 := by omega
  obtain ⟨r, hr⟩ : ∃ r, r = Int.tmod v t := ⟨_, rfl⟩
  obtain ⟨m, hm⟩ : ∃ m, m = v - r := ⟨_, rfl⟩
  have hv : nearV v t = if 0 < r ∧ t ≤ 2 * r then m + t else if r < 0 ∧ t ≤ -2 * r then m - t else m := by unfold nearV; rw [← hr, ← hm]
  rw [← hr] at b1 b2 b3 b4 b5
  rw [← hm] at b3 b4
  have im : IsHi m := ⟨b3, by omega⟩
  have ko := wof_spec m im
  have kt := wof_spec t ⟨by omega, by omega⟩
  unfold wideRes at ko kt
  have fm : Fits m := ⟨by omega, by omega⟩
  have ft : Fits t := ⟨by omega, by omega⟩
  rw [hv]
  by_cases u : 0 < r ∧ t ≤ 2 * r
  · rw [if_pos u]
    have f : Fits (m + t) := ⟨by omega, by omega⟩
    have ka := add_spec (hi m) (lo m) (hi t) (lo t) ⟨isHi_hi fm, isLo_lo m⟩ ⟨isHi_hi ft, isLo_lo t⟩
    rw [V_hi_lo, V_hi_lo] at ka
    unfold sumRes at ka
    rw [resV_fits f, resE_fits f] at ka
    exact mround_up v p t r m _ _ i (by omega) (by omega) (by omega) ep t0 t1 hr.symm b5 b1 b2 b3 b4 hm.symm j1 j2 _ _ _ _ _ _ u.1 u.2 ko kt ka (mfit_of f) w hc
  · rw [if_neg u]
    by_cases d : r < 0 ∧ t ≤ -2 * r
    · rw [if_pos d]
      have f : Fits (m - t) := ⟨by omega, by omega⟩
      have ka := sub_spec (hi m) (lo m) (hi t) (lo t) ⟨isHi_hi fm, isLo_lo m⟩ ⟨isHi_hi ft, isLo_lo t⟩
      rw [V_hi_lo, V_hi_lo] at ka
      unfold sumRes at ka
      rw [resV_fits f, resE_fits f] at ka
      exact mround_down v p t r m _ _ i (by omega) (by omega) (by omega) ep t0 t1 hr.symm b5 b1 b2 b3 b4 hm.symm j1 j2 _ _ _ _ _ _ d.1 d.2 (by omega) ko kt ka (mfit_of f) w hc
    · rw [if_neg d]
      have sv : smallV m = m := by unfold smallV; rw [if_pos im]
      rw [sv, if_pos im]
      by_cases r0 : 0 < r
      · exact mround_stay1 v p t r m _ _ i (by omega) (by omega) (by omega) ep t0 t1 hr.symm b5 b1 b2 b3 b4 hm.symm j1 j2 r0 (by omega) (by omega) ko w hc
      · by_cases r1 : r < 0
        · exact mround_stay2 v p t r m _ _ i (by omega) (by omega) (by omega) ep t0 t1 hr.symm b5 b1 b2 b3 b4 hm.symm j1 j2 r0 r1 (by omega) ko w hc
        · exact mround_stay0 v p t r m _ _ i (by omega) (by omega) (by omega) ep t0 t1 hr.symm b5 b1 b2 b3 b4 hm.symm j1 j2 r0 r1 ko w hc
end Go.Proofs.YtdjehbagnkfkpaaDoor
