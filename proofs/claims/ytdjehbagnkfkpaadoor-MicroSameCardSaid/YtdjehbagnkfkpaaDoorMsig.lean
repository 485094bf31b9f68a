/- The reference of layer 2: Signed. (gen_mtaken.py) -/
import Derived.Test.YtdjehbagnkfkpaaDoorMref
namespace Go.Proofs.YtdjehbagnkfkpaaDoor
set_option linter.unusedVariables false
set_option linter.unusedSimpArgs false
open Go.RowKit W
set_option maxRecDepth 100000 in
set_option maxHeartbeats 4000000 in
theorem rsig_over (h l : Int) (b : Bool)
    (w : World) : Calls Tryd.prog 39 #[magV h l true, .bool b] w fun e w' => e = .returned (.tuple #[.agg #[.int .i64 0, .int .u64 0], .bool false]) ∧ Below w.heap.size w w' := by
  go_enter Tryd.func39, Tryd.ntmps39
  go_wp2_with fail
  go_returns
  exact ⟨rfl, by go_grown⟩
set_option maxRecDepth 100000 in
set_option maxHeartbeats 4000000 in
theorem rsig_high (h l : Int) (b : Bool) (hh : 9223372036854775808 < h)
    (w : World) : Calls Tryd.prog 39 #[magV h l false, .bool b] w fun e w' => e = .returned (.tuple #[.agg #[.int .i64 0, .int .u64 0], .bool false]) ∧ Below w.heap.size w w' := by
  go_enter Tryd.func39, Tryd.ntmps39
  go_wp2_with fail
  go_returns
  exact ⟨rfl, by go_grown⟩
set_option maxRecDepth 100000 in
set_option maxHeartbeats 4000000 in
theorem rsig_edge (h l : Int) (b : Bool) (hh : ¬ 9223372036854775808 < h) (hz : (h == 9223372036854775808) = true) (hl : 0 < l)
    (w : World) : Calls Tryd.prog 39 #[magV h l false, .bool b] w fun e w' => e = .returned (.tuple #[.agg #[.int .i64 0, .int .u64 0], .bool false]) ∧ Below w.heap.size w w' := by
  go_enter Tryd.func39, Tryd.ntmps39
  go_wp2_with fail
  go_returns
  exact ⟨rfl, by go_grown⟩
set_option maxRecDepth 100000 in
set_option maxHeartbeats 4000000 in
theorem rsig_edge2 (h l : Int) (hh : ¬ 9223372036854775808 < h) (hz : (h == 9223372036854775808) = true) (hl : ¬ 0 < l)
    (w : World) : Calls Tryd.prog 39 #[magV h l false, .bool false] w fun e w' => e = .returned (.tuple #[.agg #[.int .i64 0, .int .u64 0], .bool false]) ∧ Below w.heap.size w w' := by
  go_enter Tryd.func39, Tryd.ntmps39
  go_wp2_with fail
  go_returns
  exact ⟨rfl, by go_grown⟩
set_option maxRecDepth 100000 in
set_option maxHeartbeats 4000000 in
theorem rsig_pos (h l : Int) (i : h < 9223372036854775808) (h' : ¬ 9223372036854775808 < h) (hz : (h == 9223372036854775808) = false) (eh : IntKind.i64.wrap h = h)
    (w : World) : Calls Tryd.prog 39 #[magV h l false, .bool false] w fun e w' => e = .returned (.tuple #[.agg #[.int .i64 h, .int .u64 l], .bool true]) ∧ Below w.heap.size w w' := by
  go_enter Tryd.func39, Tryd.ntmps39
  go_wp2_with fail
  go_returns
  exact ⟨rfl, by go_grown⟩
set_option maxRecDepth 100000 in
set_option maxHeartbeats 4000000 in
theorem rsig_neg_false (h l p q n1 n0 r1 : Int) (o : Bool) (h' : ¬ 9223372036854775808 < h) (hz : (h == 9223372036854775808) = false) (x1 : bits .xor .u64 IntKind.u64.max h = p) (x0 : bits .xor .u64 IntKind.u64.max l = q) (er : IntKind.i64.wrap n1 = r1)
    (kp : ∀ w, Calls Tryd.prog 47 #[magV p q false, magV 0 1 false] w fun e w' => e = .returned (magV n1 n0 o) ∧ Below w.heap.size w w')
    (w : World) : Calls Tryd.prog 39 #[magV h l false, .bool true] w fun e w' => e = .returned (.tuple #[.agg #[.int .i64 r1, .int .u64 n0], .bool true]) ∧ Below w.heap.size w w' := by
  go_enter Tryd.func39, Tryd.ntmps39
  go_wp2_with fail
  refine (kp _).mono ?_
  rintro e w1 ⟨rfl, h1⟩
  have B1 : Below w.heap.size w w1 := Below.trans (by go_grown) (h1.mono (by first | (simp; done) | omega | (simp; omega)))
  have y1 := B1.size
  have A0 := box2 h1 (w.heap.size + 1) (.int .i64 0) (.int .u64 0) (by first | assumption | (simp [go_sem]; done) | (simp [go_sem]; done)) (by first | assumption | (simp [go_sem]; done) | (simp [go_sem]; done)) (by first | assumption | (simp [go_sem]; done) | (simp [go_sem]; done)) (by first | assumption | (simp [go_sem]; done) | (simp [go_sem]; done)) (by first | assumption | omega | (simp; done) | (simp; omega))
  obtain ⟨A0c0, A0c1, A0f0, A0f1, A0z⟩ := A0
  (try (have m1_0 : ¬ w.heap.size = w1.heap.size := by omega)); (try (have m1_0' : ¬ w1.heap.size = w.heap.size := by omega))
  clear h1 kp
  go_wp2_with fail
  refine bodyPost_ret (by simp [results, Tryd.results39, go_sem, A0c0, A0c1, A0z]; try rfl) rfl ?_
  exact ⟨rfl, by go_grown⟩
set_option maxRecDepth 100000 in
set_option maxHeartbeats 4000000 in
theorem rsig_neg_true (h l p q n1 n0 r1 : Int) (o : Bool) (h' : ¬ 9223372036854775808 < h) (hz : (h == 9223372036854775808) = true) (hl : ¬ 0 < l) (x1 : bits .xor .u64 IntKind.u64.max h = p) (x0 : bits .xor .u64 IntKind.u64.max l = q) (er : IntKind.i64.wrap n1 = r1)
    (kp : ∀ w, Calls Tryd.prog 47 #[magV p q false, magV 0 1 false] w fun e w' => e = .returned (magV n1 n0 o) ∧ Below w.heap.size w w')
    (w : World) : Calls Tryd.prog 39 #[magV h l false, .bool true] w fun e w' => e = .returned (.tuple #[.agg #[.int .i64 r1, .int .u64 n0], .bool true]) ∧ Below w.heap.size w w' := by
  go_enter Tryd.func39, Tryd.ntmps39
  go_wp2_with fail
  refine (kp _).mono ?_
  rintro e w1 ⟨rfl, h1⟩
  have B1 : Below w.heap.size w w1 := Below.trans (by go_grown) (h1.mono (by first | (simp; done) | omega | (simp; omega)))
  have y1 := B1.size
  have A0 := box2 h1 (w.heap.size + 1) (.int .i64 0) (.int .u64 0) (by first | assumption | (simp [go_sem]; done) | (simp [go_sem]; done)) (by first | assumption | (simp [go_sem]; done) | (simp [go_sem]; done)) (by first | assumption | (simp [go_sem]; done) | (simp [go_sem]; done)) (by first | assumption | (simp [go_sem]; done) | (simp [go_sem]; done)) (by first | assumption | omega | (simp; done) | (simp; omega))
  obtain ⟨A0c0, A0c1, A0f0, A0f1, A0z⟩ := A0
  (try (have m1_0 : ¬ w.heap.size = w1.heap.size := by omega)); (try (have m1_0' : ¬ w1.heap.size = w.heap.size := by omega))
  clear h1 kp
  go_wp2_with fail
  refine bodyPost_ret (by simp [results, Tryd.results39, go_sem, A0c0, A0c1, A0z]; try rfl) rfl ?_
  exact ⟨rfl, by go_grown⟩
/-- What Signed answers. -/
def sigRes (v : Int) : Ending := if Fits v then .returned (.tuple #[.agg #[.int .i64 (hi v), .int .u64 (lo v)], .bool true]) else .returned (.tuple #[.agg #[.int .i64 0, .int .u64 0], .bool false])
theorem sigRes_yes {v : Int} (f : Fits v) : sigRes v = .returned (.tuple #[.agg #[.int .i64 (hi v), .int .u64 (lo v)], .bool true]) := by unfold sigRes; rw [if_pos f]
theorem sigRes_no {v : Int} (f : ¬ Fits v) : sigRes v = .returned (.tuple #[.agg #[.int .i64 0, .int .u64 0], .bool false]) := by unfold sigRes; rw [if_neg f]
theorem rsig_mg (x : Int) (b : Bool) (x0 : 0 ≤ x) (w : World) :
    Calls Tryd.prog 39 #[mgV x, .bool b] w fun e w' => e = sigRes (sg b x) ∧ Below w.heap.size w w' := by
  show Calls Tryd.prog _ #[magV (mh x) (ml x) (mo x), .bool b] w _
  by_cases big : 340282366920938463463374607431768211456 ≤ x
  · have e3 : mo x = true := by unfold mo; exact decide_eq_true big
    have nf : ¬ Fits (sg b x) := by
      rintro ⟨a, c⟩
      cases b
      · rw [sg_f] at a c; omega
      · rw [sg_t] at a c; omega
    rw [e3, sigRes_no nf]
    exact rsig_over _ _ _ w
  have x1 : x < 340282366920938463463374607431768211456 := by omega
  have e1 : mh x = hi x := by unfold mh u hi; omega
  have e3 : mo x = false := by unfold mo; exact decide_eq_false big
  have im := isLo_mh x
  have il := isLo_ml x
  obtain ⟨m0, m1⟩ := im
  obtain ⟨l0, l1⟩ := il
  have vx : V (mh x) (ml x) = x := (V_mag x0 x1).1
  have vx' : mh x * 18446744073709551616 + ml x = x := vx
  rw [e3]
  by_cases h1 : 9223372036854775808 < mh x
  · have nf : ¬ Fits (sg b x) := by
      rintro ⟨a, c⟩
      cases b
      · rw [sg_f] at a c; omega
      · rw [sg_t] at a c; omega
    rw [sigRes_no nf]
    exact rsig_high _ _ _ h1 w
  by_cases hz : mh x = 9223372036854775808
  · have hz' : (mh x == 9223372036854775808) = true := by rw [beq_iff_eq]; exact hz
    by_cases l : 0 < ml x
    · have nf : ¬ Fits (sg b x) := by
        rintro ⟨a, c⟩
        cases b
        · rw [sg_f] at a c; omega
        · rw [sg_t] at a c; omega
      rw [sigRes_no nf]
      exact rsig_edge _ _ _ h1 hz' l w
    · cases b
      · have nf : ¬ Fits (sg false x) := by
          rintro ⟨a, c⟩
          rw [sg_f] at a c; omega
        rw [sigRes_no nf]
        exact rsig_edge2 _ _ h1 hz' l w
      · have f : Fits (sg true x) := by rw [sg_t]; exact ⟨by omega, by omega⟩
        rw [sigRes_yes f]
        have xm := xor_u64 (mh x) (isLo_mh x)
        have xl := xor_u64 (ml x) (isLo_ml x)
        obtain ⟨p, hp⟩ : ∃ p, p = -mh x - 1 + 18446744073709551616 := ⟨_, rfl⟩
        obtain ⟨q, hq⟩ : ∃ p, p = -ml x - 1 + 18446744073709551616 := ⟨_, rfl⟩
        rw [← hp] at xm
        rw [← hq] at xl
        have kp := plus_spec p q 0 1 false false ⟨by omega, by omega⟩ ⟨by omega, by omega⟩ isLo_0 ⟨by omega, by omega⟩
        have s1 : IntKind.i64.wrap (u (hi (V p q + V 0 1))) = hi (sg true x) := by
          rw [IntKind.wrap_i64]
          show _ = hi (-x)
          rw [← vx]
          unfold u hi V; omega
        have s0 : lo (V p q + V 0 1) = lo (sg true x) := by
          show _ = lo (-x)
          rw [← vx]
          unfold lo V; omega
        have k := rsig_neg_true (mh x) (ml x) p q _ _ _ _ (by omega) hz' l xm xl s1 kp w
        rw [s0] at k
        exact k
  · have hz' : (mh x == 9223372036854775808) = false := by rw [beq_eq_false_iff_ne]; exact hz
    cases b
    · have f : Fits (sg false x) := by rw [sg_f]; exact ⟨by omega, by omega⟩
      rw [sigRes_yes f]
      have k := rsig_pos (mh x) (ml x) (by omega) (by omega) hz' (by rw [IntKind.wrap_i64]; omega) w
      have e0 : ml x = lo x := rfl
      rw [sg_f, ← e1, ← e0]
      exact k
    · have f : Fits (sg true x) := by rw [sg_t]; exact ⟨by omega, by omega⟩
      rw [sigRes_yes f]
      have xm := xor_u64 (mh x) (isLo_mh x)
      have xl := xor_u64 (ml x) (isLo_ml x)
      obtain ⟨p, hp⟩ : ∃ p, p = -mh x - 1 + 18446744073709551616 := ⟨_, rfl⟩
      obtain ⟨q, hq⟩ : ∃ p, p = -ml x - 1 + 18446744073709551616 := ⟨_, rfl⟩
      rw [← hp] at xm
      rw [← hq] at xl
      have kp := plus_spec p q 0 1 false false ⟨by omega, by omega⟩ ⟨by omega, by omega⟩ isLo_0 ⟨by omega, by omega⟩
      have s1 : IntKind.i64.wrap (u (hi (V p q + V 0 1))) = hi (sg true x) := by
        rw [IntKind.wrap_i64]
        show _ = hi (-x)
        rw [← vx]
        unfold u hi V; omega
      have s0 : lo (V p q + V 0 1) = lo (sg true x) := by
        show _ = lo (-x)
        rw [← vx]
        unfold lo V; omega
      have k := rsig_neg_false (mh x) (ml x) p q _ _ _ _ (by omega) hz' xm xl s1 kp w
      rw [s0] at k
      exact k
end Go.Proofs.YtdjehbagnkfkpaaDoor
