/- The reference's Share; MicroShares. (gen_mrshare.py) -/
import Derived.Test.YtedpbdcbbfofoaaMshareb
import Derived.Test.YtedpbdcbbfofoaaWxor
namespace Go.Proofs.Ytedpbdcbbfofoaa
set_option linter.unusedVariables false
open Go.RowKit W
set_option maxHeartbeats 4000000 in
theorem rsigned_pos (h l : Int) (i : h < 9223372036854775808) (h' : ¬ 9223372036854775808 < h) (hz : (h == 9223372036854775808) = false) (eh : IntKind.i64.wrap h = h)
    (w : World) : Calls Try.prog 33 #[magV h l false, .bool false] w fun e w' => e = .returned (.tuple #[.agg #[.int .i64 h, .int .u64 l], .bool true]) ∧ Below w.heap.size w w' := by
  go_enter Try.func33, Try.ntmps33
  go_wp2_with fail
  go_returns
  exact ⟨rfl, by go_grown⟩
set_option maxHeartbeats 4000000 in
theorem rsigned_neg (h l p q n1 n0 r1 : Int) (o : Bool) (h' : ¬ 9223372036854775808 < h) (hz : (h == 9223372036854775808) = false) (x1 : bits .xor .u64 IntKind.u64.max h = p) (x0 : bits .xor .u64 IntKind.u64.max l = q) (er : IntKind.i64.wrap n1 = r1)
    (kp : ∀ w, Calls Try.prog 34 #[magV p q false, magV 0 1 false] w fun e w' => e = .returned (magV n1 n0 o) ∧ Below w.heap.size w w')
    (w : World) : Calls Try.prog 33 #[magV h l false, .bool true] w fun e w' => e = .returned (.tuple #[.agg #[.int .i64 r1, .int .u64 n0], .bool true]) ∧ Below w.heap.size w w' := by
  go_enter Try.func33, Try.ntmps33
  go_wp2_with fail
  refine (kp _).mono ?_
  rintro e w1 ⟨rfl, h1⟩
  have B1 : Below w.heap.size w w1 := Below.trans (by go_grown) (h1.mono (by first | (simp; done) | omega | (simp; omega)))
  have y1 := B1.size
  have A0 := box2 h1 (w.heap.size + 1) (.int .i64 0) (.int .u64 0) (by first | assumption | (simp [go_sem]; done) | (simp [go_sem]; done)) (by first | assumption | (simp [go_sem]; done) | (simp [go_sem]; done)) (by first | assumption | (simp [go_sem]; done) | (simp [go_sem]; done)) (by first | assumption | (simp [go_sem]; done) | (simp [go_sem]; done)) (by first | assumption | omega | (simp; done) | (simp; omega))
  obtain ⟨A0c0, A0c1, A0f0, A0f1, A0z⟩ := A0
  (try (have m1_0 : ¬ w.heap.size = w1.heap.size := by omega)); (try (have m1_0' : ¬ w1.heap.size = w.heap.size := by omega))
  clear h1 kp
  go_wp2_with fail
  refine bodyPost_ret (by simp [results, Try.results33, go_sem, A0c0, A0c1, A0z]; try rfl) rfl ?_
  exact ⟨rfl, by go_grown⟩
set_option maxHeartbeats 4000000 in
theorem rshare_low (a b n : Int) (h : n < 1)
    (w : World) : Calls Try.prog 14 #[.agg #[.int .i64 a, .int .u64 b], .int .i64 n] w fun e w' => e = .returned (.tuple #[.agg #[.int .i64 0, .int .u64 0], .int .i64 1]) ∧ Below w.heap.size w w' := by
  go_enter Try.func14, Try.ntmps14
  go_wp2_with fail
  go_returns
  exact ⟨rfl, by go_grown⟩
set_option maxHeartbeats 4000000 in
theorem rshare_one (a b m q r : Int) (x : Bool)
    (ka : ∀ w, Calls Try.prog 19 #[.agg #[.int .i64 a, .int .u64 b]] w fun e w' => e = .returned (.tuple #[mgV m, .bool x]) ∧ Below w.heap.size w w')
    (kb : ∀ w, Calls Try.prog 29 #[mgV m, .int .u64 1] w fun e w' => e = .returned (.tuple #[mgV q, .int .u64 r]) ∧ Below w.heap.size w w')
    (w : World) : Calls Try.prog 14 #[.agg #[.int .i64 a, .int .u64 b], .int .i64 1] w fun e w' => e = .returned (.tuple #[.agg #[.int .i64 a, .int .u64 b], .int .i64 0]) ∧ Below w.heap.size w w' := by
  go_enter Try.func14, Try.ntmps14
  go_wp2_with fail
  refine (ka _).mono ?_
  rintro e w1 ⟨rfl, h1⟩
  have B1 : Below w.heap.size w w1 := Below.trans (by go_grown) (h1.mono (by first | (simp; done) | omega | (simp; omega)))
  have y1 := B1.size
  have A0 := box2 h1 (w.heap.size) (.int .i64 a) (.int .u64 b) (by first | assumption | (simp [go_sem]; done) | (simp [go_sem]; done)) (by first | assumption | (simp [go_sem]; done) | (simp [go_sem]; done)) (by first | assumption | (simp [go_sem]; done) | (simp [go_sem]; done)) (by first | assumption | (simp [go_sem]; done) | (simp [go_sem]; done)) (by first | assumption | omega | (simp; done) | (simp; omega))
  have A1 := box2 h1 (w.heap.size + 1) (.int .i64 0) (.int .u64 0) (by first | assumption | (simp [go_sem]; done) | (simp [go_sem]; done)) (by first | assumption | (simp [go_sem]; done) | (simp [go_sem]; done)) (by first | assumption | (simp [go_sem]; done) | (simp [go_sem]; done)) (by first | assumption | (simp [go_sem]; done) | (simp [go_sem]; done)) (by first | assumption | omega | (simp; done) | (simp; omega))
  obtain ⟨A0c0, A0c1, A0f0, A0f1, A0z⟩ := A0
  obtain ⟨A1c0, A1c1, A1f0, A1f1, A1z⟩ := A1
  (try (have m1_0 : ¬ w.heap.size = w1.heap.size := by omega)); (try (have m1_0' : ¬ w1.heap.size = w.heap.size := by omega))
  clear h1 ka
  go_wp2_with fail
  refine (kb _).mono ?_
  rintro e w2 ⟨rfl, h2⟩
  have B2 : Below w.heap.size w w2 := Below.trans (by go_grown) (h2.mono (by first | (simp; done) | omega | (simp; omega)))
  have y2 := B2.size
  have B0 := box2 h2 (w.heap.size) (.int .i64 a) (.int .u64 b) (by first | assumption | (refine (Below.cell ?_ A0z).trans A0c0; go_grown; done) | (simp [go_sem, A0c0]; done) | (simp [go_sem, A0c0, A0z]; done) | (simp [go_sem, A0c0, A0c1, A0f0, A0f1, A0z, A1c0, A1c1, A1f0, A1f1, A1z]; done)) (by first | assumption | (refine (Below.cell ?_ A0z).trans A0c1; go_grown; done) | (simp [go_sem, A0c1]; done) | (simp [go_sem, A0c1, A0z]; done) | (simp [go_sem, A0c0, A0c1, A0f0, A0f1, A0z, A1c0, A1c1, A1f0, A1f1, A1z]; done)) (by first | assumption | (refine (Below.frozen ?_ A0z).trans A0f0; go_grown; done) | (simp [go_sem, A0f0]; done) | (simp [go_sem, A0f0, A0z]; done) | (simp [go_sem, A0c0, A0c1, A0f0, A0f1, A0z, A1c0, A1c1, A1f0, A1f1, A1z]; done)) (by first | assumption | (refine (Below.frozen ?_ A0z).trans A0f1; go_grown; done) | (simp [go_sem, A0f1]; done) | (simp [go_sem, A0f1, A0z]; done) | (simp [go_sem, A0c0, A0c1, A0f0, A0f1, A0z, A1c0, A1c1, A1f0, A1f1, A1z]; done)) (by first | assumption | omega | (simp; done) | (simp; omega))
  have B1 := box2 h2 (w.heap.size + 1) (.int .i64 0) (.int .u64 0) (by first | assumption | (refine (Below.cell ?_ A1z).trans A1c0; go_grown; done) | (simp [go_sem, A1c0]; done) | (simp [go_sem, A1c0, A1z]; done) | (simp [go_sem, A0c0, A0c1, A0f0, A0f1, A0z, A1c0, A1c1, A1f0, A1f1, A1z]; done)) (by first | assumption | (refine (Below.cell ?_ A1z).trans A1c1; go_grown; done) | (simp [go_sem, A1c1]; done) | (simp [go_sem, A1c1, A1z]; done) | (simp [go_sem, A0c0, A0c1, A0f0, A0f1, A0z, A1c0, A1c1, A1f0, A1f1, A1z]; done)) (by first | assumption | (refine (Below.frozen ?_ A1z).trans A1f0; go_grown; done) | (simp [go_sem, A1f0]; done) | (simp [go_sem, A1f0, A1z]; done) | (simp [go_sem, A0c0, A0c1, A0f0, A0f1, A0z, A1c0, A1c1, A1f0, A1f1, A1z]; done)) (by first | assumption | (refine (Below.frozen ?_ A1z).trans A1f1; go_grown; done) | (simp [go_sem, A1f1]; done) | (simp [go_sem, A1f1, A1z]; done) | (simp [go_sem, A0c0, A0c1, A0f0, A0f1, A0z, A1c0, A1c1, A1f0, A1f1, A1z]; done)) (by first | assumption | omega | (simp; done) | (simp; omega))
  clear A0c0 A0c1 A0f0 A0f1 A0z A1c0 A1c1 A1f0 A1f1 A1z
  obtain ⟨B0c0, B0c1, B0f0, B0f1, B0z⟩ := B0
  obtain ⟨B1c0, B1c1, B1f0, B1f1, B1z⟩ := B1
  (try (have m2_0 : ¬ w.heap.size = w2.heap.size := by omega)); (try (have m2_0' : ¬ w2.heap.size = w.heap.size := by omega))
  (try (have m2_1 : ¬ w1.heap.size = w2.heap.size := by omega)); (try (have m2_1' : ¬ w2.heap.size = w1.heap.size := by omega))
  clear h2 kb B1
  go_wp2_with fail
  refine bodyPost_ret (by simp [results, Try.results14, go_sem, B1c0, B1c1, B1z]; try rfl) rfl ?_
  exact ⟨rfl, by go_grown⟩
set_option maxHeartbeats 4000000 in
theorem rshare_more (a b n m q r v1 v0 : Int) (x ok : Bool) (h : ¬ n < 1) (n1 : (n == 1) = false) (en : IntKind.u64.wrap n = n)
    (ka : ∀ w, Calls Try.prog 19 #[.agg #[.int .i64 a, .int .u64 b]] w fun e w' => e = .returned (.tuple #[mgV m, .bool x]) ∧ Below w.heap.size w w')
    (kb : ∀ w, Calls Try.prog 29 #[mgV m, .int .u64 n] w fun e w' => e = .returned (.tuple #[mgV q, .int .u64 r]) ∧ Below w.heap.size w w')
    (ks : ∀ w, Calls Try.prog 33 #[mgV q, .bool x] w fun e w' => e = .returned (.tuple #[.agg #[.int .i64 v1, .int .u64 v0], .bool ok]) ∧ Below w.heap.size w w')
    (w : World) : Calls Try.prog 14 #[.agg #[.int .i64 a, .int .u64 b], .int .i64 n] w fun e w' => e = .returned (.tuple #[.agg #[.int .i64 v1, .int .u64 v0], .int .i64 0]) ∧ Below w.heap.size w w' := by
  go_enter Try.func14, Try.ntmps14
  go_wp2_with fail
  refine (ka _).mono ?_
  rintro e w1 ⟨rfl, h1⟩
  have B1 : Below w.heap.size w w1 := Below.trans (by go_grown) (h1.mono (by first | (simp; done) | omega | (simp; omega)))
  have y1 := B1.size
  have A0 := box2 h1 (w.heap.size) (.int .i64 a) (.int .u64 b) (by first | assumption | (simp [go_sem]; done) | (simp [go_sem]; done)) (by first | assumption | (simp [go_sem]; done) | (simp [go_sem]; done)) (by first | assumption | (simp [go_sem]; done) | (simp [go_sem]; done)) (by first | assumption | (simp [go_sem]; done) | (simp [go_sem]; done)) (by first | assumption | omega | (simp; done) | (simp; omega))
  have A1 := box2 h1 (w.heap.size + 1) (.int .i64 0) (.int .u64 0) (by first | assumption | (simp [go_sem]; done) | (simp [go_sem]; done)) (by first | assumption | (simp [go_sem]; done) | (simp [go_sem]; done)) (by first | assumption | (simp [go_sem]; done) | (simp [go_sem]; done)) (by first | assumption | (simp [go_sem]; done) | (simp [go_sem]; done)) (by first | assumption | omega | (simp; done) | (simp; omega))
  obtain ⟨A0c0, A0c1, A0f0, A0f1, A0z⟩ := A0
  obtain ⟨A1c0, A1c1, A1f0, A1f1, A1z⟩ := A1
  (try (have m1_0 : ¬ w.heap.size = w1.heap.size := by omega)); (try (have m1_0' : ¬ w1.heap.size = w.heap.size := by omega))
  clear h1 ka
  go_wp2_with fail
  refine (kb _).mono ?_
  rintro e w2 ⟨rfl, h2⟩
  have B2 : Below w.heap.size w w2 := Below.trans (by go_grown) (h2.mono (by first | (simp; done) | omega | (simp; omega)))
  have y2 := B2.size
  have B0 := box2 h2 (w.heap.size) (.int .i64 a) (.int .u64 b) (by first | assumption | (refine (Below.cell ?_ A0z).trans A0c0; go_grown; done) | (simp [go_sem, A0c0]; done) | (simp [go_sem, A0c0, A0z]; done) | (simp [go_sem, A0c0, A0c1, A0f0, A0f1, A0z, A1c0, A1c1, A1f0, A1f1, A1z]; done)) (by first | assumption | (refine (Below.cell ?_ A0z).trans A0c1; go_grown; done) | (simp [go_sem, A0c1]; done) | (simp [go_sem, A0c1, A0z]; done) | (simp [go_sem, A0c0, A0c1, A0f0, A0f1, A0z, A1c0, A1c1, A1f0, A1f1, A1z]; done)) (by first | assumption | (refine (Below.frozen ?_ A0z).trans A0f0; go_grown; done) | (simp [go_sem, A0f0]; done) | (simp [go_sem, A0f0, A0z]; done) | (simp [go_sem, A0c0, A0c1, A0f0, A0f1, A0z, A1c0, A1c1, A1f0, A1f1, A1z]; done)) (by first | assumption | (refine (Below.frozen ?_ A0z).trans A0f1; go_grown; done) | (simp [go_sem, A0f1]; done) | (simp [go_sem, A0f1, A0z]; done) | (simp [go_sem, A0c0, A0c1, A0f0, A0f1, A0z, A1c0, A1c1, A1f0, A1f1, A1z]; done)) (by first | assumption | omega | (simp; done) | (simp; omega))
  have B1 := box2 h2 (w.heap.size + 1) (.int .i64 0) (.int .u64 0) (by first | assumption | (refine (Below.cell ?_ A1z).trans A1c0; go_grown; done) | (simp [go_sem, A1c0]; done) | (simp [go_sem, A1c0, A1z]; done) | (simp [go_sem, A0c0, A0c1, A0f0, A0f1, A0z, A1c0, A1c1, A1f0, A1f1, A1z]; done)) (by first | assumption | (refine (Below.cell ?_ A1z).trans A1c1; go_grown; done) | (simp [go_sem, A1c1]; done) | (simp [go_sem, A1c1, A1z]; done) | (simp [go_sem, A0c0, A0c1, A0f0, A0f1, A0z, A1c0, A1c1, A1f0, A1f1, A1z]; done)) (by first | assumption | (refine (Below.frozen ?_ A1z).trans A1f0; go_grown; done) | (simp [go_sem, A1f0]; done) | (simp [go_sem, A1f0, A1z]; done) | (simp [go_sem, A0c0, A0c1, A0f0, A0f1, A0z, A1c0, A1c1, A1f0, A1f1, A1z]; done)) (by first | assumption | (refine (Below.frozen ?_ A1z).trans A1f1; go_grown; done) | (simp [go_sem, A1f1]; done) | (simp [go_sem, A1f1, A1z]; done) | (simp [go_sem, A0c0, A0c1, A0f0, A0f1, A0z, A1c0, A1c1, A1f0, A1f1, A1z]; done)) (by first | assumption | omega | (simp; done) | (simp; omega))
  clear A0c0 A0c1 A0f0 A0f1 A0z A1c0 A1c1 A1f0 A1f1 A1z
  obtain ⟨B0c0, B0c1, B0f0, B0f1, B0z⟩ := B0
  obtain ⟨B1c0, B1c1, B1f0, B1f1, B1z⟩ := B1
  (try (have m2_0 : ¬ w.heap.size = w2.heap.size := by omega)); (try (have m2_0' : ¬ w2.heap.size = w.heap.size := by omega))
  (try (have m2_1 : ¬ w1.heap.size = w2.heap.size := by omega)); (try (have m2_1' : ¬ w2.heap.size = w1.heap.size := by omega))
  clear h2 kb B1
  go_wp2_with fail
  refine (ks _).mono ?_
  rintro e w3 ⟨rfl, h3⟩
  have B3 : Below w.heap.size w w3 := Below.trans (by go_grown) (h3.mono (by first | (simp; done) | omega | (simp; omega)))
  have y3 := B3.size
  have C0 := box2 h3 (w.heap.size + 1) (.int .i64 0) (.int .u64 0) (by first | assumption | (refine (Below.cell ?_ B1z).trans B1c0; go_grown; done) | (simp [go_sem, B1c0]; done) | (simp [go_sem, B1c0, B1z]; done) | (simp [go_sem, B0c0, B0c1, B0f0, B0f1, B0z, B1c0, B1c1, B1f0, B1f1, B1z]; done)) (by first | assumption | (refine (Below.cell ?_ B1z).trans B1c1; go_grown; done) | (simp [go_sem, B1c1]; done) | (simp [go_sem, B1c1, B1z]; done) | (simp [go_sem, B0c0, B0c1, B0f0, B0f1, B0z, B1c0, B1c1, B1f0, B1f1, B1z]; done)) (by first | assumption | (refine (Below.frozen ?_ B1z).trans B1f0; go_grown; done) | (simp [go_sem, B1f0]; done) | (simp [go_sem, B1f0, B1z]; done) | (simp [go_sem, B0c0, B0c1, B0f0, B0f1, B0z, B1c0, B1c1, B1f0, B1f1, B1z]; done)) (by first | assumption | (refine (Below.frozen ?_ B1z).trans B1f1; go_grown; done) | (simp [go_sem, B1f1]; done) | (simp [go_sem, B1f1, B1z]; done) | (simp [go_sem, B0c0, B0c1, B0f0, B0f1, B0z, B1c0, B1c1, B1f0, B1f1, B1z]; done)) (by first | assumption | omega | (simp; done) | (simp; omega))
  clear B0c0 B0c1 B0f0 B0f1 B0z B1c0 B1c1 B1f0 B1f1 B1z
  obtain ⟨C0c0, C0c1, C0f0, C0f1, C0z⟩ := C0
  (try (have m3_0 : ¬ w.heap.size = w3.heap.size := by omega)); (try (have m3_0' : ¬ w3.heap.size = w.heap.size := by omega))
  (try (have m3_1 : ¬ w1.heap.size = w3.heap.size := by omega)); (try (have m3_1' : ¬ w3.heap.size = w1.heap.size := by omega))
  (try (have m3_2 : ¬ w2.heap.size = w3.heap.size := by omega)); (try (have m3_2' : ¬ w3.heap.size = w2.heap.size := by omega))
  clear h3 ks B2
  go_wp2_with fail
  refine bodyPost_ret (by simp [results, Try.results14, go_sem, C0c0, C0c1, C0z]; try rfl) rfl ?_
  exact ⟨rfl, by go_grown⟩
set_option maxHeartbeats 4000000 in
theorem shares_walk (a b n v1 v0 f : Int)
    (k1 : ∀ w, Calls Try.prog 13 #[.agg #[.int .i64 a, .int .u64 b], .int .i64 n] w fun e w' => e = .returned (.tuple #[.agg #[.int .i64 v1, .int .u64 v0], .int .i64 f]) ∧ Below w.heap.size w w')
    (k2 : ∀ w, Calls Try.prog 14 #[.agg #[.int .i64 a, .int .u64 b], .int .i64 n] w fun e w' => e = .returned (.tuple #[.agg #[.int .i64 v1, .int .u64 v0], .int .i64 f]) ∧ Below w.heap.size w w')
    (k3 : ∀ w, Calls Try.prog 13 #[.agg #[.int .i64 0, .int .u64 7], .int .i64 2] w fun e w' => e = .returned (.tuple #[.agg #[.int .i64 0, .int .u64 3], .int .i64 0]) ∧ Below w.heap.size w w')
    (w : World) : Calls Try.prog 4 #[.agg #[.int .i64 a, .int .u64 b], .int .i64 n] w fun e w' => e = .returned (.bool true) ∧ Below w.heap.size w w' := by
  go_enter Try.func4, Try.ntmps4
  go_wp2_with fail
  refine (k1 _).mono ?_
  rintro e w1 ⟨rfl, h1⟩
  have B1 : Below w.heap.size w w1 := Below.trans (by go_grown) (h1.mono (by first | (simp; done) | omega | (simp; omega)))
  have y1 := B1.size
  have A0 := box2 h1 (w.heap.size) (.int .i64 a) (.int .u64 b) (by first | assumption | (simp [go_sem]; done) | (simp [go_sem]; done)) (by first | assumption | (simp [go_sem]; done) | (simp [go_sem]; done)) (by first | assumption | (simp [go_sem]; done) | (simp [go_sem]; done)) (by first | assumption | (simp [go_sem]; done) | (simp [go_sem]; done)) (by first | assumption | omega | (simp; done) | (simp; omega))
  obtain ⟨A0c0, A0c1, A0f0, A0f1, A0z⟩ := A0
  (try (have m1_0 : ¬ w.heap.size = w1.heap.size := by omega)); (try (have m1_0' : ¬ w1.heap.size = w.heap.size := by omega))
  clear h1 k1
  go_wp2_with fail
  refine (k2 _).mono ?_
  rintro e w2 ⟨rfl, h2⟩
  have B2 : Below w.heap.size w w2 := Below.trans (by go_grown) (h2.mono (by first | (simp; done) | omega | (simp; omega)))
  have y2 := B2.size
  have B0 := box2 h2 (w1.heap.size) (.int .i64 v1) (.int .u64 v0) (by first | assumption | (simp [go_sem]; done) | (simp [go_sem, A0c0, A0c1, A0f0, A0f1, A0z]; done)) (by first | assumption | (simp [go_sem]; done) | (simp [go_sem, A0c0, A0c1, A0f0, A0f1, A0z]; done)) (by first | assumption | (simp [go_sem]; done) | (simp [go_sem, A0c0, A0c1, A0f0, A0f1, A0z]; done)) (by first | assumption | (simp [go_sem]; done) | (simp [go_sem, A0c0, A0c1, A0f0, A0f1, A0z]; done)) (by first | assumption | omega | (simp; done) | (simp; omega))
  clear A0c0 A0c1 A0f0 A0f1 A0z
  obtain ⟨B0c0, B0c1, B0f0, B0f1, B0z⟩ := B0
  (try (have m2_0 : ¬ w.heap.size = w2.heap.size := by omega)); (try (have m2_0' : ¬ w2.heap.size = w.heap.size := by omega))
  (try (have m2_1 : ¬ w1.heap.size = w2.heap.size := by omega)); (try (have m2_1' : ¬ w2.heap.size = w1.heap.size := by omega))
  clear h2 k2 B1
  go_wp2_with fail
  refine (k3 _).mono ?_
  rintro e w3 ⟨rfl, h3⟩
  have B3 : Below w.heap.size w w3 := Below.trans (by go_grown) (h3.mono (by first | (simp; done) | omega | (simp; omega)))
  have y3 := B3.size
  have C0 := box2 h3 (w1.heap.size) (.int .i64 v1) (.int .u64 v0) (by first | assumption | (refine (Below.cell ?_ B0z).trans B0c0; go_grown; done) | (simp [go_sem, B0c0]; done) | (simp [go_sem, B0c0, B0z]; done) | (simp [go_sem, B0c0, B0c1, B0f0, B0f1, B0z]; done)) (by first | assumption | (refine (Below.cell ?_ B0z).trans B0c1; go_grown; done) | (simp [go_sem, B0c1]; done) | (simp [go_sem, B0c1, B0z]; done) | (simp [go_sem, B0c0, B0c1, B0f0, B0f1, B0z]; done)) (by first | assumption | (refine (Below.frozen ?_ B0z).trans B0f0; go_grown; done) | (simp [go_sem, B0f0]; done) | (simp [go_sem, B0f0, B0z]; done) | (simp [go_sem, B0c0, B0c1, B0f0, B0f1, B0z]; done)) (by first | assumption | (refine (Below.frozen ?_ B0z).trans B0f1; go_grown; done) | (simp [go_sem, B0f1]; done) | (simp [go_sem, B0f1, B0z]; done) | (simp [go_sem, B0c0, B0c1, B0f0, B0f1, B0z]; done)) (by first | assumption | omega | (simp; done) | (simp; omega))
  have C1 := box2 h3 (w2.heap.size) (.int .i64 v1) (.int .u64 v0) (by first | assumption | (simp [go_sem]; done) | (simp [go_sem, B0c0, B0c1, B0f0, B0f1, B0z]; done)) (by first | assumption | (simp [go_sem]; done) | (simp [go_sem, B0c0, B0c1, B0f0, B0f1, B0z]; done)) (by first | assumption | (simp [go_sem]; done) | (simp [go_sem, B0c0, B0c1, B0f0, B0f1, B0z]; done)) (by first | assumption | (simp [go_sem]; done) | (simp [go_sem, B0c0, B0c1, B0f0, B0f1, B0z]; done)) (by first | assumption | omega | (simp; done) | (simp; omega))
  clear B0c0 B0c1 B0f0 B0f1 B0z
  obtain ⟨C0c0, C0c1, C0f0, C0f1, C0z⟩ := C0
  obtain ⟨C1c0, C1c1, C1f0, C1f1, C1z⟩ := C1
  (try (have m3_0 : ¬ w.heap.size = w3.heap.size := by omega)); (try (have m3_0' : ¬ w3.heap.size = w.heap.size := by omega))
  (try (have m3_1 : ¬ w1.heap.size = w3.heap.size := by omega)); (try (have m3_1' : ¬ w3.heap.size = w1.heap.size := by omega))
  (try (have m3_2 : ¬ w2.heap.size = w3.heap.size := by omega)); (try (have m3_2' : ¬ w3.heap.size = w2.heap.size := by omega))
  clear h3 k3 B2
  go_wp2_with fail
  go_returns
  exact ⟨rfl, by go_grown⟩
theorem rsigned_mg (x : Int) (b : Bool) (x0 : 0 ≤ x) (x1 : x < 170141183460469231731687303715884105728) (w : World) :
    Calls Try.prog 33 #[mgV x, .bool b] w fun e w' => e = .returned (.tuple #[.agg #[.int .i64 (hi (sg b x)), .int .u64 (lo (sg b x))], .bool true]) ∧ Below w.heap.size w w' := by
  have e1 : mh x = hi x := by unfold mh u hi; omega
  have e3 : mo x = false := by unfold mo; exact decide_eq_false (by omega)
  have h1 : mh x < 9223372036854775808 := by rw [e1]; unfold hi; omega
  have hz : (mh x == 9223372036854775808) = false := by simp; omega
  show Calls Try.prog _ #[magV (mh x) (ml x) (mo x), .bool b] w _
  rw [e3]
  cases b
  · have k := rsigned_pos (mh x) (ml x) h1 (by omega) hz (by rw [IntKind.wrap_i64]; have := (isLo_mh x).a; omega) w
    rw [e1] at k
    rw [e1]
    exact k
  · have xm := xor_u64 (mh x) (isLo_mh x)
    have xl := xor_u64 (ml x) (isLo_ml x)
    have im := isLo_mh x
    have il := isLo_ml x
    obtain ⟨m0, m1⟩ := im
    obtain ⟨l0, l1⟩ := il
    obtain ⟨p, hp⟩ : ∃ p, p = -mh x - 1 + 18446744073709551616 := ⟨_, rfl⟩
    obtain ⟨q, hq⟩ : ∃ p, p = -ml x - 1 + 18446744073709551616 := ⟨_, rfl⟩
    rw [← hp] at xm
    rw [← hq] at xl
    have kp := plus_spec p q 0 1 false false ⟨by omega, by omega⟩ ⟨by omega, by omega⟩ isLo_0 ⟨by omega, by omega⟩
    have vx : V (mh x) (ml x) = x := (V_mag x0 (by omega)).1
    have s1 : IntKind.i64.wrap (u (hi (V p q + V 0 1))) = hi (sg true x) := by
      rw [IntKind.wrap_i64]
      show _ = hi (-x)
      rw [← vx]
      unfold u hi V; omega
    have s0 : lo (V p q + V 0 1) = lo (sg true x) := by
      show _ = lo (-x)
      rw [← vx]
      unfold lo V; omega
    have k := rsigned_neg (mh x) (ml x) p q _ _ _ _ (by omega) hz xm xl s1 kp w
    rw [s0] at k
    exact k
theorem rshare_spec (a b n : Int) (i : IsW (a, b)) (j : IsHi n) (w : World) :
    Calls Try.prog 14 #[.agg #[.int .i64 a, .int .u64 b], .int .i64 n] w
      fun y w' => y = .returned (.tuple #[.agg #[.int .i64 (hi (shareV (V a b) n)), .int .u64 (lo (shareV (V a b) n))], .int .i64 (shareE n)]) ∧ Below w.heap.size w w' := by
  have ka := ramount_mg a b i
  have f : Fits (V a b) := fits_V i.a i.b
  have le := ab_le f
  obtain ⟨_, j1⟩ := j
  unfold shareV shareE
  by_cases h : n < 1
  · rw [if_pos h, if_pos h]
    exact rshare_low a b n h w
  · rw [if_neg h, if_neg h]
    have kb := by_mg (ab (V a b)) n le.1 (by omega) (by omega) j1
    by_cases o : n = 1
    · subst o
      rw [Int.tdiv_one, hi_V i.b, lo_V i.b]
      exact rshare_one a b _ _ _ _ ka kb w
    · have q0 : 0 ≤ ab (V a b) / n := Int.ediv_nonneg le.1 (by omega)
      have q1 : ab (V a b) / n < 85070591730234615865843651857942052865 := Int.ediv_lt_of_lt_mul (by omega) (by omega)
      have ks := rsigned_mg (ab (V a b) / n) (decide (V a b < 0)) q0 (by omega)
      have e : sg (decide (V a b < 0)) (ab (V a b) / n) = Int.tdiv (V a b) n := by
        have en : ab n = n := by unfold ab; rw [if_neg (by omega)]
        rw [tdiv_sg, en, decide_eq_false (show ¬ n < 0 by omega), Bool.bne_false]
      rw [e] at ks
      exact rshare_more a b n _ _ _ _ _ _ _ h (by simpa using o) (by rw [IntKind.wrap_u64]; omega) ka kb ks w
theorem law_MicroShares (a0 b0 a1 : Int) (wa0 : (Lit.int .i64 a0).wf = true) (wb0 : (Lit.int .u64 b0).wf = true) (w1 : (Lit.int .i64 a1).wf = true) (w : World) :
    Calls Try.prog 4 #[.agg #[.int .i64 a0, .int .u64 b0], .int .i64 a1] w fun e w' => e = .returned (.bool true) ∧ Below w.heap.size w w' := by
  have i : IsW (a0, b0) := ⟨hi_of_wf wa0, lo_of_wf wb0⟩
  have j := hi_of_wf w1
  have k3 := share_spec 0 7 2 ⟨isHi_0, ⟨by omega, by omega⟩⟩ ⟨by omega, by omega⟩
  rw [show hi (shareV (V 0 7) 2) = 0 by decide, show lo (shareV (V 0 7) 2) = 3 by decide, show shareE 2 = 0 by decide] at k3
  exact shares_walk a0 b0 a1 _ _ _ (share_spec a0 b0 a1 i j) (rshare_spec a0 b0 a1 i j) k3 w
end Go.Proofs.Ytedpbdcbbfofoaa
