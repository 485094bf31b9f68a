/- MicroRest: the walks. (gen_mrest.py) -/
import Derived.Test.YtedpbdcbbfofoaaMshareb
namespace Go.Proofs.Ytedpbdcbbfofoaa
set_option linter.unusedVariables false
open Go.RowKit W
set_option maxHeartbeats 4000000 in
theorem rest_low (a b n : Int) (h : n < 1)
    (k1 : ∀ w, Calls Try.prog 13 #[.agg #[.int .i64 a, .int .u64 b], .int .i64 n] w fun e w' => e = .returned (.tuple #[.agg #[.int .i64 0, .int .u64 0], .int .i64 1]) ∧ Below w.heap.size w w')
    (w : World) : Calls Try.prog 8 #[.agg #[.int .i64 a, .int .u64 b], .int .i64 n] w fun e w' => e = .returned (.bool true) ∧ Below w.heap.size w w' := by
  go_enter Try.func8, Try.ntmps8
  go_wp2_with fail
  refine (k1 _).mono ?_
  rintro e w1 ⟨rfl, h1⟩
  have B1 : Below w.heap.size w w1 := Below.trans (by go_grown) (h1.mono (by first | (simp; done) | omega | (simp; omega)))
  have y1 := B1.size
  clear h1 k1
  go_wp2_with fail
  go_returns
  exact ⟨rfl, by go_grown⟩
set_option maxHeartbeats 4000000 in
theorem rest_zero_i (a b n q1 q0 H Lo l d : Int) (below minus : Bool) (n1 : ¬ n < 1) (en : IntKind.u64.wrap n = n) (c1 : ¬ Lo < l) (c2 : IntKind.u64.wrap (Lo - l) = d) (c3 : d < n) (c4 : IntKind.u64.wrap (H - H) = 0)
    (k1 : ∀ w, Calls Try.prog 13 #[.agg #[.int .i64 a, .int .u64 b], .int .i64 n] w fun e w' => e = .returned (.tuple #[.agg #[.int .i64 q1, .int .u64 q0], .int .i64 0]) ∧ Below w.heap.size w w')
    (k2 : ∀ w, Calls Try.prog 19 #[.agg #[.int .i64 a, .int .u64 b]] w fun e w' => e = .returned (.tuple #[magV H Lo false, .bool below]) ∧ Below w.heap.size w w')
    (k3 : ∀ w, Calls Try.prog 19 #[.agg #[.int .i64 q1, .int .u64 q0]] w fun e w' => e = .returned (.tuple #[magV 0 0 false, .bool minus]) ∧ Below w.heap.size w w')
    (k4 : ∀ w, Calls Try.prog 20 #[magV 0 0 false, .int .u64 n] w fun e w' => e = .returned (magV H l false) ∧ Below w.heap.size w w')
    (w : World) : Calls Try.prog 8 #[.agg #[.int .i64 a, .int .u64 b], .int .i64 n] w fun e w' => e = .returned (.bool true) ∧ Below w.heap.size w w' := by
  go_enter Try.func8, Try.ntmps8
  go_wp2_with fail
  refine (k1 _).mono ?_
  rintro e w1 ⟨rfl, h1⟩
  have B1 : Below w.heap.size w w1 := Below.trans (by go_grown) (h1.mono (by first | (simp; done) | omega | (simp; omega)))
  have y1 := B1.size
  have A0 := box2 h1 (w.heap.size) (.int .i64 a) (.int .u64 b) (by first | assumption | (simp [go_sem]; done) | (simp [go_sem]; done)) (by first | assumption | (simp [go_sem]; done) | (simp [go_sem]; done)) (by first | assumption | (simp [go_sem]; done) | (simp [go_sem]; done)) (by first | assumption | (simp [go_sem]; done) | (simp [go_sem]; done)) (by first | assumption | omega | (simp; done) | (simp; omega))
  obtain ⟨A0c0, A0c1, A0f0, A0f1, A0z⟩ := A0
  (try (have m1_0 : ¬ w.heap.size = w1.heap.size := by omega)); (try (have m1_0' : ¬ w1.heap.size = w.heap.size := by omega))
  clear h1 k1
  go_wp2_with fail
  refine (k2 _).mono ?_
  rintro e w2 ⟨rfl, h2⟩
  have B2 : Below w.heap.size w w2 := Below.trans (by go_grown) (h2.mono (by first | (simp; done) | omega | (simp; omega)))
  have y2 := B2.size
  have B0 := box2 h2 (w1.heap.size) (.int .i64 q1) (.int .u64 q0) (by first | assumption | (simp [go_sem]; done) | (simp [go_sem, A0c0, A0c1, A0f0, A0f1, A0z]; done)) (by first | assumption | (simp [go_sem]; done) | (simp [go_sem, A0c0, A0c1, A0f0, A0f1, A0z]; done)) (by first | assumption | (simp [go_sem]; done) | (simp [go_sem, A0c0, A0c1, A0f0, A0f1, A0z]; done)) (by first | assumption | (simp [go_sem]; done) | (simp [go_sem, A0c0, A0c1, A0f0, A0f1, A0z]; done)) (by first | assumption | omega | (simp; done) | (simp; omega))
  clear A0c0 A0c1 A0f0 A0f1 A0z
  obtain ⟨B0c0, B0c1, B0f0, B0f1, B0z⟩ := B0
  (try (have m2_0 : ¬ w.heap.size = w2.heap.size := by omega)); (try (have m2_0' : ¬ w2.heap.size = w.heap.size := by omega))
  (try (have m2_1 : ¬ w1.heap.size = w2.heap.size := by omega)); (try (have m2_1' : ¬ w2.heap.size = w1.heap.size := by omega))
  clear h2 k2 B1
  go_wp2_with fail
  refine (k3 _).mono ?_
  rintro e w3 ⟨rfl, h3⟩
  have B3 : Below w.heap.size w w3 := Below.trans (by go_grown) (h3.mono (by first | (simp; done) | omega | (simp; omega)))
  have y3 := B3.size
  have C0 := box3 h3 (w2.heap.size) (.int .u64 H) (.int .u64 Lo) (.bool false) (by first | assumption | (simp [go_sem]; done) | (simp [go_sem, B0c0, B0c1, B0f0, B0f1, B0z]; done)) (by first | assumption | (simp [go_sem]; done) | (simp [go_sem, B0c0, B0c1, B0f0, B0f1, B0z]; done)) (by first | assumption | (simp [go_sem]; done) | (simp [go_sem, B0c0, B0c1, B0f0, B0f1, B0z]; done)) (by first | assumption | (simp [go_sem]; done) | (simp [go_sem, B0c0, B0c1, B0f0, B0f1, B0z]; done)) (by first | assumption | (simp [go_sem]; done) | (simp [go_sem, B0c0, B0c1, B0f0, B0f1, B0z]; done)) (by first | assumption | (simp [go_sem]; done) | (simp [go_sem, B0c0, B0c1, B0f0, B0f1, B0z]; done)) (by first | assumption | omega | (simp; done) | (simp; omega))
  clear B0c0 B0c1 B0f0 B0f1 B0z
  obtain ⟨C0c0, C0c1, C0c2, C0f0, C0f1, C0f2, C0z⟩ := C0
  (try (have m3_0 : ¬ w.heap.size = w3.heap.size := by omega)); (try (have m3_0' : ¬ w3.heap.size = w.heap.size := by omega))
  (try (have m3_1 : ¬ w1.heap.size = w3.heap.size := by omega)); (try (have m3_1' : ¬ w3.heap.size = w1.heap.size := by omega))
  (try (have m3_2 : ¬ w2.heap.size = w3.heap.size := by omega)); (try (have m3_2' : ¬ w3.heap.size = w2.heap.size := by omega))
  clear h3 k3 B2
  go_wp2_with fail
  refine (k4 _).mono ?_
  rintro e w4 ⟨rfl, h4⟩
  have B4 : Below w.heap.size w w4 := Below.trans (by go_grown) (h4.mono (by first | (simp; done) | omega | (simp; omega)))
  have y4 := B4.size
  have D0 := box3 h4 (w2.heap.size) (.int .u64 H) (.int .u64 Lo) (.bool false) (by first | assumption | (refine (Below.cell ?_ C0z).trans C0c0; go_grown; done) | (simp [go_sem, C0c0]; done) | (simp [go_sem, C0c0, C0z]; done) | (simp [go_sem, C0c0, C0c1, C0c2, C0f0, C0f1, C0f2, C0z]; done)) (by first | assumption | (refine (Below.cell ?_ C0z).trans C0c1; go_grown; done) | (simp [go_sem, C0c1]; done) | (simp [go_sem, C0c1, C0z]; done) | (simp [go_sem, C0c0, C0c1, C0c2, C0f0, C0f1, C0f2, C0z]; done)) (by first | assumption | (refine (Below.cell ?_ C0z).trans C0c2; go_grown; done) | (simp [go_sem, C0c2]; done) | (simp [go_sem, C0c2, C0z]; done) | (simp [go_sem, C0c0, C0c1, C0c2, C0f0, C0f1, C0f2, C0z]; done)) (by first | assumption | (refine (Below.frozen ?_ C0z).trans C0f0; go_grown; done) | (simp [go_sem, C0f0]; done) | (simp [go_sem, C0f0, C0z]; done) | (simp [go_sem, C0c0, C0c1, C0c2, C0f0, C0f1, C0f2, C0z]; done)) (by first | assumption | (refine (Below.frozen ?_ C0z).trans C0f1; go_grown; done) | (simp [go_sem, C0f1]; done) | (simp [go_sem, C0f1, C0z]; done) | (simp [go_sem, C0c0, C0c1, C0c2, C0f0, C0f1, C0f2, C0z]; done)) (by first | assumption | (refine (Below.frozen ?_ C0z).trans C0f2; go_grown; done) | (simp [go_sem, C0f2]; done) | (simp [go_sem, C0f2, C0z]; done) | (simp [go_sem, C0c0, C0c1, C0c2, C0f0, C0f1, C0f2, C0z]; done)) (by first | assumption | omega | (simp; done) | (simp; omega))
  have D1 := box3 h4 (w3.heap.size) (.int .u64 0) (.int .u64 0) (.bool false) (by first | assumption | (simp [go_sem]; done) | (simp [go_sem, C0c0, C0c1, C0c2, C0f0, C0f1, C0f2, C0z]; done)) (by first | assumption | (simp [go_sem]; done) | (simp [go_sem, C0c0, C0c1, C0c2, C0f0, C0f1, C0f2, C0z]; done)) (by first | assumption | (simp [go_sem]; done) | (simp [go_sem, C0c0, C0c1, C0c2, C0f0, C0f1, C0f2, C0z]; done)) (by first | assumption | (simp [go_sem]; done) | (simp [go_sem, C0c0, C0c1, C0c2, C0f0, C0f1, C0f2, C0z]; done)) (by first | assumption | (simp [go_sem]; done) | (simp [go_sem, C0c0, C0c1, C0c2, C0f0, C0f1, C0f2, C0z]; done)) (by first | assumption | (simp [go_sem]; done) | (simp [go_sem, C0c0, C0c1, C0c2, C0f0, C0f1, C0f2, C0z]; done)) (by first | assumption | omega | (simp; done) | (simp; omega))
  clear C0c0 C0c1 C0c2 C0f0 C0f1 C0f2 C0z
  obtain ⟨D0c0, D0c1, D0c2, D0f0, D0f1, D0f2, D0z⟩ := D0
  obtain ⟨D1c0, D1c1, D1c2, D1f0, D1f1, D1f2, D1z⟩ := D1
  (try (have m4_0 : ¬ w.heap.size = w4.heap.size := by omega)); (try (have m4_0' : ¬ w4.heap.size = w.heap.size := by omega))
  (try (have m4_1 : ¬ w1.heap.size = w4.heap.size := by omega)); (try (have m4_1' : ¬ w4.heap.size = w1.heap.size := by omega))
  (try (have m4_2 : ¬ w2.heap.size = w4.heap.size := by omega)); (try (have m4_2' : ¬ w4.heap.size = w2.heap.size := by omega))
  (try (have m4_3 : ¬ w3.heap.size = w4.heap.size := by omega)); (try (have m4_3' : ¬ w4.heap.size = w3.heap.size := by omega))
  clear h4 k4 B3
  go_wp2_with fail
  go_returns
  exact ⟨rfl, by go_grown⟩
set_option maxHeartbeats 4000000 in
theorem rest_high_i (a b n q1 q0 H Lo l d ph pl : Int) (below : Bool) (n1 : ¬ n < 1) (en : IntKind.u64.wrap n = n) (p0 : 0 < ph) (c1 : ¬ Lo < l) (c2 : IntKind.u64.wrap (Lo - l) = d) (c3 : d < n) (c4 : IntKind.u64.wrap (H - H) = 0)
    (k1 : ∀ w, Calls Try.prog 13 #[.agg #[.int .i64 a, .int .u64 b], .int .i64 n] w fun e w' => e = .returned (.tuple #[.agg #[.int .i64 q1, .int .u64 q0], .int .i64 0]) ∧ Below w.heap.size w w')
    (k2 : ∀ w, Calls Try.prog 19 #[.agg #[.int .i64 a, .int .u64 b]] w fun e w' => e = .returned (.tuple #[magV H Lo false, .bool below]) ∧ Below w.heap.size w w')
    (k3 : ∀ w, Calls Try.prog 19 #[.agg #[.int .i64 q1, .int .u64 q0]] w fun e w' => e = .returned (.tuple #[magV ph pl false, .bool below]) ∧ Below w.heap.size w w')
    (k4 : ∀ w, Calls Try.prog 20 #[magV ph pl false, .int .u64 n] w fun e w' => e = .returned (magV H l false) ∧ Below w.heap.size w w')
    (w : World) : Calls Try.prog 8 #[.agg #[.int .i64 a, .int .u64 b], .int .i64 n] w fun e w' => e = .returned (.bool true) ∧ Below w.heap.size w w' := by
  go_enter Try.func8, Try.ntmps8
  go_wp2_with fail
  refine (k1 _).mono ?_
  rintro e w1 ⟨rfl, h1⟩
  have B1 : Below w.heap.size w w1 := Below.trans (by go_grown) (h1.mono (by first | (simp; done) | omega | (simp; omega)))
  have y1 := B1.size
  have A0 := box2 h1 (w.heap.size) (.int .i64 a) (.int .u64 b) (by first | assumption | (simp [go_sem]; done) | (simp [go_sem]; done)) (by first | assumption | (simp [go_sem]; done) | (simp [go_sem]; done)) (by first | assumption | (simp [go_sem]; done) | (simp [go_sem]; done)) (by first | assumption | (simp [go_sem]; done) | (simp [go_sem]; done)) (by first | assumption | omega | (simp; done) | (simp; omega))
  obtain ⟨A0c0, A0c1, A0f0, A0f1, A0z⟩ := A0
  (try (have m1_0 : ¬ w.heap.size = w1.heap.size := by omega)); (try (have m1_0' : ¬ w1.heap.size = w.heap.size := by omega))
  clear h1 k1
  go_wp2_with fail
  refine (k2 _).mono ?_
  rintro e w2 ⟨rfl, h2⟩
  have B2 : Below w.heap.size w w2 := Below.trans (by go_grown) (h2.mono (by first | (simp; done) | omega | (simp; omega)))
  have y2 := B2.size
  have B0 := box2 h2 (w1.heap.size) (.int .i64 q1) (.int .u64 q0) (by first | assumption | (simp [go_sem]; done) | (simp [go_sem, A0c0, A0c1, A0f0, A0f1, A0z]; done)) (by first | assumption | (simp [go_sem]; done) | (simp [go_sem, A0c0, A0c1, A0f0, A0f1, A0z]; done)) (by first | assumption | (simp [go_sem]; done) | (simp [go_sem, A0c0, A0c1, A0f0, A0f1, A0z]; done)) (by first | assumption | (simp [go_sem]; done) | (simp [go_sem, A0c0, A0c1, A0f0, A0f1, A0z]; done)) (by first | assumption | omega | (simp; done) | (simp; omega))
  clear A0c0 A0c1 A0f0 A0f1 A0z
  obtain ⟨B0c0, B0c1, B0f0, B0f1, B0z⟩ := B0
  (try (have m2_0 : ¬ w.heap.size = w2.heap.size := by omega)); (try (have m2_0' : ¬ w2.heap.size = w.heap.size := by omega))
  (try (have m2_1 : ¬ w1.heap.size = w2.heap.size := by omega)); (try (have m2_1' : ¬ w2.heap.size = w1.heap.size := by omega))
  clear h2 k2 B1
  go_wp2_with fail
  refine (k3 _).mono ?_
  rintro e w3 ⟨rfl, h3⟩
  have B3 : Below w.heap.size w w3 := Below.trans (by go_grown) (h3.mono (by first | (simp; done) | omega | (simp; omega)))
  have y3 := B3.size
  have C0 := box3 h3 (w2.heap.size) (.int .u64 H) (.int .u64 Lo) (.bool false) (by first | assumption | (simp [go_sem]; done) | (simp [go_sem, B0c0, B0c1, B0f0, B0f1, B0z]; done)) (by first | assumption | (simp [go_sem]; done) | (simp [go_sem, B0c0, B0c1, B0f0, B0f1, B0z]; done)) (by first | assumption | (simp [go_sem]; done) | (simp [go_sem, B0c0, B0c1, B0f0, B0f1, B0z]; done)) (by first | assumption | (simp [go_sem]; done) | (simp [go_sem, B0c0, B0c1, B0f0, B0f1, B0z]; done)) (by first | assumption | (simp [go_sem]; done) | (simp [go_sem, B0c0, B0c1, B0f0, B0f1, B0z]; done)) (by first | assumption | (simp [go_sem]; done) | (simp [go_sem, B0c0, B0c1, B0f0, B0f1, B0z]; done)) (by first | assumption | omega | (simp; done) | (simp; omega))
  clear B0c0 B0c1 B0f0 B0f1 B0z
  obtain ⟨C0c0, C0c1, C0c2, C0f0, C0f1, C0f2, C0z⟩ := C0
  (try (have m3_0 : ¬ w.heap.size = w3.heap.size := by omega)); (try (have m3_0' : ¬ w3.heap.size = w.heap.size := by omega))
  (try (have m3_1 : ¬ w1.heap.size = w3.heap.size := by omega)); (try (have m3_1' : ¬ w3.heap.size = w1.heap.size := by omega))
  (try (have m3_2 : ¬ w2.heap.size = w3.heap.size := by omega)); (try (have m3_2' : ¬ w3.heap.size = w2.heap.size := by omega))
  clear h3 k3 B2
  go_wp2_with fail
  refine (k4 _).mono ?_
  rintro e w4 ⟨rfl, h4⟩
  have B4 : Below w.heap.size w w4 := Below.trans (by go_grown) (h4.mono (by first | (simp; done) | omega | (simp; omega)))
  have y4 := B4.size
  have D0 := box3 h4 (w2.heap.size) (.int .u64 H) (.int .u64 Lo) (.bool false) (by first | assumption | (refine (Below.cell ?_ C0z).trans C0c0; go_grown; done) | (simp [go_sem, C0c0]; done) | (simp [go_sem, C0c0, C0z]; done) | (simp [go_sem, C0c0, C0c1, C0c2, C0f0, C0f1, C0f2, C0z]; done)) (by first | assumption | (refine (Below.cell ?_ C0z).trans C0c1; go_grown; done) | (simp [go_sem, C0c1]; done) | (simp [go_sem, C0c1, C0z]; done) | (simp [go_sem, C0c0, C0c1, C0c2, C0f0, C0f1, C0f2, C0z]; done)) (by first | assumption | (refine (Below.cell ?_ C0z).trans C0c2; go_grown; done) | (simp [go_sem, C0c2]; done) | (simp [go_sem, C0c2, C0z]; done) | (simp [go_sem, C0c0, C0c1, C0c2, C0f0, C0f1, C0f2, C0z]; done)) (by first | assumption | (refine (Below.frozen ?_ C0z).trans C0f0; go_grown; done) | (simp [go_sem, C0f0]; done) | (simp [go_sem, C0f0, C0z]; done) | (simp [go_sem, C0c0, C0c1, C0c2, C0f0, C0f1, C0f2, C0z]; done)) (by first | assumption | (refine (Below.frozen ?_ C0z).trans C0f1; go_grown; done) | (simp [go_sem, C0f1]; done) | (simp [go_sem, C0f1, C0z]; done) | (simp [go_sem, C0c0, C0c1, C0c2, C0f0, C0f1, C0f2, C0z]; done)) (by first | assumption | (refine (Below.frozen ?_ C0z).trans C0f2; go_grown; done) | (simp [go_sem, C0f2]; done) | (simp [go_sem, C0f2, C0z]; done) | (simp [go_sem, C0c0, C0c1, C0c2, C0f0, C0f1, C0f2, C0z]; done)) (by first | assumption | omega | (simp; done) | (simp; omega))
  have D1 := box3 h4 (w3.heap.size) (.int .u64 ph) (.int .u64 pl) (.bool false) (by first | assumption | (simp [go_sem]; done) | (simp [go_sem, C0c0, C0c1, C0c2, C0f0, C0f1, C0f2, C0z]; done)) (by first | assumption | (simp [go_sem]; done) | (simp [go_sem, C0c0, C0c1, C0c2, C0f0, C0f1, C0f2, C0z]; done)) (by first | assumption | (simp [go_sem]; done) | (simp [go_sem, C0c0, C0c1, C0c2, C0f0, C0f1, C0f2, C0z]; done)) (by first | assumption | (simp [go_sem]; done) | (simp [go_sem, C0c0, C0c1, C0c2, C0f0, C0f1, C0f2, C0z]; done)) (by first | assumption | (simp [go_sem]; done) | (simp [go_sem, C0c0, C0c1, C0c2, C0f0, C0f1, C0f2, C0z]; done)) (by first | assumption | (simp [go_sem]; done) | (simp [go_sem, C0c0, C0c1, C0c2, C0f0, C0f1, C0f2, C0z]; done)) (by first | assumption | omega | (simp; done) | (simp; omega))
  clear C0c0 C0c1 C0c2 C0f0 C0f1 C0f2 C0z
  obtain ⟨D0c0, D0c1, D0c2, D0f0, D0f1, D0f2, D0z⟩ := D0
  obtain ⟨D1c0, D1c1, D1c2, D1f0, D1f1, D1f2, D1z⟩ := D1
  (try (have m4_0 : ¬ w.heap.size = w4.heap.size := by omega)); (try (have m4_0' : ¬ w4.heap.size = w.heap.size := by omega))
  (try (have m4_1 : ¬ w1.heap.size = w4.heap.size := by omega)); (try (have m4_1' : ¬ w4.heap.size = w1.heap.size := by omega))
  (try (have m4_2 : ¬ w2.heap.size = w4.heap.size := by omega)); (try (have m4_2' : ¬ w4.heap.size = w2.heap.size := by omega))
  (try (have m4_3 : ¬ w3.heap.size = w4.heap.size := by omega)); (try (have m4_3' : ¬ w4.heap.size = w3.heap.size := by omega))
  clear h4 k4 B3
  go_wp2_with fail
  go_returns
  exact ⟨rfl, by go_grown⟩
set_option maxHeartbeats 4000000 in
theorem rest_lows_i (a b n q1 q0 H Lo l d ph pl : Int) (below : Bool) (n1 : ¬ n < 1) (en : IntKind.u64.wrap n = n) (p0 : ¬ 0 < ph) (p1 : 0 < pl) (c1 : ¬ Lo < l) (c2 : IntKind.u64.wrap (Lo - l) = d) (c3 : d < n) (c4 : IntKind.u64.wrap (H - H) = 0)
    (k1 : ∀ w, Calls Try.prog 13 #[.agg #[.int .i64 a, .int .u64 b], .int .i64 n] w fun e w' => e = .returned (.tuple #[.agg #[.int .i64 q1, .int .u64 q0], .int .i64 0]) ∧ Below w.heap.size w w')
    (k2 : ∀ w, Calls Try.prog 19 #[.agg #[.int .i64 a, .int .u64 b]] w fun e w' => e = .returned (.tuple #[magV H Lo false, .bool below]) ∧ Below w.heap.size w w')
    (k3 : ∀ w, Calls Try.prog 19 #[.agg #[.int .i64 q1, .int .u64 q0]] w fun e w' => e = .returned (.tuple #[magV ph pl false, .bool below]) ∧ Below w.heap.size w w')
    (k4 : ∀ w, Calls Try.prog 20 #[magV ph pl false, .int .u64 n] w fun e w' => e = .returned (magV H l false) ∧ Below w.heap.size w w')
    (w : World) : Calls Try.prog 8 #[.agg #[.int .i64 a, .int .u64 b], .int .i64 n] w fun e w' => e = .returned (.bool true) ∧ Below w.heap.size w w' := by
  go_enter Try.func8, Try.ntmps8
  go_wp2_with fail
  refine (k1 _).mono ?_
  rintro e w1 ⟨rfl, h1⟩
  have B1 : Below w.heap.size w w1 := Below.trans (by go_grown) (h1.mono (by first | (simp; done) | omega | (simp; omega)))
  have y1 := B1.size
  have A0 := box2 h1 (w.heap.size) (.int .i64 a) (.int .u64 b) (by first | assumption | (simp [go_sem]; done) | (simp [go_sem]; done)) (by first | assumption | (simp [go_sem]; done) | (simp [go_sem]; done)) (by first | assumption | (simp [go_sem]; done) | (simp [go_sem]; done)) (by first | assumption | (simp [go_sem]; done) | (simp [go_sem]; done)) (by first | assumption | omega | (simp; done) | (simp; omega))
  obtain ⟨A0c0, A0c1, A0f0, A0f1, A0z⟩ := A0
  (try (have m1_0 : ¬ w.heap.size = w1.heap.size := by omega)); (try (have m1_0' : ¬ w1.heap.size = w.heap.size := by omega))
  clear h1 k1
  go_wp2_with fail
  refine (k2 _).mono ?_
  rintro e w2 ⟨rfl, h2⟩
  have B2 : Below w.heap.size w w2 := Below.trans (by go_grown) (h2.mono (by first | (simp; done) | omega | (simp; omega)))
  have y2 := B2.size
  have B0 := box2 h2 (w1.heap.size) (.int .i64 q1) (.int .u64 q0) (by first | assumption | (simp [go_sem]; done) | (simp [go_sem, A0c0, A0c1, A0f0, A0f1, A0z]; done)) (by first | assumption | (simp [go_sem]; done) | (simp [go_sem, A0c0, A0c1, A0f0, A0f1, A0z]; done)) (by first | assumption | (simp [go_sem]; done) | (simp [go_sem, A0c0, A0c1, A0f0, A0f1, A0z]; done)) (by first | assumption | (simp [go_sem]; done) | (simp [go_sem, A0c0, A0c1, A0f0, A0f1, A0z]; done)) (by first | assumption | omega | (simp; done) | (simp; omega))
  clear A0c0 A0c1 A0f0 A0f1 A0z
  obtain ⟨B0c0, B0c1, B0f0, B0f1, B0z⟩ := B0
  (try (have m2_0 : ¬ w.heap.size = w2.heap.size := by omega)); (try (have m2_0' : ¬ w2.heap.size = w.heap.size := by omega))
  (try (have m2_1 : ¬ w1.heap.size = w2.heap.size := by omega)); (try (have m2_1' : ¬ w2.heap.size = w1.heap.size := by omega))
  clear h2 k2 B1
  go_wp2_with fail
  refine (k3 _).mono ?_
  rintro e w3 ⟨rfl, h3⟩
  have B3 : Below w.heap.size w w3 := Below.trans (by go_grown) (h3.mono (by first | (simp; done) | omega | (simp; omega)))
  have y3 := B3.size
  have C0 := box3 h3 (w2.heap.size) (.int .u64 H) (.int .u64 Lo) (.bool false) (by first | assumption | (simp [go_sem]; done) | (simp [go_sem, B0c0, B0c1, B0f0, B0f1, B0z]; done)) (by first | assumption | (simp [go_sem]; done) | (simp [go_sem, B0c0, B0c1, B0f0, B0f1, B0z]; done)) (by first | assumption | (simp [go_sem]; done) | (simp [go_sem, B0c0, B0c1, B0f0, B0f1, B0z]; done)) (by first | assumption | (simp [go_sem]; done) | (simp [go_sem, B0c0, B0c1, B0f0, B0f1, B0z]; done)) (by first | assumption | (simp [go_sem]; done) | (simp [go_sem, B0c0, B0c1, B0f0, B0f1, B0z]; done)) (by first | assumption | (simp [go_sem]; done) | (simp [go_sem, B0c0, B0c1, B0f0, B0f1, B0z]; done)) (by first | assumption | omega | (simp; done) | (simp; omega))
  clear B0c0 B0c1 B0f0 B0f1 B0z
  obtain ⟨C0c0, C0c1, C0c2, C0f0, C0f1, C0f2, C0z⟩ := C0
  (try (have m3_0 : ¬ w.heap.size = w3.heap.size := by omega)); (try (have m3_0' : ¬ w3.heap.size = w.heap.size := by omega))
  (try (have m3_1 : ¬ w1.heap.size = w3.heap.size := by omega)); (try (have m3_1' : ¬ w3.heap.size = w1.heap.size := by omega))
  (try (have m3_2 : ¬ w2.heap.size = w3.heap.size := by omega)); (try (have m3_2' : ¬ w3.heap.size = w2.heap.size := by omega))
  clear h3 k3 B2
  go_wp2_with fail
  refine (k4 _).mono ?_
  rintro e w4 ⟨rfl, h4⟩
  have B4 : Below w.heap.size w w4 := Below.trans (by go_grown) (h4.mono (by first | (simp; done) | omega | (simp; omega)))
  have y4 := B4.size
  have D0 := box3 h4 (w2.heap.size) (.int .u64 H) (.int .u64 Lo) (.bool false) (by first | assumption | (refine (Below.cell ?_ C0z).trans C0c0; go_grown; done) | (simp [go_sem, C0c0]; done) | (simp [go_sem, C0c0, C0z]; done) | (simp [go_sem, C0c0, C0c1, C0c2, C0f0, C0f1, C0f2, C0z]; done)) (by first | assumption | (refine (Below.cell ?_ C0z).trans C0c1; go_grown; done) | (simp [go_sem, C0c1]; done) | (simp [go_sem, C0c1, C0z]; done) | (simp [go_sem, C0c0, C0c1, C0c2, C0f0, C0f1, C0f2, C0z]; done)) (by first | assumption | (refine (Below.cell ?_ C0z).trans C0c2; go_grown; done) | (simp [go_sem, C0c2]; done) | (simp [go_sem, C0c2, C0z]; done) | (simp [go_sem, C0c0, C0c1, C0c2, C0f0, C0f1, C0f2, C0z]; done)) (by first | assumption | (refine (Below.frozen ?_ C0z).trans C0f0; go_grown; done) | (simp [go_sem, C0f0]; done) | (simp [go_sem, C0f0, C0z]; done) | (simp [go_sem, C0c0, C0c1, C0c2, C0f0, C0f1, C0f2, C0z]; done)) (by first | assumption | (refine (Below.frozen ?_ C0z).trans C0f1; go_grown; done) | (simp [go_sem, C0f1]; done) | (simp [go_sem, C0f1, C0z]; done) | (simp [go_sem, C0c0, C0c1, C0c2, C0f0, C0f1, C0f2, C0z]; done)) (by first | assumption | (refine (Below.frozen ?_ C0z).trans C0f2; go_grown; done) | (simp [go_sem, C0f2]; done) | (simp [go_sem, C0f2, C0z]; done) | (simp [go_sem, C0c0, C0c1, C0c2, C0f0, C0f1, C0f2, C0z]; done)) (by first | assumption | omega | (simp; done) | (simp; omega))
  have D1 := box3 h4 (w3.heap.size) (.int .u64 ph) (.int .u64 pl) (.bool false) (by first | assumption | (simp [go_sem]; done) | (simp [go_sem, C0c0, C0c1, C0c2, C0f0, C0f1, C0f2, C0z]; done)) (by first | assumption | (simp [go_sem]; done) | (simp [go_sem, C0c0, C0c1, C0c2, C0f0, C0f1, C0f2, C0z]; done)) (by first | assumption | (simp [go_sem]; done) | (simp [go_sem, C0c0, C0c1, C0c2, C0f0, C0f1, C0f2, C0z]; done)) (by first | assumption | (simp [go_sem]; done) | (simp [go_sem, C0c0, C0c1, C0c2, C0f0, C0f1, C0f2, C0z]; done)) (by first | assumption | (simp [go_sem]; done) | (simp [go_sem, C0c0, C0c1, C0c2, C0f0, C0f1, C0f2, C0z]; done)) (by first | assumption | (simp [go_sem]; done) | (simp [go_sem, C0c0, C0c1, C0c2, C0f0, C0f1, C0f2, C0z]; done)) (by first | assumption | omega | (simp; done) | (simp; omega))
  clear C0c0 C0c1 C0c2 C0f0 C0f1 C0f2 C0z
  obtain ⟨D0c0, D0c1, D0c2, D0f0, D0f1, D0f2, D0z⟩ := D0
  obtain ⟨D1c0, D1c1, D1c2, D1f0, D1f1, D1f2, D1z⟩ := D1
  (try (have m4_0 : ¬ w.heap.size = w4.heap.size := by omega)); (try (have m4_0' : ¬ w4.heap.size = w.heap.size := by omega))
  (try (have m4_1 : ¬ w1.heap.size = w4.heap.size := by omega)); (try (have m4_1' : ¬ w4.heap.size = w1.heap.size := by omega))
  (try (have m4_2 : ¬ w2.heap.size = w4.heap.size := by omega)); (try (have m4_2' : ¬ w4.heap.size = w2.heap.size := by omega))
  (try (have m4_3 : ¬ w3.heap.size = w4.heap.size := by omega)); (try (have m4_3' : ¬ w4.heap.size = w3.heap.size := by omega))
  clear h4 k4 B3
  go_wp2_with fail
  go_returns
  exact ⟨rfl, by go_grown⟩
set_option maxHeartbeats 4000000 in
theorem rest_zero_ii (a b n q1 q0 H Lo l d h : Int) (below minus : Bool) (n1 : ¬ n < 1) (en : IntKind.u64.wrap n = n) (c0 : ¬ H < h) (c0' : (h == H) = false) (c1 : Lo < l) (c2 : IntKind.u64.wrap (Lo - l) = d) (c3 : d < n) (c4 : IntKind.u64.wrap (H - h) = 1)
    (k1 : ∀ w, Calls Try.prog 13 #[.agg #[.int .i64 a, .int .u64 b], .int .i64 n] w fun e w' => e = .returned (.tuple #[.agg #[.int .i64 q1, .int .u64 q0], .int .i64 0]) ∧ Below w.heap.size w w')
    (k2 : ∀ w, Calls Try.prog 19 #[.agg #[.int .i64 a, .int .u64 b]] w fun e w' => e = .returned (.tuple #[magV H Lo false, .bool below]) ∧ Below w.heap.size w w')
    (k3 : ∀ w, Calls Try.prog 19 #[.agg #[.int .i64 q1, .int .u64 q0]] w fun e w' => e = .returned (.tuple #[magV 0 0 false, .bool minus]) ∧ Below w.heap.size w w')
    (k4 : ∀ w, Calls Try.prog 20 #[magV 0 0 false, .int .u64 n] w fun e w' => e = .returned (magV h l false) ∧ Below w.heap.size w w')
    (w : World) : Calls Try.prog 8 #[.agg #[.int .i64 a, .int .u64 b], .int .i64 n] w fun e w' => e = .returned (.bool true) ∧ Below w.heap.size w w' := by
  go_enter Try.func8, Try.ntmps8
  go_wp2_with fail
  refine (k1 _).mono ?_
  rintro e w1 ⟨rfl, h1⟩
  have B1 : Below w.heap.size w w1 := Below.trans (by go_grown) (h1.mono (by first | (simp; done) | omega | (simp; omega)))
  have y1 := B1.size
  have A0 := box2 h1 (w.heap.size) (.int .i64 a) (.int .u64 b) (by first | assumption | (simp [go_sem]; done) | (simp [go_sem]; done)) (by first | assumption | (simp [go_sem]; done) | (simp [go_sem]; done)) (by first | assumption | (simp [go_sem]; done) | (simp [go_sem]; done)) (by first | assumption | (simp [go_sem]; done) | (simp [go_sem]; done)) (by first | assumption | omega | (simp; done) | (simp; omega))
  obtain ⟨A0c0, A0c1, A0f0, A0f1, A0z⟩ := A0
  (try (have m1_0 : ¬ w.heap.size = w1.heap.size := by omega)); (try (have m1_0' : ¬ w1.heap.size = w.heap.size := by omega))
  clear h1 k1
  go_wp2_with fail
  refine (k2 _).mono ?_
  rintro e w2 ⟨rfl, h2⟩
  have B2 : Below w.heap.size w w2 := Below.trans (by go_grown) (h2.mono (by first | (simp; done) | omega | (simp; omega)))
  have y2 := B2.size
  have B0 := box2 h2 (w1.heap.size) (.int .i64 q1) (.int .u64 q0) (by first | assumption | (simp [go_sem]; done) | (simp [go_sem, A0c0, A0c1, A0f0, A0f1, A0z]; done)) (by first | assumption | (simp [go_sem]; done) | (simp [go_sem, A0c0, A0c1, A0f0, A0f1, A0z]; done)) (by first | assumption | (simp [go_sem]; done) | (simp [go_sem, A0c0, A0c1, A0f0, A0f1, A0z]; done)) (by first | assumption | (simp [go_sem]; done) | (simp [go_sem, A0c0, A0c1, A0f0, A0f1, A0z]; done)) (by first | assumption | omega | (simp; done) | (simp; omega))
  clear A0c0 A0c1 A0f0 A0f1 A0z
  obtain ⟨B0c0, B0c1, B0f0, B0f1, B0z⟩ := B0
  (try (have m2_0 : ¬ w.heap.size = w2.heap.size := by omega)); (try (have m2_0' : ¬ w2.heap.size = w.heap.size := by omega))
  (try (have m2_1 : ¬ w1.heap.size = w2.heap.size := by omega)); (try (have m2_1' : ¬ w2.heap.size = w1.heap.size := by omega))
  clear h2 k2 B1
  go_wp2_with fail
  refine (k3 _).mono ?_
  rintro e w3 ⟨rfl, h3⟩
  have B3 : Below w.heap.size w w3 := Below.trans (by go_grown) (h3.mono (by first | (simp; done) | omega | (simp; omega)))
  have y3 := B3.size
  have C0 := box3 h3 (w2.heap.size) (.int .u64 H) (.int .u64 Lo) (.bool false) (by first | assumption | (simp [go_sem]; done) | (simp [go_sem, B0c0, B0c1, B0f0, B0f1, B0z]; done)) (by first | assumption | (simp [go_sem]; done) | (simp [go_sem, B0c0, B0c1, B0f0, B0f1, B0z]; done)) (by first | assumption | (simp [go_sem]; done) | (simp [go_sem, B0c0, B0c1, B0f0, B0f1, B0z]; done)) (by first | assumption | (simp [go_sem]; done) | (simp [go_sem, B0c0, B0c1, B0f0, B0f1, B0z]; done)) (by first | assumption | (simp [go_sem]; done) | (simp [go_sem, B0c0, B0c1, B0f0, B0f1, B0z]; done)) (by first | assumption | (simp [go_sem]; done) | (simp [go_sem, B0c0, B0c1, B0f0, B0f1, B0z]; done)) (by first | assumption | omega | (simp; done) | (simp; omega))
  clear B0c0 B0c1 B0f0 B0f1 B0z
  obtain ⟨C0c0, C0c1, C0c2, C0f0, C0f1, C0f2, C0z⟩ := C0
  (try (have m3_0 : ¬ w.heap.size = w3.heap.size := by omega)); (try (have m3_0' : ¬ w3.heap.size = w.heap.size := by omega))
  (try (have m3_1 : ¬ w1.heap.size = w3.heap.size := by omega)); (try (have m3_1' : ¬ w3.heap.size = w1.heap.size := by omega))
  (try (have m3_2 : ¬ w2.heap.size = w3.heap.size := by omega)); (try (have m3_2' : ¬ w3.heap.size = w2.heap.size := by omega))
  clear h3 k3 B2
  go_wp2_with fail
  refine (k4 _).mono ?_
  rintro e w4 ⟨rfl, h4⟩
  have B4 : Below w.heap.size w w4 := Below.trans (by go_grown) (h4.mono (by first | (simp; done) | omega | (simp; omega)))
  have y4 := B4.size
  have D0 := box3 h4 (w2.heap.size) (.int .u64 H) (.int .u64 Lo) (.bool false) (by first | assumption | (refine (Below.cell ?_ C0z).trans C0c0; go_grown; done) | (simp [go_sem, C0c0]; done) | (simp [go_sem, C0c0, C0z]; done) | (simp [go_sem, C0c0, C0c1, C0c2, C0f0, C0f1, C0f2, C0z]; done)) (by first | assumption | (refine (Below.cell ?_ C0z).trans C0c1; go_grown; done) | (simp [go_sem, C0c1]; done) | (simp [go_sem, C0c1, C0z]; done) | (simp [go_sem, C0c0, C0c1, C0c2, C0f0, C0f1, C0f2, C0z]; done)) (by first | assumption | (refine (Below.cell ?_ C0z).trans C0c2; go_grown; done) | (simp [go_sem, C0c2]; done) | (simp [go_sem, C0c2, C0z]; done) | (simp [go_sem, C0c0, C0c1, C0c2, C0f0, C0f1, C0f2, C0z]; done)) (by first | assumption | (refine (Below.frozen ?_ C0z).trans C0f0; go_grown; done) | (simp [go_sem, C0f0]; done) | (simp [go_sem, C0f0, C0z]; done) | (simp [go_sem, C0c0, C0c1, C0c2, C0f0, C0f1, C0f2, C0z]; done)) (by first | assumption | (refine (Below.frozen ?_ C0z).trans C0f1; go_grown; done) | (simp [go_sem, C0f1]; done) | (simp [go_sem, C0f1, C0z]; done) | (simp [go_sem, C0c0, C0c1, C0c2, C0f0, C0f1, C0f2, C0z]; done)) (by first | assumption | (refine (Below.frozen ?_ C0z).trans C0f2; go_grown; done) | (simp [go_sem, C0f2]; done) | (simp [go_sem, C0f2, C0z]; done) | (simp [go_sem, C0c0, C0c1, C0c2, C0f0, C0f1, C0f2, C0z]; done)) (by first | assumption | omega | (simp; done) | (simp; omega))
  have D1 := box3 h4 (w3.heap.size) (.int .u64 0) (.int .u64 0) (.bool false) (by first | assumption | (simp [go_sem]; done) | (simp [go_sem, C0c0, C0c1, C0c2, C0f0, C0f1, C0f2, C0z]; done)) (by first | assumption | (simp [go_sem]; done) | (simp [go_sem, C0c0, C0c1, C0c2, C0f0, C0f1, C0f2, C0z]; done)) (by first | assumption | (simp [go_sem]; done) | (simp [go_sem, C0c0, C0c1, C0c2, C0f0, C0f1, C0f2, C0z]; done)) (by first | assumption | (simp [go_sem]; done) | (simp [go_sem, C0c0, C0c1, C0c2, C0f0, C0f1, C0f2, C0z]; done)) (by first | assumption | (simp [go_sem]; done) | (simp [go_sem, C0c0, C0c1, C0c2, C0f0, C0f1, C0f2, C0z]; done)) (by first | assumption | (simp [go_sem]; done) | (simp [go_sem, C0c0, C0c1, C0c2, C0f0, C0f1, C0f2, C0z]; done)) (by first | assumption | omega | (simp; done) | (simp; omega))
  clear C0c0 C0c1 C0c2 C0f0 C0f1 C0f2 C0z
  obtain ⟨D0c0, D0c1, D0c2, D0f0, D0f1, D0f2, D0z⟩ := D0
  obtain ⟨D1c0, D1c1, D1c2, D1f0, D1f1, D1f2, D1z⟩ := D1
  (try (have m4_0 : ¬ w.heap.size = w4.heap.size := by omega)); (try (have m4_0' : ¬ w4.heap.size = w.heap.size := by omega))
  (try (have m4_1 : ¬ w1.heap.size = w4.heap.size := by omega)); (try (have m4_1' : ¬ w4.heap.size = w1.heap.size := by omega))
  (try (have m4_2 : ¬ w2.heap.size = w4.heap.size := by omega)); (try (have m4_2' : ¬ w4.heap.size = w2.heap.size := by omega))
  (try (have m4_3 : ¬ w3.heap.size = w4.heap.size := by omega)); (try (have m4_3' : ¬ w4.heap.size = w3.heap.size := by omega))
  clear h4 k4 B3
  go_wp2_with fail
  go_returns
  exact ⟨rfl, by go_grown⟩
set_option maxHeartbeats 4000000 in
theorem rest_high_ii (a b n q1 q0 H Lo l d h ph pl : Int) (below : Bool) (n1 : ¬ n < 1) (en : IntKind.u64.wrap n = n) (p0 : 0 < ph) (c0 : ¬ H < h) (c0' : (h == H) = false) (c1 : Lo < l) (c2 : IntKind.u64.wrap (Lo - l) = d) (c3 : d < n) (c4 : IntKind.u64.wrap (H - h) = 1)
    (k1 : ∀ w, Calls Try.prog 13 #[.agg #[.int .i64 a, .int .u64 b], .int .i64 n] w fun e w' => e = .returned (.tuple #[.agg #[.int .i64 q1, .int .u64 q0], .int .i64 0]) ∧ Below w.heap.size w w')
    (k2 : ∀ w, Calls Try.prog 19 #[.agg #[.int .i64 a, .int .u64 b]] w fun e w' => e = .returned (.tuple #[magV H Lo false, .bool below]) ∧ Below w.heap.size w w')
    (k3 : ∀ w, Calls Try.prog 19 #[.agg #[.int .i64 q1, .int .u64 q0]] w fun e w' => e = .returned (.tuple #[magV ph pl false, .bool below]) ∧ Below w.heap.size w w')
    (k4 : ∀ w, Calls Try.prog 20 #[magV ph pl false, .int .u64 n] w fun e w' => e = .returned (magV h l false) ∧ Below w.heap.size w w')
    (w : World) : Calls Try.prog 8 #[.agg #[.int .i64 a, .int .u64 b], .int .i64 n] w fun e w' => e = .returned (.bool true) ∧ Below w.heap.size w w' := by
  go_enter Try.func8, Try.ntmps8
  go_wp2_with fail
  refine (k1 _).mono ?_
  rintro e w1 ⟨rfl, h1⟩
  have B1 : Below w.heap.size w w1 := Below.trans (by go_grown) (h1.mono (by first | (simp; done) | omega | (simp; omega)))
  have y1 := B1.size
  have A0 := box2 h1 (w.heap.size) (.int .i64 a) (.int .u64 b) (by first | assumption | (simp [go_sem]; done) | (simp [go_sem]; done)) (by first | assumption | (simp [go_sem]; done) | (simp [go_sem]; done)) (by first | assumption | (simp [go_sem]; done) | (simp [go_sem]; done)) (by first | assumption | (simp [go_sem]; done) | (simp [go_sem]; done)) (by first | assumption | omega | (simp; done) | (simp; omega))
  obtain ⟨A0c0, A0c1, A0f0, A0f1, A0z⟩ := A0
  (try (have m1_0 : ¬ w.heap.size = w1.heap.size := by omega)); (try (have m1_0' : ¬ w1.heap.size = w.heap.size := by omega))
  clear h1 k1
  go_wp2_with fail
  refine (k2 _).mono ?_
  rintro e w2 ⟨rfl, h2⟩
  have B2 : Below w.heap.size w w2 := Below.trans (by go_grown) (h2.mono (by first | (simp; done) | omega | (simp; omega)))
  have y2 := B2.size
  have B0 := box2 h2 (w1.heap.size) (.int .i64 q1) (.int .u64 q0) (by first | assumption | (simp [go_sem]; done) | (simp [go_sem, A0c0, A0c1, A0f0, A0f1, A0z]; done)) (by first | assumption | (simp [go_sem]; done) | (simp [go_sem, A0c0, A0c1, A0f0, A0f1, A0z]; done)) (by first | assumption | (simp [go_sem]; done) | (simp [go_sem, A0c0, A0c1, A0f0, A0f1, A0z]; done)) (by first | assumption | (simp [go_sem]; done) | (simp [go_sem, A0c0, A0c1, A0f0, A0f1, A0z]; done)) (by first | assumption | omega | (simp; done) | (simp; omega))
  clear A0c0 A0c1 A0f0 A0f1 A0z
  obtain ⟨B0c0, B0c1, B0f0, B0f1, B0z⟩ := B0
  (try (have m2_0 : ¬ w.heap.size = w2.heap.size := by omega)); (try (have m2_0' : ¬ w2.heap.size = w.heap.size := by omega))
  (try (have m2_1 : ¬ w1.heap.size = w2.heap.size := by omega)); (try (have m2_1' : ¬ w2.heap.size = w1.heap.size := by omega))
  clear h2 k2 B1
  go_wp2_with fail
  refine (k3 _).mono ?_
  rintro e w3 ⟨rfl, h3⟩
  have B3 : Below w.heap.size w w3 := Below.trans (by go_grown) (h3.mono (by first | (simp; done) | omega | (simp; omega)))
  have y3 := B3.size
  have C0 := box3 h3 (w2.heap.size) (.int .u64 H) (.int .u64 Lo) (.bool false) (by first | assumption | (simp [go_sem]; done) | (simp [go_sem, B0c0, B0c1, B0f0, B0f1, B0z]; done)) (by first | assumption | (simp [go_sem]; done) | (simp [go_sem, B0c0, B0c1, B0f0, B0f1, B0z]; done)) (by first | assumption | (simp [go_sem]; done) | (simp [go_sem, B0c0, B0c1, B0f0, B0f1, B0z]; done)) (by first | assumption | (simp [go_sem]; done) | (simp [go_sem, B0c0, B0c1, B0f0, B0f1, B0z]; done)) (by first | assumption | (simp [go_sem]; done) | (simp [go_sem, B0c0, B0c1, B0f0, B0f1, B0z]; done)) (by first | assumption | (simp [go_sem]; done) | (simp [go_sem, B0c0, B0c1, B0f0, B0f1, B0z]; done)) (by first | assumption | omega | (simp; done) | (simp; omega))
  clear B0c0 B0c1 B0f0 B0f1 B0z
  obtain ⟨C0c0, C0c1, C0c2, C0f0, C0f1, C0f2, C0z⟩ := C0
  (try (have m3_0 : ¬ w.heap.size = w3.heap.size := by omega)); (try (have m3_0' : ¬ w3.heap.size = w.heap.size := by omega))
  (try (have m3_1 : ¬ w1.heap.size = w3.heap.size := by omega)); (try (have m3_1' : ¬ w3.heap.size = w1.heap.size := by omega))
  (try (have m3_2 : ¬ w2.heap.size = w3.heap.size := by omega)); (try (have m3_2' : ¬ w3.heap.size = w2.heap.size := by omega))
  clear h3 k3 B2
  go_wp2_with fail
  refine (k4 _).mono ?_
  rintro e w4 ⟨rfl, h4⟩
  have B4 : Below w.heap.size w w4 := Below.trans (by go_grown) (h4.mono (by first | (simp; done) | omega | (simp; omega)))
  have y4 := B4.size
  have D0 := box3 h4 (w2.heap.size) (.int .u64 H) (.int .u64 Lo) (.bool false) (by first | assumption | (refine (Below.cell ?_ C0z).trans C0c0; go_grown; done) | (simp [go_sem, C0c0]; done) | (simp [go_sem, C0c0, C0z]; done) | (simp [go_sem, C0c0, C0c1, C0c2, C0f0, C0f1, C0f2, C0z]; done)) (by first | assumption | (refine (Below.cell ?_ C0z).trans C0c1; go_grown; done) | (simp [go_sem, C0c1]; done) | (simp [go_sem, C0c1, C0z]; done) | (simp [go_sem, C0c0, C0c1, C0c2, C0f0, C0f1, C0f2, C0z]; done)) (by first | assumption | (refine (Below.cell ?_ C0z).trans C0c2; go_grown; done) | (simp [go_sem, C0c2]; done) | (simp [go_sem, C0c2, C0z]; done) | (simp [go_sem, C0c0, C0c1, C0c2, C0f0, C0f1, C0f2, C0z]; done)) (by first | assumption | (refine (Below.frozen ?_ C0z).trans C0f0; go_grown; done) | (simp [go_sem, C0f0]; done) | (simp [go_sem, C0f0, C0z]; done) | (simp [go_sem, C0c0, C0c1, C0c2, C0f0, C0f1, C0f2, C0z]; done)) (by first | assumption | (refine (Below.frozen ?_ C0z).trans C0f1; go_grown; done) | (simp [go_sem, C0f1]; done) | (simp [go_sem, C0f1, C0z]; done) | (simp [go_sem, C0c0, C0c1, C0c2, C0f0, C0f1, C0f2, C0z]; done)) (by first | assumption | (refine (Below.frozen ?_ C0z).trans C0f2; go_grown; done) | (simp [go_sem, C0f2]; done) | (simp [go_sem, C0f2, C0z]; done) | (simp [go_sem, C0c0, C0c1, C0c2, C0f0, C0f1, C0f2, C0z]; done)) (by first | assumption | omega | (simp; done) | (simp; omega))
  have D1 := box3 h4 (w3.heap.size) (.int .u64 ph) (.int .u64 pl) (.bool false) (by first | assumption | (simp [go_sem]; done) | (simp [go_sem, C0c0, C0c1, C0c2, C0f0, C0f1, C0f2, C0z]; done)) (by first | assumption | (simp [go_sem]; done) | (simp [go_sem, C0c0, C0c1, C0c2, C0f0, C0f1, C0f2, C0z]; done)) (by first | assumption | (simp [go_sem]; done) | (simp [go_sem, C0c0, C0c1, C0c2, C0f0, C0f1, C0f2, C0z]; done)) (by first | assumption | (simp [go_sem]; done) | (simp [go_sem, C0c0, C0c1, C0c2, C0f0, C0f1, C0f2, C0z]; done)) (by first | assumption | (simp [go_sem]; done) | (simp [go_sem, C0c0, C0c1, C0c2, C0f0, C0f1, C0f2, C0z]; done)) (by first | assumption | (simp [go_sem]; done) | (simp [go_sem, C0c0, C0c1, C0c2, C0f0, C0f1, C0f2, C0z]; done)) (by first | assumption | omega | (simp; done) | (simp; omega))
  clear C0c0 C0c1 C0c2 C0f0 C0f1 C0f2 C0z
  obtain ⟨D0c0, D0c1, D0c2, D0f0, D0f1, D0f2, D0z⟩ := D0
  obtain ⟨D1c0, D1c1, D1c2, D1f0, D1f1, D1f2, D1z⟩ := D1
  (try (have m4_0 : ¬ w.heap.size = w4.heap.size := by omega)); (try (have m4_0' : ¬ w4.heap.size = w.heap.size := by omega))
  (try (have m4_1 : ¬ w1.heap.size = w4.heap.size := by omega)); (try (have m4_1' : ¬ w4.heap.size = w1.heap.size := by omega))
  (try (have m4_2 : ¬ w2.heap.size = w4.heap.size := by omega)); (try (have m4_2' : ¬ w4.heap.size = w2.heap.size := by omega))
  (try (have m4_3 : ¬ w3.heap.size = w4.heap.size := by omega)); (try (have m4_3' : ¬ w4.heap.size = w3.heap.size := by omega))
  clear h4 k4 B3
  go_wp2_with fail
  go_returns
  exact ⟨rfl, by go_grown⟩
set_option maxHeartbeats 4000000 in
theorem rest_lows_ii (a b n q1 q0 H Lo l d h ph pl : Int) (below : Bool) (n1 : ¬ n < 1) (en : IntKind.u64.wrap n = n) (p0 : ¬ 0 < ph) (p1 : 0 < pl) (c0 : ¬ H < h) (c0' : (h == H) = false) (c1 : Lo < l) (c2 : IntKind.u64.wrap (Lo - l) = d) (c3 : d < n) (c4 : IntKind.u64.wrap (H - h) = 1)
    (k1 : ∀ w, Calls Try.prog 13 #[.agg #[.int .i64 a, .int .u64 b], .int .i64 n] w fun e w' => e = .returned (.tuple #[.agg #[.int .i64 q1, .int .u64 q0], .int .i64 0]) ∧ Below w.heap.size w w')
    (k2 : ∀ w, Calls Try.prog 19 #[.agg #[.int .i64 a, .int .u64 b]] w fun e w' => e = .returned (.tuple #[magV H Lo false, .bool below]) ∧ Below w.heap.size w w')
    (k3 : ∀ w, Calls Try.prog 19 #[.agg #[.int .i64 q1, .int .u64 q0]] w fun e w' => e = .returned (.tuple #[magV ph pl false, .bool below]) ∧ Below w.heap.size w w')
    (k4 : ∀ w, Calls Try.prog 20 #[magV ph pl false, .int .u64 n] w fun e w' => e = .returned (magV h l false) ∧ Below w.heap.size w w')
    (w : World) : Calls Try.prog 8 #[.agg #[.int .i64 a, .int .u64 b], .int .i64 n] w fun e w' => e = .returned (.bool true) ∧ Below w.heap.size w w' := by
  go_enter Try.func8, Try.ntmps8
  go_wp2_with fail
  refine (k1 _).mono ?_
  rintro e w1 ⟨rfl, h1⟩
  have B1 : Below w.heap.size w w1 := Below.trans (by go_grown) (h1.mono (by first | (simp; done) | omega | (simp; omega)))
  have y1 := B1.size
  have A0 := box2 h1 (w.heap.size) (.int .i64 a) (.int .u64 b) (by first | assumption | (simp [go_sem]; done) | (simp [go_sem]; done)) (by first | assumption | (simp [go_sem]; done) | (simp [go_sem]; done)) (by first | assumption | (simp [go_sem]; done) | (simp [go_sem]; done)) (by first | assumption | (simp [go_sem]; done) | (simp [go_sem]; done)) (by first | assumption | omega | (simp; done) | (simp; omega))
  obtain ⟨A0c0, A0c1, A0f0, A0f1, A0z⟩ := A0
  (try (have m1_0 : ¬ w.heap.size = w1.heap.size := by omega)); (try (have m1_0' : ¬ w1.heap.size = w.heap.size := by omega))
  clear h1 k1
  go_wp2_with fail
  refine (k2 _).mono ?_
  rintro e w2 ⟨rfl, h2⟩
  have B2 : Below w.heap.size w w2 := Below.trans (by go_grown) (h2.mono (by first | (simp; done) | omega | (simp; omega)))
  have y2 := B2.size
  have B0 := box2 h2 (w1.heap.size) (.int .i64 q1) (.int .u64 q0) (by first | assumption | (simp [go_sem]; done) | (simp [go_sem, A0c0, A0c1, A0f0, A0f1, A0z]; done)) (by first | assumption | (simp [go_sem]; done) | (simp [go_sem, A0c0, A0c1, A0f0, A0f1, A0z]; done)) (by first | assumption | (simp [go_sem]; done) | (simp [go_sem, A0c0, A0c1, A0f0, A0f1, A0z]; done)) (by first | assumption | (simp [go_sem]; done) | (simp [go_sem, A0c0, A0c1, A0f0, A0f1, A0z]; done)) (by first | assumption | omega | (simp; done) | (simp; omega))
  clear A0c0 A0c1 A0f0 A0f1 A0z
  obtain ⟨B0c0, B0c1, B0f0, B0f1, B0z⟩ := B0
  (try (have m2_0 : ¬ w.heap.size = w2.heap.size := by omega)); (try (have m2_0' : ¬ w2.heap.size = w.heap.size := by omega))
  (try (have m2_1 : ¬ w1.heap.size = w2.heap.size := by omega)); (try (have m2_1' : ¬ w2.heap.size = w1.heap.size := by omega))
  clear h2 k2 B1
  go_wp2_with fail
  refine (k3 _).mono ?_
  rintro e w3 ⟨rfl, h3⟩
  have B3 : Below w.heap.size w w3 := Below.trans (by go_grown) (h3.mono (by first | (simp; done) | omega | (simp; omega)))
  have y3 := B3.size
  have C0 := box3 h3 (w2.heap.size) (.int .u64 H) (.int .u64 Lo) (.bool false) (by first | assumption | (simp [go_sem]; done) | (simp [go_sem, B0c0, B0c1, B0f0, B0f1, B0z]; done)) (by first | assumption | (simp [go_sem]; done) | (simp [go_sem, B0c0, B0c1, B0f0, B0f1, B0z]; done)) (by first | assumption | (simp [go_sem]; done) | (simp [go_sem, B0c0, B0c1, B0f0, B0f1, B0z]; done)) (by first | assumption | (simp [go_sem]; done) | (simp [go_sem, B0c0, B0c1, B0f0, B0f1, B0z]; done)) (by first | assumption | (simp [go_sem]; done) | (simp [go_sem, B0c0, B0c1, B0f0, B0f1, B0z]; done)) (by first | assumption | (simp [go_sem]; done) | (simp [go_sem, B0c0, B0c1, B0f0, B0f1, B0z]; done)) (by first | assumption | omega | (simp; done) | (simp; omega))
  clear B0c0 B0c1 B0f0 B0f1 B0z
  obtain ⟨C0c0, C0c1, C0c2, C0f0, C0f1, C0f2, C0z⟩ := C0
  (try (have m3_0 : ¬ w.heap.size = w3.heap.size := by omega)); (try (have m3_0' : ¬ w3.heap.size = w.heap.size := by omega))
  (try (have m3_1 : ¬ w1.heap.size = w3.heap.size := by omega)); (try (have m3_1' : ¬ w3.heap.size = w1.heap.size := by omega))
  (try (have m3_2 : ¬ w2.heap.size = w3.heap.size := by omega)); (try (have m3_2' : ¬ w3.heap.size = w2.heap.size := by omega))
  clear h3 k3 B2
  go_wp2_with fail
  refine (k4 _).mono ?_
  rintro e w4 ⟨rfl, h4⟩
  have B4 : Below w.heap.size w w4 := Below.trans (by go_grown) (h4.mono (by first | (simp; done) | omega | (simp; omega)))
  have y4 := B4.size
  have D0 := box3 h4 (w2.heap.size) (.int .u64 H) (.int .u64 Lo) (.bool false) (by first | assumption | (refine (Below.cell ?_ C0z).trans C0c0; go_grown; done) | (simp [go_sem, C0c0]; done) | (simp [go_sem, C0c0, C0z]; done) | (simp [go_sem, C0c0, C0c1, C0c2, C0f0, C0f1, C0f2, C0z]; done)) (by first | assumption | (refine (Below.cell ?_ C0z).trans C0c1; go_grown; done) | (simp [go_sem, C0c1]; done) | (simp [go_sem, C0c1, C0z]; done) | (simp [go_sem, C0c0, C0c1, C0c2, C0f0, C0f1, C0f2, C0z]; done)) (by first | assumption | (refine (Below.cell ?_ C0z).trans C0c2; go_grown; done) | (simp [go_sem, C0c2]; done) | (simp [go_sem, C0c2, C0z]; done) | (simp [go_sem, C0c0, C0c1, C0c2, C0f0, C0f1, C0f2, C0z]; done)) (by first | assumption | (refine (Below.frozen ?_ C0z).trans C0f0; go_grown; done) | (simp [go_sem, C0f0]; done) | (simp [go_sem, C0f0, C0z]; done) | (simp [go_sem, C0c0, C0c1, C0c2, C0f0, C0f1, C0f2, C0z]; done)) (by first | assumption | (refine (Below.frozen ?_ C0z).trans C0f1; go_grown; done) | (simp [go_sem, C0f1]; done) | (simp [go_sem, C0f1, C0z]; done) | (simp [go_sem, C0c0, C0c1, C0c2, C0f0, C0f1, C0f2, C0z]; done)) (by first | assumption | (refine (Below.frozen ?_ C0z).trans C0f2; go_grown; done) | (simp [go_sem, C0f2]; done) | (simp [go_sem, C0f2, C0z]; done) | (simp [go_sem, C0c0, C0c1, C0c2, C0f0, C0f1, C0f2, C0z]; done)) (by first | assumption | omega | (simp; done) | (simp; omega))
  have D1 := box3 h4 (w3.heap.size) (.int .u64 ph) (.int .u64 pl) (.bool false) (by first | assumption | (simp [go_sem]; done) | (simp [go_sem, C0c0, C0c1, C0c2, C0f0, C0f1, C0f2, C0z]; done)) (by first | assumption | (simp [go_sem]; done) | (simp [go_sem, C0c0, C0c1, C0c2, C0f0, C0f1, C0f2, C0z]; done)) (by first | assumption | (simp [go_sem]; done) | (simp [go_sem, C0c0, C0c1, C0c2, C0f0, C0f1, C0f2, C0z]; done)) (by first | assumption | (simp [go_sem]; done) | (simp [go_sem, C0c0, C0c1, C0c2, C0f0, C0f1, C0f2, C0z]; done)) (by first | assumption | (simp [go_sem]; done) | (simp [go_sem, C0c0, C0c1, C0c2, C0f0, C0f1, C0f2, C0z]; done)) (by first | assumption | (simp [go_sem]; done) | (simp [go_sem, C0c0, C0c1, C0c2, C0f0, C0f1, C0f2, C0z]; done)) (by first | assumption | omega | (simp; done) | (simp; omega))
  clear C0c0 C0c1 C0c2 C0f0 C0f1 C0f2 C0z
  obtain ⟨D0c0, D0c1, D0c2, D0f0, D0f1, D0f2, D0z⟩ := D0
  obtain ⟨D1c0, D1c1, D1c2, D1f0, D1f1, D1f2, D1z⟩ := D1
  (try (have m4_0 : ¬ w.heap.size = w4.heap.size := by omega)); (try (have m4_0' : ¬ w4.heap.size = w.heap.size := by omega))
  (try (have m4_1 : ¬ w1.heap.size = w4.heap.size := by omega)); (try (have m4_1' : ¬ w4.heap.size = w1.heap.size := by omega))
  (try (have m4_2 : ¬ w2.heap.size = w4.heap.size := by omega)); (try (have m4_2' : ¬ w4.heap.size = w2.heap.size := by omega))
  (try (have m4_3 : ¬ w3.heap.size = w4.heap.size := by omega)); (try (have m4_3' : ¬ w4.heap.size = w3.heap.size := by omega))
  clear h4 k4 B3
  go_wp2_with fail
  go_returns
  exact ⟨rfl, by go_grown⟩
end Go.Proofs.Ytedpbdcbbfofoaa
