/- wide.Quo. -/
import Derived.Test.YthcgkpmlfbjagaaDivideb
import Derived.Test.YthcgkpmlfbjagaaWabs
import Derived.Test.YthcgkpmlfbjagaaWcmp
namespace Go.Proofs.Ythcgkpmlfbjagaa
set_option linter.unusedVariables false
open Go.RowKit W
set_option maxHeartbeats 2000000 in
theorem quo_zero (a1 a0 b1 b0 : Int) (ks : ∀ w, Calls Try.prog 23 #[.agg #[.int .i64 b1, .int .u64 b0]] w fun e w' => e = .returned (.int .i64 0) ∧ Below w.heap.size w w') (w : World) :
    Calls Try.prog 32 #[.agg #[.int .i64 a1, .int .u64 a0], .agg #[.int .i64 b1, .int .u64 b0]] w fun e w' => e = .returned (.tuple #[.agg #[.int .i64 0, .int .u64 0], .agg #[.int .i64 0, .int .u64 0], .int .i64 11]) ∧ Below w.heap.size w w' := by
  go_enter Try.func32, Try.ntmps32
  go_wp2_with fail
  refine (ks _).mono ?_
  rintro e w1 ⟨rfl, h1⟩
  have B1 : Below w.heap.size w w1 := Below.trans (by go_grown) (h1.mono (by first | (simp; done) | omega | (simp; omega)))
  have y1 := B1.size
  have A0 := box2 h1 (w.heap.size + 1 + 1) (.int .i64 0) (.int .u64 0) (by first | assumption | (simp [go_sem]; done) | (simp [go_sem]; done)) (by first | assumption | (simp [go_sem]; done) | (simp [go_sem]; done)) (by first | assumption | (simp [go_sem]; done) | (simp [go_sem]; done)) (by first | assumption | (simp [go_sem]; done) | (simp [go_sem]; done)) (by first | assumption | omega | (simp; done) | (simp; omega))
  have A1 := box2 h1 (w.heap.size + 1 + 1 + 1) (.int .i64 0) (.int .u64 0) (by first | assumption | (simp [go_sem]; done) | (simp [go_sem]; done)) (by first | assumption | (simp [go_sem]; done) | (simp [go_sem]; done)) (by first | assumption | (simp [go_sem]; done) | (simp [go_sem]; done)) (by first | assumption | (simp [go_sem]; done) | (simp [go_sem]; done)) (by first | assumption | omega | (simp; done) | (simp; omega))
  obtain ⟨A0c0, A0c1, A0f0, A0f1, A0z⟩ := A0
  obtain ⟨A1c0, A1c1, A1f0, A1f1, A1z⟩ := A1
  clear h1 ks
  go_wp2_with fail
  refine bodyPost_ret (by simp [results, Try.results32, go_sem, A0c0, A0c1, A1c0, A1c1]; try rfl) rfl ?_
  exact ⟨rfl, by go_grown⟩
set_option maxHeartbeats 8000000 in
theorem quo_over (a1 a0 b1 b0 s m1 m0 n1 n0 q1 q0 l1 l0 s1 s0 : Int) (na nb : Bool) (z : (s == 0) = false)
    (ks : ∀ w, Calls Try.prog 23 #[.agg #[.int .i64 b1, .int .u64 b0]] w fun e w' => e = .returned (.int .i64 s) ∧ Below w.heap.size w w')
    (ka : ∀ w, Calls Try.prog 48 #[.agg #[.int .i64 a1, .int .u64 a0]] w fun e w' => e = .returned (.tuple #[.bool na, .agg #[.int .u64 m0, .int .u64 m1]]) ∧ Below w.heap.size w w')
    (kb : ∀ w, Calls Try.prog 48 #[.agg #[.int .i64 b1, .int .u64 b0]] w fun e w' => e = .returned (.tuple #[.bool nb, .agg #[.int .u64 n0, .int .u64 n1]]) ∧ Below w.heap.size w w')
    (kd : ∀ w, Calls Try.prog 52 #[.agg #[.int .u64 m0, .int .u64 m1], .agg #[.int .u64 n0, .int .u64 n1]] w fun e w' => e = .returned (.tuple #[.agg #[.int .u64 q0, .int .u64 q1], .agg #[.int .u64 l0, .int .u64 l1]]) ∧ Below w.heap.size w w')
    (kq : ∀ w, Calls Try.prog 50 #[.bool (na != nb), .agg #[.int .u64 q0, .int .u64 q1]] w fun e w' => e = .returned (.tuple #[.agg #[.int .i64 s1, .int .u64 s0], .int .i64 10]) ∧ Below w.heap.size w w')
    (w : World) : Calls Try.prog 32 #[.agg #[.int .i64 a1, .int .u64 a0], .agg #[.int .i64 b1, .int .u64 b0]] w fun e w' => e = .returned (.tuple #[.agg #[.int .i64 0, .int .u64 0], .agg #[.int .i64 0, .int .u64 0], .int .i64 10]) ∧ Below w.heap.size w w' := by
  go_enter Try.func32, Try.ntmps32
  go_wp2_with fail
  refine (ks _).mono ?_
  rintro e w1 ⟨rfl, h1⟩
  have B1 : Below w.heap.size w w1 := Below.trans (by go_grown) (h1.mono (by first | (simp; done) | omega | (simp; omega)))
  have y1 := B1.size
  have A0 := box2 h1 (w.heap.size) (.int .i64 a1) (.int .u64 a0) (by first | assumption | (simp [go_sem]; done) | (simp [go_sem]; done)) (by first | assumption | (simp [go_sem]; done) | (simp [go_sem]; done)) (by first | assumption | (simp [go_sem]; done) | (simp [go_sem]; done)) (by first | assumption | (simp [go_sem]; done) | (simp [go_sem]; done)) (by first | assumption | omega | (simp; done) | (simp; omega))
  have A1 := box2 h1 (w.heap.size + 1) (.int .i64 b1) (.int .u64 b0) (by first | assumption | (simp [go_sem]; done) | (simp [go_sem]; done)) (by first | assumption | (simp [go_sem]; done) | (simp [go_sem]; done)) (by first | assumption | (simp [go_sem]; done) | (simp [go_sem]; done)) (by first | assumption | (simp [go_sem]; done) | (simp [go_sem]; done)) (by first | assumption | omega | (simp; done) | (simp; omega))
  have A2 := box2 h1 (w.heap.size + 1 + 1) (.int .i64 0) (.int .u64 0) (by first | assumption | (simp [go_sem]; done) | (simp [go_sem]; done)) (by first | assumption | (simp [go_sem]; done) | (simp [go_sem]; done)) (by first | assumption | (simp [go_sem]; done) | (simp [go_sem]; done)) (by first | assumption | (simp [go_sem]; done) | (simp [go_sem]; done)) (by first | assumption | omega | (simp; done) | (simp; omega))
  have A3 := box2 h1 (w.heap.size + 1 + 1 + 1) (.int .i64 0) (.int .u64 0) (by first | assumption | (simp [go_sem]; done) | (simp [go_sem]; done)) (by first | assumption | (simp [go_sem]; done) | (simp [go_sem]; done)) (by first | assumption | (simp [go_sem]; done) | (simp [go_sem]; done)) (by first | assumption | (simp [go_sem]; done) | (simp [go_sem]; done)) (by first | assumption | omega | (simp; done) | (simp; omega))
  obtain ⟨A0c0, A0c1, A0f0, A0f1, A0z⟩ := A0
  obtain ⟨A1c0, A1c1, A1f0, A1f1, A1z⟩ := A1
  obtain ⟨A2c0, A2c1, A2f0, A2f1, A2z⟩ := A2
  obtain ⟨A3c0, A3c1, A3f0, A3f1, A3z⟩ := A3
  clear h1 ks
  go_wp2_with fail
  refine (ka _).mono ?_
  rintro e w2 ⟨rfl, h2⟩
  have B2 : Below w.heap.size w w2 := Below.trans (by go_grown) (h2.mono (by first | (simp; done) | omega | (simp; omega)))
  have y2 := B2.size
  have B0 := box2 h2 (w.heap.size + 1) (.int .i64 b1) (.int .u64 b0) (by first | assumption | (refine (Below.cell ?_ A1z).trans A1c0; go_grown; done) | (simp [go_sem, A1c0]; done) | (simp [go_sem, A1c0, A1z]; done) | (simp [go_sem, A0c0, A0c1, A0f0, A0f1, A0z, A1c0, A1c1, A1f0, A1f1, A1z, A2c0, A2c1, A2f0, A2f1, A2z, A3c0, A3c1, A3f0, A3f1, A3z]; done)) (by first | assumption | (refine (Below.cell ?_ A1z).trans A1c1; go_grown; done) | (simp [go_sem, A1c1]; done) | (simp [go_sem, A1c1, A1z]; done) | (simp [go_sem, A0c0, A0c1, A0f0, A0f1, A0z, A1c0, A1c1, A1f0, A1f1, A1z, A2c0, A2c1, A2f0, A2f1, A2z, A3c0, A3c1, A3f0, A3f1, A3z]; done)) (by first | assumption | (refine (Below.frozen ?_ A1z).trans A1f0; go_grown; done) | (simp [go_sem, A1f0]; done) | (simp [go_sem, A1f0, A1z]; done) | (simp [go_sem, A0c0, A0c1, A0f0, A0f1, A0z, A1c0, A1c1, A1f0, A1f1, A1z, A2c0, A2c1, A2f0, A2f1, A2z, A3c0, A3c1, A3f0, A3f1, A3z]; done)) (by first | assumption | (refine (Below.frozen ?_ A1z).trans A1f1; go_grown; done) | (simp [go_sem, A1f1]; done) | (simp [go_sem, A1f1, A1z]; done) | (simp [go_sem, A0c0, A0c1, A0f0, A0f1, A0z, A1c0, A1c1, A1f0, A1f1, A1z, A2c0, A2c1, A2f0, A2f1, A2z, A3c0, A3c1, A3f0, A3f1, A3z]; done)) (by first | assumption | omega | (simp; done) | (simp; omega))
  have B1 := box2 h2 (w.heap.size + 1 + 1) (.int .i64 0) (.int .u64 0) (by first | assumption | (refine (Below.cell ?_ A2z).trans A2c0; go_grown; done) | (simp [go_sem, A2c0]; done) | (simp [go_sem, A2c0, A2z]; done) | (simp [go_sem, A0c0, A0c1, A0f0, A0f1, A0z, A1c0, A1c1, A1f0, A1f1, A1z, A2c0, A2c1, A2f0, A2f1, A2z, A3c0, A3c1, A3f0, A3f1, A3z]; done)) (by first | assumption | (refine (Below.cell ?_ A2z).trans A2c1; go_grown; done) | (simp [go_sem, A2c1]; done) | (simp [go_sem, A2c1, A2z]; done) | (simp [go_sem, A0c0, A0c1, A0f0, A0f1, A0z, A1c0, A1c1, A1f0, A1f1, A1z, A2c0, A2c1, A2f0, A2f1, A2z, A3c0, A3c1, A3f0, A3f1, A3z]; done)) (by first | assumption | (refine (Below.frozen ?_ A2z).trans A2f0; go_grown; done) | (simp [go_sem, A2f0]; done) | (simp [go_sem, A2f0, A2z]; done) | (simp [go_sem, A0c0, A0c1, A0f0, A0f1, A0z, A1c0, A1c1, A1f0, A1f1, A1z, A2c0, A2c1, A2f0, A2f1, A2z, A3c0, A3c1, A3f0, A3f1, A3z]; done)) (by first | assumption | (refine (Below.frozen ?_ A2z).trans A2f1; go_grown; done) | (simp [go_sem, A2f1]; done) | (simp [go_sem, A2f1, A2z]; done) | (simp [go_sem, A0c0, A0c1, A0f0, A0f1, A0z, A1c0, A1c1, A1f0, A1f1, A1z, A2c0, A2c1, A2f0, A2f1, A2z, A3c0, A3c1, A3f0, A3f1, A3z]; done)) (by first | assumption | omega | (simp; done) | (simp; omega))
  have B2 := box2 h2 (w.heap.size + 1 + 1 + 1) (.int .i64 0) (.int .u64 0) (by first | assumption | (refine (Below.cell ?_ A3z).trans A3c0; go_grown; done) | (simp [go_sem, A3c0]; done) | (simp [go_sem, A3c0, A3z]; done) | (simp [go_sem, A0c0, A0c1, A0f0, A0f1, A0z, A1c0, A1c1, A1f0, A1f1, A1z, A2c0, A2c1, A2f0, A2f1, A2z, A3c0, A3c1, A3f0, A3f1, A3z]; done)) (by first | assumption | (refine (Below.cell ?_ A3z).trans A3c1; go_grown; done) | (simp [go_sem, A3c1]; done) | (simp [go_sem, A3c1, A3z]; done) | (simp [go_sem, A0c0, A0c1, A0f0, A0f1, A0z, A1c0, A1c1, A1f0, A1f1, A1z, A2c0, A2c1, A2f0, A2f1, A2z, A3c0, A3c1, A3f0, A3f1, A3z]; done)) (by first | assumption | (refine (Below.frozen ?_ A3z).trans A3f0; go_grown; done) | (simp [go_sem, A3f0]; done) | (simp [go_sem, A3f0, A3z]; done) | (simp [go_sem, A0c0, A0c1, A0f0, A0f1, A0z, A1c0, A1c1, A1f0, A1f1, A1z, A2c0, A2c1, A2f0, A2f1, A2z, A3c0, A3c1, A3f0, A3f1, A3z]; done)) (by first | assumption | (refine (Below.frozen ?_ A3z).trans A3f1; go_grown; done) | (simp [go_sem, A3f1]; done) | (simp [go_sem, A3f1, A3z]; done) | (simp [go_sem, A0c0, A0c1, A0f0, A0f1, A0z, A1c0, A1c1, A1f0, A1f1, A1z, A2c0, A2c1, A2f0, A2f1, A2z, A3c0, A3c1, A3f0, A3f1, A3z]; done)) (by first | assumption | omega | (simp; done) | (simp; omega))
  clear A0c0 A0c1 A0f0 A0f1 A0z A1c0 A1c1 A1f0 A1f1 A1z A2c0 A2c1 A2f0 A2f1 A2z A3c0 A3c1 A3f0 A3f1 A3z
  obtain ⟨B0c0, B0c1, B0f0, B0f1, B0z⟩ := B0
  obtain ⟨B1c0, B1c1, B1f0, B1f1, B1z⟩ := B1
  obtain ⟨B2c0, B2c1, B2f0, B2f1, B2z⟩ := B2
  clear h2 ka B1
  go_wp2_with fail
  refine (kb _).mono ?_
  rintro e w3 ⟨rfl, h3⟩
  have B3 : Below w.heap.size w w3 := Below.trans (by go_grown) (h3.mono (by first | (simp; done) | omega | (simp; omega)))
  have y3 := B3.size
  have C0 := box2 h3 (w.heap.size + 1 + 1) (.int .i64 0) (.int .u64 0) (by first | assumption | (refine (Below.cell ?_ B1z).trans B1c0; go_grown; done) | (simp [go_sem, B1c0]; done) | (simp [go_sem, B1c0, B1z]; done) | (simp [go_sem, B0c0, B0c1, B0f0, B0f1, B0z, B1c0, B1c1, B1f0, B1f1, B1z, B2c0, B2c1, B2f0, B2f1, B2z]; done)) (by first | assumption | (refine (Below.cell ?_ B1z).trans B1c1; go_grown; done) | (simp [go_sem, B1c1]; done) | (simp [go_sem, B1c1, B1z]; done) | (simp [go_sem, B0c0, B0c1, B0f0, B0f1, B0z, B1c0, B1c1, B1f0, B1f1, B1z, B2c0, B2c1, B2f0, B2f1, B2z]; done)) (by first | assumption | (refine (Below.frozen ?_ B1z).trans B1f0; go_grown; done) | (simp [go_sem, B1f0]; done) | (simp [go_sem, B1f0, B1z]; done) | (simp [go_sem, B0c0, B0c1, B0f0, B0f1, B0z, B1c0, B1c1, B1f0, B1f1, B1z, B2c0, B2c1, B2f0, B2f1, B2z]; done)) (by first | assumption | (refine (Below.frozen ?_ B1z).trans B1f1; go_grown; done) | (simp [go_sem, B1f1]; done) | (simp [go_sem, B1f1, B1z]; done) | (simp [go_sem, B0c0, B0c1, B0f0, B0f1, B0z, B1c0, B1c1, B1f0, B1f1, B1z, B2c0, B2c1, B2f0, B2f1, B2z]; done)) (by first | assumption | omega | (simp; done) | (simp; omega))
  have C1 := box2 h3 (w.heap.size + 1 + 1 + 1) (.int .i64 0) (.int .u64 0) (by first | assumption | (refine (Below.cell ?_ B2z).trans B2c0; go_grown; done) | (simp [go_sem, B2c0]; done) | (simp [go_sem, B2c0, B2z]; done) | (simp [go_sem, B0c0, B0c1, B0f0, B0f1, B0z, B1c0, B1c1, B1f0, B1f1, B1z, B2c0, B2c1, B2f0, B2f1, B2z]; done)) (by first | assumption | (refine (Below.cell ?_ B2z).trans B2c1; go_grown; done) | (simp [go_sem, B2c1]; done) | (simp [go_sem, B2c1, B2z]; done) | (simp [go_sem, B0c0, B0c1, B0f0, B0f1, B0z, B1c0, B1c1, B1f0, B1f1, B1z, B2c0, B2c1, B2f0, B2f1, B2z]; done)) (by first | assumption | (refine (Below.frozen ?_ B2z).trans B2f0; go_grown; done) | (simp [go_sem, B2f0]; done) | (simp [go_sem, B2f0, B2z]; done) | (simp [go_sem, B0c0, B0c1, B0f0, B0f1, B0z, B1c0, B1c1, B1f0, B1f1, B1z, B2c0, B2c1, B2f0, B2f1, B2z]; done)) (by first | assumption | (refine (Below.frozen ?_ B2z).trans B2f1; go_grown; done) | (simp [go_sem, B2f1]; done) | (simp [go_sem, B2f1, B2z]; done) | (simp [go_sem, B0c0, B0c1, B0f0, B0f1, B0z, B1c0, B1c1, B1f0, B1f1, B1z, B2c0, B2c1, B2f0, B2f1, B2z]; done)) (by first | assumption | omega | (simp; done) | (simp; omega))
  have C2 := box2 h3 (w2.heap.size) (.int .u64 m0) (.int .u64 m1) (by first | assumption | (simp [go_sem]; done) | (simp [go_sem, B0c0, B0c1, B0f0, B0f1, B0z, B1c0, B1c1, B1f0, B1f1, B1z, B2c0, B2c1, B2f0, B2f1, B2z]; done)) (by first | assumption | (simp [go_sem]; done) | (simp [go_sem, B0c0, B0c1, B0f0, B0f1, B0z, B1c0, B1c1, B1f0, B1f1, B1z, B2c0, B2c1, B2f0, B2f1, B2z]; done)) (by first | assumption | (simp [go_sem]; done) | (simp [go_sem, B0c0, B0c1, B0f0, B0f1, B0z, B1c0, B1c1, B1f0, B1f1, B1z, B2c0, B2c1, B2f0, B2f1, B2z]; done)) (by first | assumption | (simp [go_sem]; done) | (simp [go_sem, B0c0, B0c1, B0f0, B0f1, B0z, B1c0, B1c1, B1f0, B1f1, B1z, B2c0, B2c1, B2f0, B2f1, B2z]; done)) (by first | assumption | omega | (simp; done) | (simp; omega))
  clear B0c0 B0c1 B0f0 B0f1 B0z B1c0 B1c1 B1f0 B1f1 B1z B2c0 B2c1 B2f0 B2f1 B2z
  obtain ⟨C0c0, C0c1, C0f0, C0f1, C0z⟩ := C0
  obtain ⟨C1c0, C1c1, C1f0, C1f1, C1z⟩ := C1
  obtain ⟨C2c0, C2c1, C2f0, C2f1, C2z⟩ := C2
  clear h3 kb B2
  go_wp2_with fail
  refine (kd _).mono ?_
  rintro e w4 ⟨rfl, h4⟩
  have B4 : Below w.heap.size w w4 := Below.trans (by go_grown) (h4.mono (by first | (simp; done) | omega | (simp; omega)))
  have y4 := B4.size
  have D0 := box2 h4 (w.heap.size + 1 + 1) (.int .i64 0) (.int .u64 0) (by first | assumption | (refine (Below.cell ?_ C0z).trans C0c0; go_grown; done) | (simp [go_sem, C0c0]; done) | (simp [go_sem, C0c0, C0z]; done) | (simp [go_sem, C0c0, C0c1, C0f0, C0f1, C0z, C1c0, C1c1, C1f0, C1f1, C1z, C2c0, C2c1, C2f0, C2f1, C2z]; done)) (by first | assumption | (refine (Below.cell ?_ C0z).trans C0c1; go_grown; done) | (simp [go_sem, C0c1]; done) | (simp [go_sem, C0c1, C0z]; done) | (simp [go_sem, C0c0, C0c1, C0f0, C0f1, C0z, C1c0, C1c1, C1f0, C1f1, C1z, C2c0, C2c1, C2f0, C2f1, C2z]; done)) (by first | assumption | (refine (Below.frozen ?_ C0z).trans C0f0; go_grown; done) | (simp [go_sem, C0f0]; done) | (simp [go_sem, C0f0, C0z]; done) | (simp [go_sem, C0c0, C0c1, C0f0, C0f1, C0z, C1c0, C1c1, C1f0, C1f1, C1z, C2c0, C2c1, C2f0, C2f1, C2z]; done)) (by first | assumption | (refine (Below.frozen ?_ C0z).trans C0f1; go_grown; done) | (simp [go_sem, C0f1]; done) | (simp [go_sem, C0f1, C0z]; done) | (simp [go_sem, C0c0, C0c1, C0f0, C0f1, C0z, C1c0, C1c1, C1f0, C1f1, C1z, C2c0, C2c1, C2f0, C2f1, C2z]; done)) (by first | assumption | omega | (simp; done) | (simp; omega))
  have D1 := box2 h4 (w.heap.size + 1 + 1 + 1) (.int .i64 0) (.int .u64 0) (by first | assumption | (refine (Below.cell ?_ C1z).trans C1c0; go_grown; done) | (simp [go_sem, C1c0]; done) | (simp [go_sem, C1c0, C1z]; done) | (simp [go_sem, C0c0, C0c1, C0f0, C0f1, C0z, C1c0, C1c1, C1f0, C1f1, C1z, C2c0, C2c1, C2f0, C2f1, C2z]; done)) (by first | assumption | (refine (Below.cell ?_ C1z).trans C1c1; go_grown; done) | (simp [go_sem, C1c1]; done) | (simp [go_sem, C1c1, C1z]; done) | (simp [go_sem, C0c0, C0c1, C0f0, C0f1, C0z, C1c0, C1c1, C1f0, C1f1, C1z, C2c0, C2c1, C2f0, C2f1, C2z]; done)) (by first | assumption | (refine (Below.frozen ?_ C1z).trans C1f0; go_grown; done) | (simp [go_sem, C1f0]; done) | (simp [go_sem, C1f0, C1z]; done) | (simp [go_sem, C0c0, C0c1, C0f0, C0f1, C0z, C1c0, C1c1, C1f0, C1f1, C1z, C2c0, C2c1, C2f0, C2f1, C2z]; done)) (by first | assumption | (refine (Below.frozen ?_ C1z).trans C1f1; go_grown; done) | (simp [go_sem, C1f1]; done) | (simp [go_sem, C1f1, C1z]; done) | (simp [go_sem, C0c0, C0c1, C0f0, C0f1, C0z, C1c0, C1c1, C1f0, C1f1, C1z, C2c0, C2c1, C2f0, C2f1, C2z]; done)) (by first | assumption | omega | (simp; done) | (simp; omega))
  clear C0c0 C0c1 C0f0 C0f1 C0z C1c0 C1c1 C1f0 C1f1 C1z C2c0 C2c1 C2f0 C2f1 C2z
  obtain ⟨D0c0, D0c1, D0f0, D0f1, D0z⟩ := D0
  obtain ⟨D1c0, D1c1, D1f0, D1f1, D1z⟩ := D1
  clear h4 kd B3
  go_wp2_with fail
  refine (kq _).mono ?_
  rintro e w5 ⟨rfl, h5⟩
  have B5 : Below w.heap.size w w5 := Below.trans (by go_grown) (h5.mono (by first | (simp; done) | omega | (simp; omega)))
  have y5 := B5.size
  have E0 := box2 h5 (w.heap.size + 1 + 1) (.int .i64 0) (.int .u64 0) (by first | assumption | (refine (Below.cell ?_ D0z).trans D0c0; go_grown; done) | (simp [go_sem, D0c0]; done) | (simp [go_sem, D0c0, D0z]; done) | (simp [go_sem, D0c0, D0c1, D0f0, D0f1, D0z, D1c0, D1c1, D1f0, D1f1, D1z]; done)) (by first | assumption | (refine (Below.cell ?_ D0z).trans D0c1; go_grown; done) | (simp [go_sem, D0c1]; done) | (simp [go_sem, D0c1, D0z]; done) | (simp [go_sem, D0c0, D0c1, D0f0, D0f1, D0z, D1c0, D1c1, D1f0, D1f1, D1z]; done)) (by first | assumption | (refine (Below.frozen ?_ D0z).trans D0f0; go_grown; done) | (simp [go_sem, D0f0]; done) | (simp [go_sem, D0f0, D0z]; done) | (simp [go_sem, D0c0, D0c1, D0f0, D0f1, D0z, D1c0, D1c1, D1f0, D1f1, D1z]; done)) (by first | assumption | (refine (Below.frozen ?_ D0z).trans D0f1; go_grown; done) | (simp [go_sem, D0f1]; done) | (simp [go_sem, D0f1, D0z]; done) | (simp [go_sem, D0c0, D0c1, D0f0, D0f1, D0z, D1c0, D1c1, D1f0, D1f1, D1z]; done)) (by first | assumption | omega | (simp; done) | (simp; omega))
  have E1 := box2 h5 (w.heap.size + 1 + 1 + 1) (.int .i64 0) (.int .u64 0) (by first | assumption | (refine (Below.cell ?_ D1z).trans D1c0; go_grown; done) | (simp [go_sem, D1c0]; done) | (simp [go_sem, D1c0, D1z]; done) | (simp [go_sem, D0c0, D0c1, D0f0, D0f1, D0z, D1c0, D1c1, D1f0, D1f1, D1z]; done)) (by first | assumption | (refine (Below.cell ?_ D1z).trans D1c1; go_grown; done) | (simp [go_sem, D1c1]; done) | (simp [go_sem, D1c1, D1z]; done) | (simp [go_sem, D0c0, D0c1, D0f0, D0f1, D0z, D1c0, D1c1, D1f0, D1f1, D1z]; done)) (by first | assumption | (refine (Below.frozen ?_ D1z).trans D1f0; go_grown; done) | (simp [go_sem, D1f0]; done) | (simp [go_sem, D1f0, D1z]; done) | (simp [go_sem, D0c0, D0c1, D0f0, D0f1, D0z, D1c0, D1c1, D1f0, D1f1, D1z]; done)) (by first | assumption | (refine (Below.frozen ?_ D1z).trans D1f1; go_grown; done) | (simp [go_sem, D1f1]; done) | (simp [go_sem, D1f1, D1z]; done) | (simp [go_sem, D0c0, D0c1, D0f0, D0f1, D0z, D1c0, D1c1, D1f0, D1f1, D1z]; done)) (by first | assumption | omega | (simp; done) | (simp; omega))
  have E2 := box2 h5 (w4.heap.size + 1) (.int .u64 l0) (.int .u64 l1) (by first | assumption | (simp [go_sem]; done) | (simp [go_sem, D0c0, D0c1, D0f0, D0f1, D0z, D1c0, D1c1, D1f0, D1f1, D1z]; done)) (by first | assumption | (simp [go_sem]; done) | (simp [go_sem, D0c0, D0c1, D0f0, D0f1, D0z, D1c0, D1c1, D1f0, D1f1, D1z]; done)) (by first | assumption | (simp [go_sem]; done) | (simp [go_sem, D0c0, D0c1, D0f0, D0f1, D0z, D1c0, D1c1, D1f0, D1f1, D1z]; done)) (by first | assumption | (simp [go_sem]; done) | (simp [go_sem, D0c0, D0c1, D0f0, D0f1, D0z, D1c0, D1c1, D1f0, D1f1, D1z]; done)) (by first | assumption | omega | (simp; done) | (simp; omega))
  clear D0c0 D0c1 D0f0 D0f1 D0z D1c0 D1c1 D1f0 D1f1 D1z
  obtain ⟨E0c0, E0c1, E0f0, E0f1, E0z⟩ := E0
  obtain ⟨E1c0, E1c1, E1f0, E1f1, E1z⟩ := E1
  obtain ⟨E2c0, E2c1, E2f0, E2f1, E2z⟩ := E2
  clear h5 kq B4
  go_wp2_with fail
  refine bodyPost_ret (by simp [results, Try.results32, go_sem, E0c0, E0c1, E0z, E1c0, E1c1, E1z]; try rfl) rfl ?_
  exact ⟨rfl, by go_grown⟩
set_option maxHeartbeats 8000000 in
theorem quo_fits (a1 a0 b1 b0 s m1 m0 n1 n0 q1 q0 l1 l0 s1 s0 r1 r0 : Int) (na nb : Bool) (z : (s == 0) = false)
    (ks : ∀ w, Calls Try.prog 23 #[.agg #[.int .i64 b1, .int .u64 b0]] w fun e w' => e = .returned (.int .i64 s) ∧ Below w.heap.size w w')
    (ka : ∀ w, Calls Try.prog 48 #[.agg #[.int .i64 a1, .int .u64 a0]] w fun e w' => e = .returned (.tuple #[.bool na, .agg #[.int .u64 m0, .int .u64 m1]]) ∧ Below w.heap.size w w')
    (kb : ∀ w, Calls Try.prog 48 #[.agg #[.int .i64 b1, .int .u64 b0]] w fun e w' => e = .returned (.tuple #[.bool nb, .agg #[.int .u64 n0, .int .u64 n1]]) ∧ Below w.heap.size w w')
    (kd : ∀ w, Calls Try.prog 52 #[.agg #[.int .u64 m0, .int .u64 m1], .agg #[.int .u64 n0, .int .u64 n1]] w fun e w' => e = .returned (.tuple #[.agg #[.int .u64 q0, .int .u64 q1], .agg #[.int .u64 l0, .int .u64 l1]]) ∧ Below w.heap.size w w')
    (kq : ∀ w, Calls Try.prog 50 #[.bool (na != nb), .agg #[.int .u64 q0, .int .u64 q1]] w fun e w' => e = .returned (.tuple #[.agg #[.int .i64 s1, .int .u64 s0], .int .i64 0]) ∧ Below w.heap.size w w')
    (kr : ∀ w, Calls Try.prog 50 #[.bool na, .agg #[.int .u64 l0, .int .u64 l1]] w fun e w' => e = .returned (.tuple #[.agg #[.int .i64 r1, .int .u64 r0], .int .i64 0]) ∧ Below w.heap.size w w')
    (w : World) : Calls Try.prog 32 #[.agg #[.int .i64 a1, .int .u64 a0], .agg #[.int .i64 b1, .int .u64 b0]] w fun e w' => e = .returned (.tuple #[.agg #[.int .i64 s1, .int .u64 s0], .agg #[.int .i64 r1, .int .u64 r0], .int .i64 0]) ∧ Below w.heap.size w w' := by
  go_enter Try.func32, Try.ntmps32
  go_wp2_with fail
  refine (ks _).mono ?_
  rintro e w1 ⟨rfl, h1⟩
  have B1 : Below w.heap.size w w1 := Below.trans (by go_grown) (h1.mono (by first | (simp; done) | omega | (simp; omega)))
  have y1 := B1.size
  have A0 := box2 h1 (w.heap.size) (.int .i64 a1) (.int .u64 a0) (by first | assumption | (simp [go_sem]; done) | (simp [go_sem]; done)) (by first | assumption | (simp [go_sem]; done) | (simp [go_sem]; done)) (by first | assumption | (simp [go_sem]; done) | (simp [go_sem]; done)) (by first | assumption | (simp [go_sem]; done) | (simp [go_sem]; done)) (by first | assumption | omega | (simp; done) | (simp; omega))
  have A1 := box2 h1 (w.heap.size + 1) (.int .i64 b1) (.int .u64 b0) (by first | assumption | (simp [go_sem]; done) | (simp [go_sem]; done)) (by first | assumption | (simp [go_sem]; done) | (simp [go_sem]; done)) (by first | assumption | (simp [go_sem]; done) | (simp [go_sem]; done)) (by first | assumption | (simp [go_sem]; done) | (simp [go_sem]; done)) (by first | assumption | omega | (simp; done) | (simp; omega))
  have A2 := box2 h1 (w.heap.size + 1 + 1) (.int .i64 0) (.int .u64 0) (by first | assumption | (simp [go_sem]; done) | (simp [go_sem]; done)) (by first | assumption | (simp [go_sem]; done) | (simp [go_sem]; done)) (by first | assumption | (simp [go_sem]; done) | (simp [go_sem]; done)) (by first | assumption | (simp [go_sem]; done) | (simp [go_sem]; done)) (by first | assumption | omega | (simp; done) | (simp; omega))
  have A3 := box2 h1 (w.heap.size + 1 + 1 + 1) (.int .i64 0) (.int .u64 0) (by first | assumption | (simp [go_sem]; done) | (simp [go_sem]; done)) (by first | assumption | (simp [go_sem]; done) | (simp [go_sem]; done)) (by first | assumption | (simp [go_sem]; done) | (simp [go_sem]; done)) (by first | assumption | (simp [go_sem]; done) | (simp [go_sem]; done)) (by first | assumption | omega | (simp; done) | (simp; omega))
  obtain ⟨A0c0, A0c1, A0f0, A0f1, A0z⟩ := A0
  obtain ⟨A1c0, A1c1, A1f0, A1f1, A1z⟩ := A1
  obtain ⟨A2c0, A2c1, A2f0, A2f1, A2z⟩ := A2
  obtain ⟨A3c0, A3c1, A3f0, A3f1, A3z⟩ := A3
  clear h1 ks
  go_wp2_with fail
  refine (ka _).mono ?_
  rintro e w2 ⟨rfl, h2⟩
  have B2 : Below w.heap.size w w2 := Below.trans (by go_grown) (h2.mono (by first | (simp; done) | omega | (simp; omega)))
  have y2 := B2.size
  have B0 := box2 h2 (w.heap.size + 1) (.int .i64 b1) (.int .u64 b0) (by first | assumption | (refine (Below.cell ?_ A1z).trans A1c0; go_grown; done) | (simp [go_sem, A1c0]; done) | (simp [go_sem, A1c0, A1z]; done) | (simp [go_sem, A0c0, A0c1, A0f0, A0f1, A0z, A1c0, A1c1, A1f0, A1f1, A1z, A2c0, A2c1, A2f0, A2f1, A2z, A3c0, A3c1, A3f0, A3f1, A3z]; done)) (by first | assumption | (refine (Below.cell ?_ A1z).trans A1c1; go_grown; done) | (simp [go_sem, A1c1]; done) | (simp [go_sem, A1c1, A1z]; done) | (simp [go_sem, A0c0, A0c1, A0f0, A0f1, A0z, A1c0, A1c1, A1f0, A1f1, A1z, A2c0, A2c1, A2f0, A2f1, A2z, A3c0, A3c1, A3f0, A3f1, A3z]; done)) (by first | assumption | (refine (Below.frozen ?_ A1z).trans A1f0; go_grown; done) | (simp [go_sem, A1f0]; done) | (simp [go_sem, A1f0, A1z]; done) | (simp [go_sem, A0c0, A0c1, A0f0, A0f1, A0z, A1c0, A1c1, A1f0, A1f1, A1z, A2c0, A2c1, A2f0, A2f1, A2z, A3c0, A3c1, A3f0, A3f1, A3z]; done)) (by first | assumption | (refine (Below.frozen ?_ A1z).trans A1f1; go_grown; done) | (simp [go_sem, A1f1]; done) | (simp [go_sem, A1f1, A1z]; done) | (simp [go_sem, A0c0, A0c1, A0f0, A0f1, A0z, A1c0, A1c1, A1f0, A1f1, A1z, A2c0, A2c1, A2f0, A2f1, A2z, A3c0, A3c1, A3f0, A3f1, A3z]; done)) (by first | assumption | omega | (simp; done) | (simp; omega))
  have B1 := box2 h2 (w.heap.size + 1 + 1) (.int .i64 0) (.int .u64 0) (by first | assumption | (refine (Below.cell ?_ A2z).trans A2c0; go_grown; done) | (simp [go_sem, A2c0]; done) | (simp [go_sem, A2c0, A2z]; done) | (simp [go_sem, A0c0, A0c1, A0f0, A0f1, A0z, A1c0, A1c1, A1f0, A1f1, A1z, A2c0, A2c1, A2f0, A2f1, A2z, A3c0, A3c1, A3f0, A3f1, A3z]; done)) (by first | assumption | (refine (Below.cell ?_ A2z).trans A2c1; go_grown; done) | (simp [go_sem, A2c1]; done) | (simp [go_sem, A2c1, A2z]; done) | (simp [go_sem, A0c0, A0c1, A0f0, A0f1, A0z, A1c0, A1c1, A1f0, A1f1, A1z, A2c0, A2c1, A2f0, A2f1, A2z, A3c0, A3c1, A3f0, A3f1, A3z]; done)) (by first | assumption | (refine (Below.frozen ?_ A2z).trans A2f0; go_grown; done) | (simp [go_sem, A2f0]; done) | (simp [go_sem, A2f0, A2z]; done) | (simp [go_sem, A0c0, A0c1, A0f0, A0f1, A0z, A1c0, A1c1, A1f0, A1f1, A1z, A2c0, A2c1, A2f0, A2f1, A2z, A3c0, A3c1, A3f0, A3f1, A3z]; done)) (by first | assumption | (refine (Below.frozen ?_ A2z).trans A2f1; go_grown; done) | (simp [go_sem, A2f1]; done) | (simp [go_sem, A2f1, A2z]; done) | (simp [go_sem, A0c0, A0c1, A0f0, A0f1, A0z, A1c0, A1c1, A1f0, A1f1, A1z, A2c0, A2c1, A2f0, A2f1, A2z, A3c0, A3c1, A3f0, A3f1, A3z]; done)) (by first | assumption | omega | (simp; done) | (simp; omega))
  have B2 := box2 h2 (w.heap.size + 1 + 1 + 1) (.int .i64 0) (.int .u64 0) (by first | assumption | (refine (Below.cell ?_ A3z).trans A3c0; go_grown; done) | (simp [go_sem, A3c0]; done) | (simp [go_sem, A3c0, A3z]; done) | (simp [go_sem, A0c0, A0c1, A0f0, A0f1, A0z, A1c0, A1c1, A1f0, A1f1, A1z, A2c0, A2c1, A2f0, A2f1, A2z, A3c0, A3c1, A3f0, A3f1, A3z]; done)) (by first | assumption | (refine (Below.cell ?_ A3z).trans A3c1; go_grown; done) | (simp [go_sem, A3c1]; done) | (simp [go_sem, A3c1, A3z]; done) | (simp [go_sem, A0c0, A0c1, A0f0, A0f1, A0z, A1c0, A1c1, A1f0, A1f1, A1z, A2c0, A2c1, A2f0, A2f1, A2z, A3c0, A3c1, A3f0, A3f1, A3z]; done)) (by first | assumption | (refine (Below.frozen ?_ A3z).trans A3f0; go_grown; done) | (simp [go_sem, A3f0]; done) | (simp [go_sem, A3f0, A3z]; done) | (simp [go_sem, A0c0, A0c1, A0f0, A0f1, A0z, A1c0, A1c1, A1f0, A1f1, A1z, A2c0, A2c1, A2f0, A2f1, A2z, A3c0, A3c1, A3f0, A3f1, A3z]; done)) (by first | assumption | (refine (Below.frozen ?_ A3z).trans A3f1; go_grown; done) | (simp [go_sem, A3f1]; done) | (simp [go_sem, A3f1, A3z]; done) | (simp [go_sem, A0c0, A0c1, A0f0, A0f1, A0z, A1c0, A1c1, A1f0, A1f1, A1z, A2c0, A2c1, A2f0, A2f1, A2z, A3c0, A3c1, A3f0, A3f1, A3z]; done)) (by first | assumption | omega | (simp; done) | (simp; omega))
  clear A0c0 A0c1 A0f0 A0f1 A0z A1c0 A1c1 A1f0 A1f1 A1z A2c0 A2c1 A2f0 A2f1 A2z A3c0 A3c1 A3f0 A3f1 A3z
  obtain ⟨B0c0, B0c1, B0f0, B0f1, B0z⟩ := B0
  obtain ⟨B1c0, B1c1, B1f0, B1f1, B1z⟩ := B1
  obtain ⟨B2c0, B2c1, B2f0, B2f1, B2z⟩ := B2
  clear h2 ka B1
  go_wp2_with fail
  refine (kb _).mono ?_
  rintro e w3 ⟨rfl, h3⟩
  have B3 : Below w.heap.size w w3 := Below.trans (by go_grown) (h3.mono (by first | (simp; done) | omega | (simp; omega)))
  have y3 := B3.size
  have C0 := box2 h3 (w.heap.size + 1 + 1) (.int .i64 0) (.int .u64 0) (by first | assumption | (refine (Below.cell ?_ B1z).trans B1c0; go_grown; done) | (simp [go_sem, B1c0]; done) | (simp [go_sem, B1c0, B1z]; done) | (simp [go_sem, B0c0, B0c1, B0f0, B0f1, B0z, B1c0, B1c1, B1f0, B1f1, B1z, B2c0, B2c1, B2f0, B2f1, B2z]; done)) (by first | assumption | (refine (Below.cell ?_ B1z).trans B1c1; go_grown; done) | (simp [go_sem, B1c1]; done) | (simp [go_sem, B1c1, B1z]; done) | (simp [go_sem, B0c0, B0c1, B0f0, B0f1, B0z, B1c0, B1c1, B1f0, B1f1, B1z, B2c0, B2c1, B2f0, B2f1, B2z]; done)) (by first | assumption | (refine (Below.frozen ?_ B1z).trans B1f0; go_grown; done) | (simp [go_sem, B1f0]; done) | (simp [go_sem, B1f0, B1z]; done) | (simp [go_sem, B0c0, B0c1, B0f0, B0f1, B0z, B1c0, B1c1, B1f0, B1f1, B1z, B2c0, B2c1, B2f0, B2f1, B2z]; done)) (by first | assumption | (refine (Below.frozen ?_ B1z).trans B1f1; go_grown; done) | (simp [go_sem, B1f1]; done) | (simp [go_sem, B1f1, B1z]; done) | (simp [go_sem, B0c0, B0c1, B0f0, B0f1, B0z, B1c0, B1c1, B1f0, B1f1, B1z, B2c0, B2c1, B2f0, B2f1, B2z]; done)) (by first | assumption | omega | (simp; done) | (simp; omega))
  have C1 := box2 h3 (w.heap.size + 1 + 1 + 1) (.int .i64 0) (.int .u64 0) (by first | assumption | (refine (Below.cell ?_ B2z).trans B2c0; go_grown; done) | (simp [go_sem, B2c0]; done) | (simp [go_sem, B2c0, B2z]; done) | (simp [go_sem, B0c0, B0c1, B0f0, B0f1, B0z, B1c0, B1c1, B1f0, B1f1, B1z, B2c0, B2c1, B2f0, B2f1, B2z]; done)) (by first | assumption | (refine (Below.cell ?_ B2z).trans B2c1; go_grown; done) | (simp [go_sem, B2c1]; done) | (simp [go_sem, B2c1, B2z]; done) | (simp [go_sem, B0c0, B0c1, B0f0, B0f1, B0z, B1c0, B1c1, B1f0, B1f1, B1z, B2c0, B2c1, B2f0, B2f1, B2z]; done)) (by first | assumption | (refine (Below.frozen ?_ B2z).trans B2f0; go_grown; done) | (simp [go_sem, B2f0]; done) | (simp [go_sem, B2f0, B2z]; done) | (simp [go_sem, B0c0, B0c1, B0f0, B0f1, B0z, B1c0, B1c1, B1f0, B1f1, B1z, B2c0, B2c1, B2f0, B2f1, B2z]; done)) (by first | assumption | (refine (Below.frozen ?_ B2z).trans B2f1; go_grown; done) | (simp [go_sem, B2f1]; done) | (simp [go_sem, B2f1, B2z]; done) | (simp [go_sem, B0c0, B0c1, B0f0, B0f1, B0z, B1c0, B1c1, B1f0, B1f1, B1z, B2c0, B2c1, B2f0, B2f1, B2z]; done)) (by first | assumption | omega | (simp; done) | (simp; omega))
  have C2 := box2 h3 (w2.heap.size) (.int .u64 m0) (.int .u64 m1) (by first | assumption | (simp [go_sem]; done) | (simp [go_sem, B0c0, B0c1, B0f0, B0f1, B0z, B1c0, B1c1, B1f0, B1f1, B1z, B2c0, B2c1, B2f0, B2f1, B2z]; done)) (by first | assumption | (simp [go_sem]; done) | (simp [go_sem, B0c0, B0c1, B0f0, B0f1, B0z, B1c0, B1c1, B1f0, B1f1, B1z, B2c0, B2c1, B2f0, B2f1, B2z]; done)) (by first | assumption | (simp [go_sem]; done) | (simp [go_sem, B0c0, B0c1, B0f0, B0f1, B0z, B1c0, B1c1, B1f0, B1f1, B1z, B2c0, B2c1, B2f0, B2f1, B2z]; done)) (by first | assumption | (simp [go_sem]; done) | (simp [go_sem, B0c0, B0c1, B0f0, B0f1, B0z, B1c0, B1c1, B1f0, B1f1, B1z, B2c0, B2c1, B2f0, B2f1, B2z]; done)) (by first | assumption | omega | (simp; done) | (simp; omega))
  clear B0c0 B0c1 B0f0 B0f1 B0z B1c0 B1c1 B1f0 B1f1 B1z B2c0 B2c1 B2f0 B2f1 B2z
  obtain ⟨C0c0, C0c1, C0f0, C0f1, C0z⟩ := C0
  obtain ⟨C1c0, C1c1, C1f0, C1f1, C1z⟩ := C1
  obtain ⟨C2c0, C2c1, C2f0, C2f1, C2z⟩ := C2
  clear h3 kb B2
  go_wp2_with fail
  refine (kd _).mono ?_
  rintro e w4 ⟨rfl, h4⟩
  have B4 : Below w.heap.size w w4 := Below.trans (by go_grown) (h4.mono (by first | (simp; done) | omega | (simp; omega)))
  have y4 := B4.size
  have D0 := box2 h4 (w.heap.size + 1 + 1) (.int .i64 0) (.int .u64 0) (by first | assumption | (refine (Below.cell ?_ C0z).trans C0c0; go_grown; done) | (simp [go_sem, C0c0]; done) | (simp [go_sem, C0c0, C0z]; done) | (simp [go_sem, C0c0, C0c1, C0f0, C0f1, C0z, C1c0, C1c1, C1f0, C1f1, C1z, C2c0, C2c1, C2f0, C2f1, C2z]; done)) (by first | assumption | (refine (Below.cell ?_ C0z).trans C0c1; go_grown; done) | (simp [go_sem, C0c1]; done) | (simp [go_sem, C0c1, C0z]; done) | (simp [go_sem, C0c0, C0c1, C0f0, C0f1, C0z, C1c0, C1c1, C1f0, C1f1, C1z, C2c0, C2c1, C2f0, C2f1, C2z]; done)) (by first | assumption | (refine (Below.frozen ?_ C0z).trans C0f0; go_grown; done) | (simp [go_sem, C0f0]; done) | (simp [go_sem, C0f0, C0z]; done) | (simp [go_sem, C0c0, C0c1, C0f0, C0f1, C0z, C1c0, C1c1, C1f0, C1f1, C1z, C2c0, C2c1, C2f0, C2f1, C2z]; done)) (by first | assumption | (refine (Below.frozen ?_ C0z).trans C0f1; go_grown; done) | (simp [go_sem, C0f1]; done) | (simp [go_sem, C0f1, C0z]; done) | (simp [go_sem, C0c0, C0c1, C0f0, C0f1, C0z, C1c0, C1c1, C1f0, C1f1, C1z, C2c0, C2c1, C2f0, C2f1, C2z]; done)) (by first | assumption | omega | (simp; done) | (simp; omega))
  have D1 := box2 h4 (w.heap.size + 1 + 1 + 1) (.int .i64 0) (.int .u64 0) (by first | assumption | (refine (Below.cell ?_ C1z).trans C1c0; go_grown; done) | (simp [go_sem, C1c0]; done) | (simp [go_sem, C1c0, C1z]; done) | (simp [go_sem, C0c0, C0c1, C0f0, C0f1, C0z, C1c0, C1c1, C1f0, C1f1, C1z, C2c0, C2c1, C2f0, C2f1, C2z]; done)) (by first | assumption | (refine (Below.cell ?_ C1z).trans C1c1; go_grown; done) | (simp [go_sem, C1c1]; done) | (simp [go_sem, C1c1, C1z]; done) | (simp [go_sem, C0c0, C0c1, C0f0, C0f1, C0z, C1c0, C1c1, C1f0, C1f1, C1z, C2c0, C2c1, C2f0, C2f1, C2z]; done)) (by first | assumption | (refine (Below.frozen ?_ C1z).trans C1f0; go_grown; done) | (simp [go_sem, C1f0]; done) | (simp [go_sem, C1f0, C1z]; done) | (simp [go_sem, C0c0, C0c1, C0f0, C0f1, C0z, C1c0, C1c1, C1f0, C1f1, C1z, C2c0, C2c1, C2f0, C2f1, C2z]; done)) (by first | assumption | (refine (Below.frozen ?_ C1z).trans C1f1; go_grown; done) | (simp [go_sem, C1f1]; done) | (simp [go_sem, C1f1, C1z]; done) | (simp [go_sem, C0c0, C0c1, C0f0, C0f1, C0z, C1c0, C1c1, C1f0, C1f1, C1z, C2c0, C2c1, C2f0, C2f1, C2z]; done)) (by first | assumption | omega | (simp; done) | (simp; omega))
  clear C0c0 C0c1 C0f0 C0f1 C0z C1c0 C1c1 C1f0 C1f1 C1z C2c0 C2c1 C2f0 C2f1 C2z
  obtain ⟨D0c0, D0c1, D0f0, D0f1, D0z⟩ := D0
  obtain ⟨D1c0, D1c1, D1f0, D1f1, D1z⟩ := D1
  clear h4 kd B3
  go_wp2_with fail
  refine (kq _).mono ?_
  rintro e w5 ⟨rfl, h5⟩
  have B5 : Below w.heap.size w w5 := Below.trans (by go_grown) (h5.mono (by first | (simp; done) | omega | (simp; omega)))
  have y5 := B5.size
  have E0 := box2 h5 (w.heap.size + 1 + 1) (.int .i64 0) (.int .u64 0) (by first | assumption | (refine (Below.cell ?_ D0z).trans D0c0; go_grown; done) | (simp [go_sem, D0c0]; done) | (simp [go_sem, D0c0, D0z]; done) | (simp [go_sem, D0c0, D0c1, D0f0, D0f1, D0z, D1c0, D1c1, D1f0, D1f1, D1z]; done)) (by first | assumption | (refine (Below.cell ?_ D0z).trans D0c1; go_grown; done) | (simp [go_sem, D0c1]; done) | (simp [go_sem, D0c1, D0z]; done) | (simp [go_sem, D0c0, D0c1, D0f0, D0f1, D0z, D1c0, D1c1, D1f0, D1f1, D1z]; done)) (by first | assumption | (refine (Below.frozen ?_ D0z).trans D0f0; go_grown; done) | (simp [go_sem, D0f0]; done) | (simp [go_sem, D0f0, D0z]; done) | (simp [go_sem, D0c0, D0c1, D0f0, D0f1, D0z, D1c0, D1c1, D1f0, D1f1, D1z]; done)) (by first | assumption | (refine (Below.frozen ?_ D0z).trans D0f1; go_grown; done) | (simp [go_sem, D0f1]; done) | (simp [go_sem, D0f1, D0z]; done) | (simp [go_sem, D0c0, D0c1, D0f0, D0f1, D0z, D1c0, D1c1, D1f0, D1f1, D1z]; done)) (by first | assumption | omega | (simp; done) | (simp; omega))
  have E1 := box2 h5 (w.heap.size + 1 + 1 + 1) (.int .i64 0) (.int .u64 0) (by first | assumption | (refine (Below.cell ?_ D1z).trans D1c0; go_grown; done) | (simp [go_sem, D1c0]; done) | (simp [go_sem, D1c0, D1z]; done) | (simp [go_sem, D0c0, D0c1, D0f0, D0f1, D0z, D1c0, D1c1, D1f0, D1f1, D1z]; done)) (by first | assumption | (refine (Below.cell ?_ D1z).trans D1c1; go_grown; done) | (simp [go_sem, D1c1]; done) | (simp [go_sem, D1c1, D1z]; done) | (simp [go_sem, D0c0, D0c1, D0f0, D0f1, D0z, D1c0, D1c1, D1f0, D1f1, D1z]; done)) (by first | assumption | (refine (Below.frozen ?_ D1z).trans D1f0; go_grown; done) | (simp [go_sem, D1f0]; done) | (simp [go_sem, D1f0, D1z]; done) | (simp [go_sem, D0c0, D0c1, D0f0, D0f1, D0z, D1c0, D1c1, D1f0, D1f1, D1z]; done)) (by first | assumption | (refine (Below.frozen ?_ D1z).trans D1f1; go_grown; done) | (simp [go_sem, D1f1]; done) | (simp [go_sem, D1f1, D1z]; done) | (simp [go_sem, D0c0, D0c1, D0f0, D0f1, D0z, D1c0, D1c1, D1f0, D1f1, D1z]; done)) (by first | assumption | omega | (simp; done) | (simp; omega))
  have E2 := box2 h5 (w4.heap.size + 1) (.int .u64 l0) (.int .u64 l1) (by first | assumption | (simp [go_sem]; done) | (simp [go_sem, D0c0, D0c1, D0f0, D0f1, D0z, D1c0, D1c1, D1f0, D1f1, D1z]; done)) (by first | assumption | (simp [go_sem]; done) | (simp [go_sem, D0c0, D0c1, D0f0, D0f1, D0z, D1c0, D1c1, D1f0, D1f1, D1z]; done)) (by first | assumption | (simp [go_sem]; done) | (simp [go_sem, D0c0, D0c1, D0f0, D0f1, D0z, D1c0, D1c1, D1f0, D1f1, D1z]; done)) (by first | assumption | (simp [go_sem]; done) | (simp [go_sem, D0c0, D0c1, D0f0, D0f1, D0z, D1c0, D1c1, D1f0, D1f1, D1z]; done)) (by first | assumption | omega | (simp; done) | (simp; omega))
  clear D0c0 D0c1 D0f0 D0f1 D0z D1c0 D1c1 D1f0 D1f1 D1z
  obtain ⟨E0c0, E0c1, E0f0, E0f1, E0z⟩ := E0
  obtain ⟨E1c0, E1c1, E1f0, E1f1, E1z⟩ := E1
  obtain ⟨E2c0, E2c1, E2f0, E2f1, E2z⟩ := E2
  clear h5 kq B4
  have ne1 : ¬ w.heap.size + 1 + 1 = w5.heap.size := by omega
  have ne2 : ¬ w.heap.size + 1 + 1 + 1 = w5.heap.size := by omega
  have ne3 : ¬ w5.heap.size = w.heap.size + 1 + 1 := by omega
  have ne4 : ¬ w5.heap.size = w.heap.size + 1 + 1 + 1 := by omega
  go_wp2_with fail
  refine (kr _).mono ?_
  rintro e w6 ⟨rfl, h6⟩
  have B6 : Below w.heap.size w w6 := Below.trans (by go_grown) (h6.mono (by first | (simp; done) | omega | (simp; omega)))
  have y6 := B6.size
  have F0 := box2 h6 (w.heap.size + 1 + 1) (.int .i64 0) (.int .u64 0) (by first | assumption | (refine (Below.cell ?_ E0z).trans E0c0; go_grown; done) | (simp [go_sem, E0c0]; done) | (simp [go_sem, E0c0, E0z]; done) | (simp [go_sem, E0c0, E0c1, E0f0, E0f1, E0z, E1c0, E1c1, E1f0, E1f1, E1z, E2c0, E2c1, E2f0, E2f1, E2z]; done)) (by first | assumption | (refine (Below.cell ?_ E0z).trans E0c1; go_grown; done) | (simp [go_sem, E0c1]; done) | (simp [go_sem, E0c1, E0z]; done) | (simp [go_sem, E0c0, E0c1, E0f0, E0f1, E0z, E1c0, E1c1, E1f0, E1f1, E1z, E2c0, E2c1, E2f0, E2f1, E2z]; done)) (by first | assumption | (refine (Below.frozen ?_ E0z).trans E0f0; go_grown; done) | (simp [go_sem, E0f0]; done) | (simp [go_sem, E0f0, E0z]; done) | (simp [go_sem, E0c0, E0c1, E0f0, E0f1, E0z, E1c0, E1c1, E1f0, E1f1, E1z, E2c0, E2c1, E2f0, E2f1, E2z]; done)) (by first | assumption | (refine (Below.frozen ?_ E0z).trans E0f1; go_grown; done) | (simp [go_sem, E0f1]; done) | (simp [go_sem, E0f1, E0z]; done) | (simp [go_sem, E0c0, E0c1, E0f0, E0f1, E0z, E1c0, E1c1, E1f0, E1f1, E1z, E2c0, E2c1, E2f0, E2f1, E2z]; done)) (by first | assumption | omega | (simp; done) | (simp; omega))
  have F1 := box2 h6 (w.heap.size + 1 + 1 + 1) (.int .i64 0) (.int .u64 0) (by first | assumption | (refine (Below.cell ?_ E1z).trans E1c0; go_grown; done) | (simp [go_sem, E1c0]; done) | (simp [go_sem, E1c0, E1z]; done) | (simp [go_sem, E0c0, E0c1, E0f0, E0f1, E0z, E1c0, E1c1, E1f0, E1f1, E1z, E2c0, E2c1, E2f0, E2f1, E2z]; done)) (by first | assumption | (refine (Below.cell ?_ E1z).trans E1c1; go_grown; done) | (simp [go_sem, E1c1]; done) | (simp [go_sem, E1c1, E1z]; done) | (simp [go_sem, E0c0, E0c1, E0f0, E0f1, E0z, E1c0, E1c1, E1f0, E1f1, E1z, E2c0, E2c1, E2f0, E2f1, E2z]; done)) (by first | assumption | (refine (Below.frozen ?_ E1z).trans E1f0; go_grown; done) | (simp [go_sem, E1f0]; done) | (simp [go_sem, E1f0, E1z]; done) | (simp [go_sem, E0c0, E0c1, E0f0, E0f1, E0z, E1c0, E1c1, E1f0, E1f1, E1z, E2c0, E2c1, E2f0, E2f1, E2z]; done)) (by first | assumption | (refine (Below.frozen ?_ E1z).trans E1f1; go_grown; done) | (simp [go_sem, E1f1]; done) | (simp [go_sem, E1f1, E1z]; done) | (simp [go_sem, E0c0, E0c1, E0f0, E0f1, E0z, E1c0, E1c1, E1f0, E1f1, E1z, E2c0, E2c1, E2f0, E2f1, E2z]; done)) (by first | assumption | omega | (simp; done) | (simp; omega))
  have F2 := box2 h6 (w5.heap.size) (.int .i64 s1) (.int .u64 s0) (by first | assumption | (simp [go_sem]; done) | (simp [go_sem, E0c0, E0c1, E0f0, E0f1, E0z, E1c0, E1c1, E1f0, E1f1, E1z, E2c0, E2c1, E2f0, E2f1, E2z]; done)) (by first | assumption | (simp [go_sem]; done) | (simp [go_sem, E0c0, E0c1, E0f0, E0f1, E0z, E1c0, E1c1, E1f0, E1f1, E1z, E2c0, E2c1, E2f0, E2f1, E2z]; done)) (by first | assumption | (simp [go_sem]; done) | (simp [go_sem, E0c0, E0c1, E0f0, E0f1, E0z, E1c0, E1c1, E1f0, E1f1, E1z, E2c0, E2c1, E2f0, E2f1, E2z]; done)) (by first | assumption | (simp [go_sem]; done) | (simp [go_sem, E0c0, E0c1, E0f0, E0f1, E0z, E1c0, E1c1, E1f0, E1f1, E1z, E2c0, E2c1, E2f0, E2f1, E2z]; done)) (by first | assumption | omega | (simp; done) | (simp; omega))
  clear E0c0 E0c1 E0f0 E0f1 E0z E1c0 E1c1 E1f0 E1f1 E1z E2c0 E2c1 E2f0 E2f1 E2z
  obtain ⟨F0c0, F0c1, F0f0, F0f1, F0z⟩ := F0
  obtain ⟨F1c0, F1c1, F1f0, F1f1, F1z⟩ := F1
  obtain ⟨F2c0, F2c1, F2f0, F2f1, F2z⟩ := F2
  clear h6 kr B5
  go_wp2_with fail
  go_region
  all_goals go_wp2
  all_goals
    refine bodyPost_ret (by simp [results, Try.results32, go_sem, F0c0, F0c1, F0z, F1c0, F1c1, F1z]; try rfl) rfl ?_
    exact ⟨rfl, by go_grown⟩
theorem sign_zero {v : Int} : (cmpI v 0 == 0) = decide (v = 0) := by
  rcases cmp_cases v 0 with ⟨h, e⟩ | ⟨h, e⟩ | ⟨h, e⟩ <;> rw [e] <;> simp <;> omega
/-- What Quo answers of a divisor that is not nought. -/
def quoQ (x y : Int) : Int := if Fits (Int.tdiv x y) then Int.tdiv x y else 0
def quoR (x y : Int) : Int := if Fits (Int.tdiv x y) then Int.tmod x y else 0
theorem ab_fits {v : Int} (f : Fits v) : ab v < 340282366920938463463374607431768211456 := by have := ab_le f; omega
theorem quo_none (a1 a0 b1 b0 : Int) (j0 : IsLo b0) (h : V b1 b0 = 0) (w : World) :
    Calls Try.prog 32 #[.agg #[.int .i64 a1, .int .u64 a0], .agg #[.int .i64 b1, .int .u64 b0]] w
      fun e w' => e = .returned (.tuple #[.agg #[.int .i64 0, .int .u64 0], .agg #[.int .i64 0, .int .u64 0], .int .i64 11]) ∧ Below w.heap.size w w' := by
  have ks := sign_spec b1 b0 j0
  rw [cmp_eq h] at ks
  exact quo_zero a1 a0 b1 b0 ks w
theorem quo_spec (a1 a0 b1 b0 : Int) (i : IsW (a1, a0)) (j : IsW (b1, b0)) (h : V b1 b0 ≠ 0) (w : World) :
    Calls Try.prog 32 #[.agg #[.int .i64 a1, .int .u64 a0], .agg #[.int .i64 b1, .int .u64 b0]] w
      fun e w' => e = .returned (.tuple #[.agg #[.int .i64 (hi (quoQ (V a1 a0) (V b1 b0))), .int .u64 (lo (quoQ (V a1 a0) (V b1 b0)))], .agg #[.int .i64 (hi (quoR (V a1 a0) (V b1 b0))), .int .u64 (lo (quoR (V a1 a0) (V b1 b0)))], .int .i64 (resE (Int.tdiv (V a1 a0) (V b1 b0)))]) ∧ Below w.heap.size w w' := by
  have fa : Fits (V a1 a0) := fits_V i.a i.b
  have fb : Fits (V b1 b0) := fits_V j.a j.b
  have ks := sign_spec b1 b0 j.b
  have z : (cmpI (V b1 b0) 0 == 0) = false := by rw [sign_zero]; exact decide_eq_false h
  have ka := amount_spec a1 a0 i.b i.a
  have kb := amount_spec b1 b0 j.b j.a
  have pa := ab_nonneg (V a1 a0)
  have pb := ab_gt0 h
  have kd := divide_spec (hi (ab (V a1 a0))) (lo (ab (V a1 a0))) (hi (ab (V b1 b0))) (lo (ab (V b1 b0))) (lo_ab fa) (isLo_lo _) (lo_ab fb) (isLo_lo _) (by rw [V_hi_lo]; omega)
  rw [V_hi_lo, V_hi_lo] at kd
  have q0 : 0 ≤ ab (V a1 a0) / ab (V b1 b0) := Int.ediv_nonneg pa (by omega)
  have q1 : ab (V a1 a0) / ab (V b1 b0) ≤ ab (V a1 a0) := Int.ediv_le_self _ pa
  have r0 := Int.emod_nonneg (ab (V a1 a0)) (show ab (V b1 b0) ≠ 0 by omega)
  have r1 := Int.emod_lt_of_pos (ab (V a1 a0)) pb
  have ua := ab_fits fa
  have ub := ab_fits fb
  have kq := signed_any (decide (a1 < 0) != decide (b1 < 0)) (hi (ab (V a1 a0) / ab (V b1 b0))) (lo (ab (V a1 a0) / ab (V b1 b0))) ⟨by unfold hi; omega, by unfold hi; omega⟩ (isLo_lo _)
  have kr := signed_any (decide (a1 < 0)) (hi (ab (V a1 a0) % ab (V b1 b0))) (lo (ab (V a1 a0) % ab (V b1 b0))) ⟨by unfold hi; omega, by unfold hi; omega⟩ (isLo_lo _)
  rw [V_hi_lo, neg_hi i, neg_hi j, ← tdiv_sg] at kq
  rw [V_hi_lo, neg_hi i, ← tmod_sg] at kr
  rw [neg_hi i] at ka
  rw [neg_hi j] at kb
  have fr := tmod_fits fa fb h
  unfold sumRes at kq kr
  rw [resV_fits fr, resE_fits fr] at kr
  by_cases f : Fits (Int.tdiv (V a1 a0) (V b1 b0))
  · have e1 : quoQ (V a1 a0) (V b1 b0) = Int.tdiv (V a1 a0) (V b1 b0) := if_pos f
    have e2 : quoR (V a1 a0) (V b1 b0) = Int.tmod (V a1 a0) (V b1 b0) := if_pos f
    rw [resV_fits f, resE_fits f] at kq
    rw [e1, e2, resE_fits f]
    exact quo_fits a1 a0 b1 b0 _ _ _ _ _ _ _ _ _ _ _ _ _ _ _ z ks ka kb kd kq kr w
  · have e1 : quoQ (V a1 a0) (V b1 b0) = 0 := if_neg f
    have e2 : quoR (V a1 a0) (V b1 b0) = 0 := if_neg f
    rw [resE_not f] at kq
    rw [e1, e2, resE_not f]
    exact quo_over a1 a0 b1 b0 _ _ _ _ _ _ _ _ _ _ _ _ _ z ks ka kb kd kq w
end Go.Proofs.Ythcgkpmlfbjagaa
