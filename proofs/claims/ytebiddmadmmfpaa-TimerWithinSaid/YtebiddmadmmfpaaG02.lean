/- Texts that belong together: Quo Wrootm Wroot Tmean Tdev Limb Limbb Lw Limbc Ladd Lsub Lcmp Lnum Lmul Wxor Lfrom Lword Laddn Lto Lwrap Walive Lawmuls. -/
import Derived.Test.YtebiddmadmmfpaaG01
import Derived.Laws.BitsAllLaws
import Derived.Deep.DeepCutAuto
import Init
import Derived.Laws.OwnMore
import Derived.Deep.OwnRows
set_option linter.unusedSimpArgs false
set_option linter.unusedVariables false
/- wide.Quo. -/
namespace Go.Proofs.Ytebiddmadmmfpaa
set_option linter.unusedVariables false
open Go.RowKit W
set_option maxHeartbeats 2000000 in
theorem quo_zero (a1 a0 b1 b0 : Int) (ks : ∀ w, Calls Try.prog 49 #[.agg #[.int .i64 b1, .int .u64 b0]] w fun e w' => e = .returned (.int .i64 0) ∧ Below w.heap.size w w') (w : World) :
    Calls Try.prog 26 #[.agg #[.int .i64 a1, .int .u64 a0], .agg #[.int .i64 b1, .int .u64 b0]] w fun e w' => e = .returned (.tuple #[.agg #[.int .i64 0, .int .u64 0], .agg #[.int .i64 0, .int .u64 0], .int .i64 11]) ∧ Below w.heap.size w w' := by
  go_enter Try.func26, Try.ntmps26
  go_wp2_with fail
  refine (ks _).mono ?_
  rintro e w1 ⟨rfl, h1⟩
  have B1 : Below w.heap.size w w1 := Below.trans (by go_grown) (h1.mono (by first | (simp; done) | omega | (simp; omega)))
  have y1 := B1.size
  have A0 := box2 h1 (w.heap.size + 1 + 1) (.int .i64 0) (.int .u64 0) (by first | assumption | (simp [go_sem]; done) | (simp [go_sem]; done)) (by first | assumption | (simp [go_sem]; done) | (simp [go_sem]; done)) (by first | assumption | (simp [go_sem]; done) | (simp [go_sem]; done)) (by first | assumption | (simp [go_sem]; done) | (simp [go_sem]; done)) (by first | assumption | omega | (simp; done) | (simp; omega))
  have A1 := box2 h1 (w.heap.size + 1 + 1 + 1) (.int .i64 0) (.int .u64 0) (by first | assumption | (simp [go_sem]; done) | (simp [go_sem]; done)) (by first | assumption | (simp [go_sem]; done) | (simp [go_sem]; done)) (by first | assumption | (simp [go_sem]; done) | (simp [go_sem]; done)) (by first | assumption | (simp [go_sem]; done) | (simp [go_sem]; done)) (by first | assumption | omega | (simp; done) | (simp; omega))
  obtain ⟨A0c0, A0c1, A0f0, A0f1, A0z⟩ := A0
  obtain ⟨A1c0, A1c1, A1f0, A1f1, A1z⟩ := A1
  clear h1 ks
  go_wp2_with fail
  refine bodyPost_ret (by simp [results, Try.results26, go_sem, A0c0, A0c1, A1c0, A1c1]; try rfl) rfl ?_
  exact ⟨rfl, by go_grown⟩
set_option maxHeartbeats 8000000 in
theorem quo_over (a1 a0 b1 b0 s m1 m0 n1 n0 q1 q0 l1 l0 s1 s0 : Int) (na nb : Bool) (z : (s == 0) = false)
    (ks : ∀ w, Calls Try.prog 49 #[.agg #[.int .i64 b1, .int .u64 b0]] w fun e w' => e = .returned (.int .i64 s) ∧ Below w.heap.size w w')
    (ka : ∀ w, Calls Try.prog 50 #[.agg #[.int .i64 a1, .int .u64 a0]] w fun e w' => e = .returned (.tuple #[.bool na, .agg #[.int .u64 m0, .int .u64 m1]]) ∧ Below w.heap.size w w')
    (kb : ∀ w, Calls Try.prog 50 #[.agg #[.int .i64 b1, .int .u64 b0]] w fun e w' => e = .returned (.tuple #[.bool nb, .agg #[.int .u64 n0, .int .u64 n1]]) ∧ Below w.heap.size w w')
    (kd : ∀ w, Calls Try.prog 51 #[.agg #[.int .u64 m0, .int .u64 m1], .agg #[.int .u64 n0, .int .u64 n1]] w fun e w' => e = .returned (.tuple #[.agg #[.int .u64 q0, .int .u64 q1], .agg #[.int .u64 l0, .int .u64 l1]]) ∧ Below w.heap.size w w')
    (kq : ∀ w, Calls Try.prog 52 #[.bool (na != nb), .agg #[.int .u64 q0, .int .u64 q1]] w fun e w' => e = .returned (.tuple #[.agg #[.int .i64 s1, .int .u64 s0], .int .i64 10]) ∧ Below w.heap.size w w')
    (w : World) : Calls Try.prog 26 #[.agg #[.int .i64 a1, .int .u64 a0], .agg #[.int .i64 b1, .int .u64 b0]] w fun e w' => e = .returned (.tuple #[.agg #[.int .i64 0, .int .u64 0], .agg #[.int .i64 0, .int .u64 0], .int .i64 10]) ∧ Below w.heap.size w w' := by
  go_enter Try.func26, Try.ntmps26
  go_wp2_with fail
  refine (ks _).mono ?_
  rintro e w1 ⟨rfl, h1⟩
  have B1 : Below w.heap.size w w1 := Below.trans (by go_grown) (h1.mono (by first | (simp; done) | omega | (simp; omega)))
  have y1 := B1.size
  have A0 := box2 h1 (w.heap.size) (.int .i64 a1) (.int .u64 a0) (by first | assumption | (simp [go_sem]; done) | (simp [go_sem]; done)) (by first | assumption | (simp [go_sem]; done) | (simp [go_sem]; done)) (by first | assumption | (simp [go_sem]; done) | (simp [go_sem]; done)) (by first | assumption | (simp [go_sem]; done) | (simp [go_sem]; done)) (by first | assumption | omega | (simp; done) | (simp; omega))
  have A1 := box2 h1 (w.heap.size + 1) (.int .i64 b1) (.int .u64 b0) (by first | assumption | (simp [go_sem]; done) | (simp [go_sem]; done)) (by first | assumption | (simp [go_sem]; done) | (simp [go_sem]; done)) (by first | assumption | (simp [go_sem]; done) | (simp [go_sem]; done)) (by first | assumption | (simp [go_sem]; done) | (simp [go_sem]; done)) (by first | assumption | omega | (simp; done) | (simp; omega))
  have A2 := box2 h1 (w.heap.size + 1 + 1) (.int .i64 0) (.int .u64 0) (by first | assumption | (simp [go_sem]; done) | (simp [go_sem]; done)) (by first | assumption | (simp [go_sem]; done) | (simp [go_sem]; done)) (by first | assumption | (simp [go_sem]; done) | (simp [go_sem]; done)) (by first | assumption | (simp [go_sem]; done) | (simp [go_sem]; done)) (by first | assumption | omega | (simp; done) | (simp; omega))
  have A3 := box2 h1 (w.heap.size + 1 + 1 + 1) (.int .i64 0) (.int .u64 0) (by first | assumption | (simp [go_sem]; done) | (simp [go_sem]; done)) (by first | assumption | (simp [go_sem]; done) | (simp [go_sem]; done)) (by first | assumption | (simp [go_sem]; done) | (simp [go_sem]; done)) (by first | assumption | (simp [go_sem]; done) | (simp [go_sem]; done)) (by first | assumption | omega | (simp; done) | (simp; omega))
  obtain ⟨A0c0, A0c1, A0f0, A0f1, A0z⟩ := A0
  obtain ⟨A1c0, A1c1, A1f0, A1f1, A1z⟩ := A1
  obtain ⟨A2c0, A2c1, A2f0, A2f1, A2z⟩ := A2
  obtain ⟨A3c0, A3c1, A3f0, A3f1, A3z⟩ := A3
  clear h1 ks
  go_wp2_with fail
  refine (ka _).mono ?_
  rintro e w2 ⟨rfl, h2⟩
  have B2 : Below w.heap.size w w2 := Below.trans (by go_grown) (h2.mono (by first | (simp; done) | omega | (simp; omega)))
  have y2 := B2.size
  have B0 := box2 h2 (w.heap.size + 1) (.int .i64 b1) (.int .u64 b0) (by first | assumption | (refine (Below.cell ?_ A1z).trans A1c0; go_grown; done) | (simp [go_sem, A1c0]; done) | (simp [go_sem, A1c0, A1z]; done) | (simp [go_sem, A0c0, A0c1, A0f0, A0f1, A0z, A1c0, A1c1, A1f0, A1f1, A1z, A2c0, A2c1, A2f0, A2f1, A2z, A3c0, A3c1, A3f0, A3f1, A3z]; done)) (by first | assumption | (refine (Below.cell ?_ A1z).trans A1c1; go_grown; done) | (simp [go_sem, A1c1]; done) | (simp [go_sem, A1c1, A1z]; done) | (simp [go_sem, A0c0, A0c1, A0f0, A0f1, A0z, A1c0, A1c1, A1f0, A1f1, A1z, A2c0, A2c1, A2f0, A2f1, A2z, A3c0, A3c1, A3f0, A3f1, A3z]; done)) (by first | assumption | (refine (Below.frozen ?_ A1z).trans A1f0; go_grown; done) | (simp [go_sem, A1f0]; done) | (simp [go_sem, A1f0, A1z]; done) | (simp [go_sem, A0c0, A0c1, A0f0, A0f1, A0z, A1c0, A1c1, A1f0, A1f1, A1z, A2c0, A2c1, A2f0, A2f1, A2z, A3c0, A3c1, A3f0, A3f1, A3z]; done)) (by first | assumption | (refine (Below.frozen ?_ A1z).trans A1f1; go_grown; done) | (simp [go_sem, A1f1]; done) | (simp [go_sem, A1f1, A1z]; done) | (simp [go_sem, A0c0, A0c1, A0f0, A0f1, A0z, A1c0, A1c1, A1f0, A1f1, A1z, A2c0, A2c1, A2f0, A2f1, A2z, A3c0, A3c1, A3f0, A3f1, A3z]; done)) (by first | assumption | omega | (simp; done) | (simp; omega))
  have B1 := box2 h2 (w.heap.size + 1 + 1) (.int .i64 0) (.int .u64 0) (by first | assumption | (refine (Below.cell ?_ A2z).trans A2c0; go_grown; done) | (simp [go_sem, A2c0]; done) | (simp [go_sem, A2c0, A2z]; done) | (simp [go_sem, A0c0, A0c1, A0f0, A0f1, A0z, A1c0, A1c1, A1f0, A1f1, A1z, A2c0, A2c1, A2f0, A2f1, A2z, A3c0, A3c1, A3f0, A3f1, A3z]; done)) (by first | assumption | (refine (Below.cell ?_ A2z).trans A2c1; go_grown; done) | (simp [go_sem, A2c1]; done) | (simp [go_sem, A2c1, A2z]; done) | (simp [go_sem, A0c0, A0c1, A0f0, A0f1, A0z, A1c0, A1c1, A1f0, A1f1, A1z, A2c0, A2c1, A2f0, A2f1, A2z, A3c0, A3c1, A3f0, A3f1, A3z]; done)) (by first | assumption | (refine (Below.frozen ?_ A2z).trans A2f0; go_grown; done) | (simp [go_sem, A2f0]; done) | (simp [go_sem, A2f0, A2z]; done) | (simp [go_sem, A0c0, A0c1, A0f0, A0f1, A0z, A1c0, A1c1, A1f0, A1f1, A1z, A2c0, A2c1, A2f0, A2f1, A2z, A3c0, A3c1, A3f0, A3f1, A3z]; done)) (by first | assumption | (refine (Below.frozen ?_ A2z).trans A2f1; go_grown; done) | (simp [go_sem, A2f1]; done) | (simp [go_sem, A2f1, A2z]; done) | (simp [go_sem, A0c0, A0c1, A0f0, A0f1, A0z, A1c0, A1c1, A1f0, A1f1, A1z, A2c0, A2c1, A2f0, A2f1, A2z, A3c0, A3c1, A3f0, A3f1, A3z]; done)) (by first | assumption | omega | (simp; done) | (simp; omega))
  have B2 := box2 h2 (w.heap.size + 1 + 1 + 1) (.int .i64 0) (.int .u64 0) (by first | assumption | (refine (Below.cell ?_ A3z).trans A3c0; go_grown; done) | (simp [go_sem, A3c0]; done) | (simp [go_sem, A3c0, A3z]; done) | (simp [go_sem, A0c0, A0c1, A0f0, A0f1, A0z, A1c0, A1c1, A1f0, A1f1, A1z, A2c0, A2c1, A2f0, A2f1, A2z, A3c0, A3c1, A3f0, A3f1, A3z]; done)) (by first | assumption | (refine (Below.cell ?_ A3z).trans A3c1; go_grown; done) | (simp [go_sem, A3c1]; done) | (simp [go_sem, A3c1, A3z]; done) | (simp [go_sem, A0c0, A0c1, A0f0, A0f1, A0z, A1c0, A1c1, A1f0, A1f1, A1z, A2c0, A2c1, A2f0, A2f1, A2z, A3c0, A3c1, A3f0, A3f1, A3z]; done)) (by first | assumption | (refine (Below.frozen ?_ A3z).trans A3f0; go_grown; done) | (simp [go_sem, A3f0]; done) | (simp [go_sem, A3f0, A3z]; done) | (simp [go_sem, A0c0, A0c1, A0f0, A0f1, A0z, A1c0, A1c1, A1f0, A1f1, A1z, A2c0, A2c1, A2f0, A2f1, A2z, A3c0, A3c1, A3f0, A3f1, A3z]; done)) (by first | assumption | (refine (Below.frozen ?_ A3z).trans A3f1; go_grown; done) | (simp [go_sem, A3f1]; done) | (simp [go_sem, A3f1, A3z]; done) | (simp [go_sem, A0c0, A0c1, A0f0, A0f1, A0z, A1c0, A1c1, A1f0, A1f1, A1z, A2c0, A2c1, A2f0, A2f1, A2z, A3c0, A3c1, A3f0, A3f1, A3z]; done)) (by first | assumption | omega | (simp; done) | (simp; omega))
  clear A0c0 A0c1 A0f0 A0f1 A0z A1c0 A1c1 A1f0 A1f1 A1z A2c0 A2c1 A2f0 A2f1 A2z A3c0 A3c1 A3f0 A3f1 A3z
  obtain ⟨B0c0, B0c1, B0f0, B0f1, B0z⟩ := B0
  obtain ⟨B1c0, B1c1, B1f0, B1f1, B1z⟩ := B1
  obtain ⟨B2c0, B2c1, B2f0, B2f1, B2z⟩ := B2
  clear h2 ka B1
  go_wp2_with fail
  refine (kb _).mono ?_
  rintro e w3 ⟨rfl, h3⟩
  have B3 : Below w.heap.size w w3 := Below.trans (by go_grown) (h3.mono (by first | (simp; done) | omega | (simp; omega)))
  have y3 := B3.size
  have C0 := box2 h3 (w.heap.size + 1 + 1) (.int .i64 0) (.int .u64 0) (by first | assumption | (refine (Below.cell ?_ B1z).trans B1c0; go_grown; done) | (simp [go_sem, B1c0]; done) | (simp [go_sem, B1c0, B1z]; done) | (simp [go_sem, B0c0, B0c1, B0f0, B0f1, B0z, B1c0, B1c1, B1f0, B1f1, B1z, B2c0, B2c1, B2f0, B2f1, B2z]; done)) (by first | assumption | (refine (Below.cell ?_ B1z).trans B1c1; go_grown; done) | (simp [go_sem, B1c1]; done) | (simp [go_sem, B1c1, B1z]; done) | (simp [go_sem, B0c0, B0c1, B0f0, B0f1, B0z, B1c0, B1c1, B1f0, B1f1, B1z, B2c0, B2c1, B2f0, B2f1, B2z]; done)) (by first | assumption | (refine (Below.frozen ?_ B1z).trans B1f0; go_grown; done) | (simp [go_sem, B1f0]; done) | (simp [go_sem, B1f0, B1z]; done) | (simp [go_sem, B0c0, B0c1, B0f0, B0f1, B0z, B1c0, B1c1, B1f0, B1f1, B1z, B2c0, B2c1, B2f0, B2f1, B2z]; done)) (by first | assumption | (refine (Below.frozen ?_ B1z).trans B1f1; go_grown; done) | (simp [go_sem, B1f1]; done) | (simp [go_sem, B1f1, B1z]; done) | (simp [go_sem, B0c0, B0c1, B0f0, B0f1, B0z, B1c0, B1c1, B1f0, B1f1, B1z, B2c0, B2c1, B2f0, B2f1, B2z]; done)) (by first | assumption | omega | (simp; done) | (simp; omega))
  have C1 := box2 h3 (w.heap.size + 1 + 1 + 1) (.int .i64 0) (.int .u64 0) (by first | assumption | (refine (Below.cell ?_ B2z).trans B2c0; go_grown; done) | (simp [go_sem, B2c0]; done) | (simp [go_sem, B2c0, B2z]; done) | (simp [go_sem, B0c0, B0c1, B0f0, B0f1, B0z, B1c0, B1c1, B1f0, B1f1, B1z, B2c0, B2c1, B2f0, B2f1, B2z]; done)) (by first | assumption | (refine (Below.cell ?_ B2z).trans B2c1; go_grown; done) | (simp [go_sem, B2c1]; done) | (simp [go_sem, B2c1, B2z]; done) | (simp [go_sem, B0c0, B0c1, B0f0, B0f1, B0z, B1c0, B1c1, B1f0, B1f1, B1z, B2c0, B2c1, B2f0, B2f1, B2z]; done)) (by first | assumption | (refine (Below.frozen ?_ B2z).trans B2f0; go_grown; done) | (simp [go_sem, B2f0]; done) | (simp [go_sem, B2f0, B2z]; done) | (simp [go_sem, B0c0, B0c1, B0f0, B0f1, B0z, B1c0, B1c1, B1f0, B1f1, B1z, B2c0, B2c1, B2f0, B2f1, B2z]; done)) (by first | assumption | (refine (Below.frozen ?_ B2z).trans B2f1; go_grown; done) | (simp [go_sem, B2f1]; done) | (simp [go_sem, B2f1, B2z]; done) | (simp [go_sem, B0c0, B0c1, B0f0, B0f1, B0z, B1c0, B1c1, B1f0, B1f1, B1z, B2c0, B2c1, B2f0, B2f1, B2z]; done)) (by first | assumption | omega | (simp; done) | (simp; omega))
  have C2 := box2 h3 (w2.heap.size) (.int .u64 m0) (.int .u64 m1) (by first | assumption | (simp [go_sem]; done) | (simp [go_sem, B0c0, B0c1, B0f0, B0f1, B0z, B1c0, B1c1, B1f0, B1f1, B1z, B2c0, B2c1, B2f0, B2f1, B2z]; done)) (by first | assumption | (simp [go_sem]; done) | (simp [go_sem, B0c0, B0c1, B0f0, B0f1, B0z, B1c0, B1c1, B1f0, B1f1, B1z, B2c0, B2c1, B2f0, B2f1, B2z]; done)) (by first | assumption | (simp [go_sem]; done) | (simp [go_sem, B0c0, B0c1, B0f0, B0f1, B0z, B1c0, B1c1, B1f0, B1f1, B1z, B2c0, B2c1, B2f0, B2f1, B2z]; done)) (by first | assumption | (simp [go_sem]; done) | (simp [go_sem, B0c0, B0c1, B0f0, B0f1, B0z, B1c0, B1c1, B1f0, B1f1, B1z, B2c0, B2c1, B2f0, B2f1, B2z]; done)) (by first | assumption | omega | (simp; done) | (simp; omega))
  clear B0c0 B0c1 B0f0 B0f1 B0z B1c0 B1c1 B1f0 B1f1 B1z B2c0 B2c1 B2f0 B2f1 B2z
  obtain ⟨C0c0, C0c1, C0f0, C0f1, C0z⟩ := C0
  obtain ⟨C1c0, C1c1, C1f0, C1f1, C1z⟩ := C1
  obtain ⟨C2c0, C2c1, C2f0, C2f1, C2z⟩ := C2
  clear h3 kb B2
  go_wp2_with fail
  refine (kd _).mono ?_
  rintro e w4 ⟨rfl, h4⟩
  have B4 : Below w.heap.size w w4 := Below.trans (by go_grown) (h4.mono (by first | (simp; done) | omega | (simp; omega)))
  have y4 := B4.size
  have D0 := box2 h4 (w.heap.size + 1 + 1) (.int .i64 0) (.int .u64 0) (by first | assumption | (refine (Below.cell ?_ C0z).trans C0c0; go_grown; done) | (simp [go_sem, C0c0]; done) | (simp [go_sem, C0c0, C0z]; done) | (simp [go_sem, C0c0, C0c1, C0f0, C0f1, C0z, C1c0, C1c1, C1f0, C1f1, C1z, C2c0, C2c1, C2f0, C2f1, C2z]; done)) (by first | assumption | (refine (Below.cell ?_ C0z).trans C0c1; go_grown; done) | (simp [go_sem, C0c1]; done) | (simp [go_sem, C0c1, C0z]; done) | (simp [go_sem, C0c0, C0c1, C0f0, C0f1, C0z, C1c0, C1c1, C1f0, C1f1, C1z, C2c0, C2c1, C2f0, C2f1, C2z]; done)) (by first | assumption | (refine (Below.frozen ?_ C0z).trans C0f0; go_grown; done) | (simp [go_sem, C0f0]; done) | (simp [go_sem, C0f0, C0z]; done) | (simp [go_sem, C0c0, C0c1, C0f0, C0f1, C0z, C1c0, C1c1, C1f0, C1f1, C1z, C2c0, C2c1, C2f0, C2f1, C2z]; done)) (by first | assumption | (refine (Below.frozen ?_ C0z).trans C0f1; go_grown; done) | (simp [go_sem, C0f1]; done) | (simp [go_sem, C0f1, C0z]; done) | (simp [go_sem, C0c0, C0c1, C0f0, C0f1, C0z, C1c0, C1c1, C1f0, C1f1, C1z, C2c0, C2c1, C2f0, C2f1, C2z]; done)) (by first | assumption | omega | (simp; done) | (simp; omega))
  have D1 := box2 h4 (w.heap.size + 1 + 1 + 1) (.int .i64 0) (.int .u64 0) (by first | assumption | (refine (Below.cell ?_ C1z).trans C1c0; go_grown; done) | (simp [go_sem, C1c0]; done) | (simp [go_sem, C1c0, C1z]; done) | (simp [go_sem, C0c0, C0c1, C0f0, C0f1, C0z, C1c0, C1c1, C1f0, C1f1, C1z, C2c0, C2c1, C2f0, C2f1, C2z]; done)) (by first | assumption | (refine (Below.cell ?_ C1z).trans C1c1; go_grown; done) | (simp [go_sem, C1c1]; done) | (simp [go_sem, C1c1, C1z]; done) | (simp [go_sem, C0c0, C0c1, C0f0, C0f1, C0z, C1c0, C1c1, C1f0, C1f1, C1z, C2c0, C2c1, C2f0, C2f1, C2z]; done)) (by first | assumption | (refine (Below.frozen ?_ C1z).trans C1f0; go_grown; done) | (simp [go_sem, C1f0]; done) | (simp [go_sem, C1f0, C1z]; done) | (simp [go_sem, C0c0, C0c1, C0f0, C0f1, C0z, C1c0, C1c1, C1f0, C1f1, C1z, C2c0, C2c1, C2f0, C2f1, C2z]; done)) (by first | assumption | (refine (Below.frozen ?_ C1z).trans C1f1; go_grown; done) | (simp [go_sem, C1f1]; done) | (simp [go_sem, C1f1, C1z]; done) | (simp [go_sem, C0c0, C0c1, C0f0, C0f1, C0z, C1c0, C1c1, C1f0, C1f1, C1z, C2c0, C2c1, C2f0, C2f1, C2z]; done)) (by first | assumption | omega | (simp; done) | (simp; omega))
  clear C0c0 C0c1 C0f0 C0f1 C0z C1c0 C1c1 C1f0 C1f1 C1z C2c0 C2c1 C2f0 C2f1 C2z
  obtain ⟨D0c0, D0c1, D0f0, D0f1, D0z⟩ := D0
  obtain ⟨D1c0, D1c1, D1f0, D1f1, D1z⟩ := D1
  clear h4 kd B3
  go_wp2_with fail
  refine (kq _).mono ?_
  rintro e w5 ⟨rfl, h5⟩
  have B5 : Below w.heap.size w w5 := Below.trans (by go_grown) (h5.mono (by first | (simp; done) | omega | (simp; omega)))
  have y5 := B5.size
  have E0 := box2 h5 (w.heap.size + 1 + 1) (.int .i64 0) (.int .u64 0) (by first | assumption | (refine (Below.cell ?_ D0z).trans D0c0; go_grown; done) | (simp [go_sem, D0c0]; done) | (simp [go_sem, D0c0, D0z]; done) | (simp [go_sem, D0c0, D0c1, D0f0, D0f1, D0z, D1c0, D1c1, D1f0, D1f1, D1z]; done)) (by first | assumption | (refine (Below.cell ?_ D0z).trans D0c1; go_grown; done) | (simp [go_sem, D0c1]; done) | (simp [go_sem, D0c1, D0z]; done) | (simp [go_sem, D0c0, D0c1, D0f0, D0f1, D0z, D1c0, D1c1, D1f0, D1f1, D1z]; done)) (by first | assumption | (refine (Below.frozen ?_ D0z).trans D0f0; go_grown; done) | (simp [go_sem, D0f0]; done) | (simp [go_sem, D0f0, D0z]; done) | (simp [go_sem, D0c0, D0c1, D0f0, D0f1, D0z, D1c0, D1c1, D1f0, D1f1, D1z]; done)) (by first | assumption | (refine (Below.frozen ?_ D0z).trans D0f1; go_grown; done) | (simp [go_sem, D0f1]; done) | (simp [go_sem, D0f1, D0z]; done) | (simp [go_sem, D0c0, D0c1, D0f0, D0f1, D0z, D1c0, D1c1, D1f0, D1f1, D1z]; done)) (by first | assumption | omega | (simp; done) | (simp; omega))
  have E1 := box2 h5 (w.heap.size + 1 + 1 + 1) (.int .i64 0) (.int .u64 0) (by first | assumption | (refine (Below.cell ?_ D1z).trans D1c0; go_grown; done) | (simp [go_sem, D1c0]; done) | (simp [go_sem, D1c0, D1z]; done) | (simp [go_sem, D0c0, D0c1, D0f0, D0f1, D0z, D1c0, D1c1, D1f0, D1f1, D1z]; done)) (by first | assumption | (refine (Below.cell ?_ D1z).trans D1c1; go_grown; done) | (simp [go_sem, D1c1]; done) | (simp [go_sem, D1c1, D1z]; done) | (simp [go_sem, D0c0, D0c1, D0f0, D0f1, D0z, D1c0, D1c1, D1f0, D1f1, D1z]; done)) (by first | assumption | (refine (Below.frozen ?_ D1z).trans D1f0; go_grown; done) | (simp [go_sem, D1f0]; done) | (simp [go_sem, D1f0, D1z]; done) | (simp [go_sem, D0c0, D0c1, D0f0, D0f1, D0z, D1c0, D1c1, D1f0, D1f1, D1z]; done)) (by first | assumption | (refine (Below.frozen ?_ D1z).trans D1f1; go_grown; done) | (simp [go_sem, D1f1]; done) | (simp [go_sem, D1f1, D1z]; done) | (simp [go_sem, D0c0, D0c1, D0f0, D0f1, D0z, D1c0, D1c1, D1f0, D1f1, D1z]; done)) (by first | assumption | omega | (simp; done) | (simp; omega))
  have E2 := box2 h5 (w4.heap.size + 1) (.int .u64 l0) (.int .u64 l1) (by first | assumption | (simp [go_sem]; done) | (simp [go_sem, D0c0, D0c1, D0f0, D0f1, D0z, D1c0, D1c1, D1f0, D1f1, D1z]; done)) (by first | assumption | (simp [go_sem]; done) | (simp [go_sem, D0c0, D0c1, D0f0, D0f1, D0z, D1c0, D1c1, D1f0, D1f1, D1z]; done)) (by first | assumption | (simp [go_sem]; done) | (simp [go_sem, D0c0, D0c1, D0f0, D0f1, D0z, D1c0, D1c1, D1f0, D1f1, D1z]; done)) (by first | assumption | (simp [go_sem]; done) | (simp [go_sem, D0c0, D0c1, D0f0, D0f1, D0z, D1c0, D1c1, D1f0, D1f1, D1z]; done)) (by first | assumption | omega | (simp; done) | (simp; omega))
  clear D0c0 D0c1 D0f0 D0f1 D0z D1c0 D1c1 D1f0 D1f1 D1z
  obtain ⟨E0c0, E0c1, E0f0, E0f1, E0z⟩ := E0
  obtain ⟨E1c0, E1c1, E1f0, E1f1, E1z⟩ := E1
  obtain ⟨E2c0, E2c1, E2f0, E2f1, E2z⟩ := E2
  clear h5 kq B4
  go_wp2_with fail
  refine bodyPost_ret (by simp [results, Try.results26, go_sem, E0c0, E0c1, E0z, E1c0, E1c1, E1z]; try rfl) rfl ?_
  exact ⟨rfl, by go_grown⟩
set_option maxHeartbeats 8000000 in
theorem quo_fits (a1 a0 b1 b0 s m1 m0 n1 n0 q1 q0 l1 l0 s1 s0 r1 r0 : Int) (na nb : Bool) (z : (s == 0) = false)
    (ks : ∀ w, Calls Try.prog 49 #[.agg #[.int .i64 b1, .int .u64 b0]] w fun e w' => e = .returned (.int .i64 s) ∧ Below w.heap.size w w')
    (ka : ∀ w, Calls Try.prog 50 #[.agg #[.int .i64 a1, .int .u64 a0]] w fun e w' => e = .returned (.tuple #[.bool na, .agg #[.int .u64 m0, .int .u64 m1]]) ∧ Below w.heap.size w w')
    (kb : ∀ w, Calls Try.prog 50 #[.agg #[.int .i64 b1, .int .u64 b0]] w fun e w' => e = .returned (.tuple #[.bool nb, .agg #[.int .u64 n0, .int .u64 n1]]) ∧ Below w.heap.size w w')
    (kd : ∀ w, Calls Try.prog 51 #[.agg #[.int .u64 m0, .int .u64 m1], .agg #[.int .u64 n0, .int .u64 n1]] w fun e w' => e = .returned (.tuple #[.agg #[.int .u64 q0, .int .u64 q1], .agg #[.int .u64 l0, .int .u64 l1]]) ∧ Below w.heap.size w w')
    (kq : ∀ w, Calls Try.prog 52 #[.bool (na != nb), .agg #[.int .u64 q0, .int .u64 q1]] w fun e w' => e = .returned (.tuple #[.agg #[.int .i64 s1, .int .u64 s0], .int .i64 0]) ∧ Below w.heap.size w w')
    (kr : ∀ w, Calls Try.prog 52 #[.bool na, .agg #[.int .u64 l0, .int .u64 l1]] w fun e w' => e = .returned (.tuple #[.agg #[.int .i64 r1, .int .u64 r0], .int .i64 0]) ∧ Below w.heap.size w w')
    (w : World) : Calls Try.prog 26 #[.agg #[.int .i64 a1, .int .u64 a0], .agg #[.int .i64 b1, .int .u64 b0]] w fun e w' => e = .returned (.tuple #[.agg #[.int .i64 s1, .int .u64 s0], .agg #[.int .i64 r1, .int .u64 r0], .int .i64 0]) ∧ Below w.heap.size w w' := by
  go_enter Try.func26, Try.ntmps26
  go_wp2_with fail
  refine (ks _).mono ?_
  rintro e w1 ⟨rfl, h1⟩
  have B1 : Below w.heap.size w w1 := Below.trans (by go_grown) (h1.mono (by first | (simp; done) | omega | (simp; omega)))
  have y1 := B1.size
  have A0 := box2 h1 (w.heap.size) (.int .i64 a1) (.int .u64 a0) (by first | assumption | (simp [go_sem]; done) | (simp [go_sem]; done)) (by first | assumption | (simp [go_sem]; done) | (simp [go_sem]; done)) (by first | assumption | (simp [go_sem]; done) | (simp [go_sem]; done)) (by first | assumption | (simp [go_sem]; done) | (simp [go_sem]; done)) (by first | assumption | omega | (simp; done) | (simp; omega))
  have A1 := box2 h1 (w.heap.size + 1) (.int .i64 b1) (.int .u64 b0) (by first | assumption | (simp [go_sem]; done) | (simp [go_sem]; done)) (by first | assumption | (simp [go_sem]; done) | (simp [go_sem]; done)) (by first | assumption | (simp [go_sem]; done) | (simp [go_sem]; done)) (by first | assumption | (simp [go_sem]; done) | (simp [go_sem]; done)) (by first | assumption | omega | (simp; done) | (simp; omega))
  have A2 := box2 h1 (w.heap.size + 1 + 1) (.int .i64 0) (.int .u64 0) (by first | assumption | (simp [go_sem]; done) | (simp [go_sem]; done)) (by first | assumption | (simp [go_sem]; done) | (simp [go_sem]; done)) (by first | assumption | (simp [go_sem]; done) | (simp [go_sem]; done)) (by first | assumption | (simp [go_sem]; done) | (simp [go_sem]; done)) (by first | assumption | omega | (simp; done) | (simp; omega))
  have A3 := box2 h1 (w.heap.size + 1 + 1 + 1) (.int .i64 0) (.int .u64 0) (by first | assumption | (simp [go_sem]; done) | (simp [go_sem]; done)) (by first | assumption | (simp [go_sem]; done) | (simp [go_sem]; done)) (by first | assumption | (simp [go_sem]; done) | (simp [go_sem]; done)) (by first | assumption | (simp [go_sem]; done) | (simp [go_sem]; done)) (by first | assumption | omega | (simp; done) | (simp; omega))
  obtain ⟨A0c0, A0c1, A0f0, A0f1, A0z⟩ := A0
  obtain ⟨A1c0, A1c1, A1f0, A1f1, A1z⟩ := A1
  obtain ⟨A2c0, A2c1, A2f0, A2f1, A2z⟩ := A2
  obtain ⟨A3c0, A3c1, A3f0, A3f1, A3z⟩ := A3
  clear h1 ks
  go_wp2_with fail
  refine (ka _).mono ?_
  rintro e w2 ⟨rfl, h2⟩
  have B2 : Below w.heap.size w w2 := Below.trans (by go_grown) (h2.mono (by first | (simp; done) | omega | (simp; omega)))
  have y2 := B2.size
  have B0 := box2 h2 (w.heap.size + 1) (.int .i64 b1) (.int .u64 b0) (by first | assumption | (refine (Below.cell ?_ A1z).trans A1c0; go_grown; done) | (simp [go_sem, A1c0]; done) | (simp [go_sem, A1c0, A1z]; done) | (simp [go_sem, A0c0, A0c1, A0f0, A0f1, A0z, A1c0, A1c1, A1f0, A1f1, A1z, A2c0, A2c1, A2f0, A2f1, A2z, A3c0, A3c1, A3f0, A3f1, A3z]; done)) (by first | assumption | (refine (Below.cell ?_ A1z).trans A1c1; go_grown; done) | (simp [go_sem, A1c1]; done) | (simp [go_sem, A1c1, A1z]; done) | (simp [go_sem, A0c0, A0c1, A0f0, A0f1, A0z, A1c0, A1c1, A1f0, A1f1, A1z, A2c0, A2c1, A2f0, A2f1, A2z, A3c0, A3c1, A3f0, A3f1, A3z]; done)) (by first | assumption | (refine (Below.frozen ?_ A1z).trans A1f0; go_grown; done) | (simp [go_sem, A1f0]; done) | (simp [go_sem, A1f0, A1z]; done) | (simp [go_sem, A0c0, A0c1, A0f0, A0f1, A0z, A1c0, A1c1, A1f0, A1f1, A1z, A2c0, A2c1, A2f0, A2f1, A2z, A3c0, A3c1, A3f0, A3f1, A3z]; done)) (by first | assumption | (refine (Below.frozen ?_ A1z).trans A1f1; go_grown; done) | (simp [go_sem, A1f1]; done) | (simp [go_sem, A1f1, A1z]; done) | (simp [go_sem, A0c0, A0c1, A0f0, A0f1, A0z, A1c0, A1c1, A1f0, A1f1, A1z, A2c0, A2c1, A2f0, A2f1, A2z, A3c0, A3c1, A3f0, A3f1, A3z]; done)) (by first | assumption | omega | (simp; done) | (simp; omega))
  have B1 := box2 h2 (w.heap.size + 1 + 1) (.int .i64 0) (.int .u64 0) (by first | assumption | (refine (Below.cell ?_ A2z).trans A2c0; go_grown; done) | (simp [go_sem, A2c0]; done) | (simp [go_sem, A2c0, A2z]; done) | (simp [go_sem, A0c0, A0c1, A0f0, A0f1, A0z, A1c0, A1c1, A1f0, A1f1, A1z, A2c0, A2c1, A2f0, A2f1, A2z, A3c0, A3c1, A3f0, A3f1, A3z]; done)) (by first | assumption | (refine (Below.cell ?_ A2z).trans A2c1; go_grown; done) | (simp [go_sem, A2c1]; done) | (simp [go_sem, A2c1, A2z]; done) | (simp [go_sem, A0c0, A0c1, A0f0, A0f1, A0z, A1c0, A1c1, A1f0, A1f1, A1z, A2c0, A2c1, A2f0, A2f1, A2z, A3c0, A3c1, A3f0, A3f1, A3z]; done)) (by first | assumption | (refine (Below.frozen ?_ A2z).trans A2f0; go_grown; done) | (simp [go_sem, A2f0]; done) | (simp [go_sem, A2f0, A2z]; done) | (simp [go_sem, A0c0, A0c1, A0f0, A0f1, A0z, A1c0, A1c1, A1f0, A1f1, A1z, A2c0, A2c1, A2f0, A2f1, A2z, A3c0, A3c1, A3f0, A3f1, A3z]; done)) (by first | assumption | (refine (Below.frozen ?_ A2z).trans A2f1; go_grown; done) | (simp [go_sem, A2f1]; done) | (simp [go_sem, A2f1, A2z]; done) | (simp [go_sem, A0c0, A0c1, A0f0, A0f1, A0z, A1c0, A1c1, A1f0, A1f1, A1z, A2c0, A2c1, A2f0, A2f1, A2z, A3c0, A3c1, A3f0, A3f1, A3z]; done)) (by first | assumption | omega | (simp; done) | (simp; omega))
  have B2 := box2 h2 (w.heap.size + 1 + 1 + 1) (.int .i64 0) (.int .u64 0) (by first | assumption | (refine (Below.cell ?_ A3z).trans A3c0; go_grown; done) | (simp [go_sem, A3c0]; done) | (simp [go_sem, A3c0, A3z]; done) | (simp [go_sem, A0c0, A0c1, A0f0, A0f1, A0z, A1c0, A1c1, A1f0, A1f1, A1z, A2c0, A2c1, A2f0, A2f1, A2z, A3c0, A3c1, A3f0, A3f1, A3z]; done)) (by first | assumption | (refine (Below.cell ?_ A3z).trans A3c1; go_grown; done) | (simp [go_sem, A3c1]; done) | (simp [go_sem, A3c1, A3z]; done) | (simp [go_sem, A0c0, A0c1, A0f0, A0f1, A0z, A1c0, A1c1, A1f0, A1f1, A1z, A2c0, A2c1, A2f0, A2f1, A2z, A3c0, A3c1, A3f0, A3f1, A3z]; done)) (by first | assumption | (refine (Below.frozen ?_ A3z).trans A3f0; go_grown; done) | (simp [go_sem, A3f0]; done) | (simp [go_sem, A3f0, A3z]; done) | (simp [go_sem, A0c0, A0c1, A0f0, A0f1, A0z, A1c0, A1c1, A1f0, A1f1, A1z, A2c0, A2c1, A2f0, A2f1, A2z, A3c0, A3c1, A3f0, A3f1, A3z]; done)) (by first | assumption | (refine (Below.frozen ?_ A3z).trans A3f1; go_grown; done) | (simp [go_sem, A3f1]; done) | (simp [go_sem, A3f1, A3z]; done) | (simp [go_sem, A0c0, A0c1, A0f0, A0f1, A0z, A1c0, A1c1, A1f0, A1f1, A1z, A2c0, A2c1, A2f0, A2f1, A2z, A3c0, A3c1, A3f0, A3f1, A3z]; done)) (by first | assumption | omega | (simp; done) | (simp; omega))
  clear A0c0 A0c1 A0f0 A0f1 A0z A1c0 A1c1 A1f0 A1f1 A1z A2c0 A2c1 A2f0 A2f1 A2z A3c0 A3c1 A3f0 A3f1 A3z
  obtain ⟨B0c0, B0c1, B0f0, B0f1, B0z⟩ := B0
  obtain ⟨B1c0, B1c1, B1f0, B1f1, B1z⟩ := B1
  obtain ⟨B2c0, B2c1, B2f0, B2f1, B2z⟩ := B2
  clear h2 ka B1
  go_wp2_with fail
  refine (kb _).mono ?_
  rintro e w3 ⟨rfl, h3⟩
  have B3 : Below w.heap.size w w3 := Below.trans (by go_grown) (h3.mono (by first | (simp; done) | omega | (simp; omega)))
  have y3 := B3.size
  have C0 := box2 h3 (w.heap.size + 1 + 1) (.int .i64 0) (.int .u64 0) (by first | assumption | (refine (Below.cell ?_ B1z).trans B1c0; go_grown; done) | (simp [go_sem, B1c0]; done) | (simp [go_sem, B1c0, B1z]; done) | (simp [go_sem, B0c0, B0c1, B0f0, B0f1, B0z, B1c0, B1c1, B1f0, B1f1, B1z, B2c0, B2c1, B2f0, B2f1, B2z]; done)) (by first | assumption | (refine (Below.cell ?_ B1z).trans B1c1; go_grown; done) | (simp [go_sem, B1c1]; done) | (simp [go_sem, B1c1, B1z]; done) | (simp [go_sem, B0c0, B0c1, B0f0, B0f1, B0z, B1c0, B1c1, B1f0, B1f1, B1z, B2c0, B2c1, B2f0, B2f1, B2z]; done)) (by first | assumption | (refine (Below.frozen ?_ B1z).trans B1f0; go_grown; done) | (simp [go_sem, B1f0]; done) | (simp [go_sem, B1f0, B1z]; done) | (simp [go_sem, B0c0, B0c1, B0f0, B0f1, B0z, B1c0, B1c1, B1f0, B1f1, B1z, B2c0, B2c1, B2f0, B2f1, B2z]; done)) (by first | assumption | (refine (Below.frozen ?_ B1z).trans B1f1; go_grown; done) | (simp [go_sem, B1f1]; done) | (simp [go_sem, B1f1, B1z]; done) | (simp [go_sem, B0c0, B0c1, B0f0, B0f1, B0z, B1c0, B1c1, B1f0, B1f1, B1z, B2c0, B2c1, B2f0, B2f1, B2z]; done)) (by first | assumption | omega | (simp; done) | (simp; omega))
  have C1 := box2 h3 (w.heap.size + 1 + 1 + 1) (.int .i64 0) (.int .u64 0) (by first | assumption | (refine (Below.cell ?_ B2z).trans B2c0; go_grown; done) | (simp [go_sem, B2c0]; done) | (simp [go_sem, B2c0, B2z]; done) | (simp [go_sem, B0c0, B0c1, B0f0, B0f1, B0z, B1c0, B1c1, B1f0, B1f1, B1z, B2c0, B2c1, B2f0, B2f1, B2z]; done)) (by first | assumption | (refine (Below.cell ?_ B2z).trans B2c1; go_grown; done) | (simp [go_sem, B2c1]; done) | (simp [go_sem, B2c1, B2z]; done) | (simp [go_sem, B0c0, B0c1, B0f0, B0f1, B0z, B1c0, B1c1, B1f0, B1f1, B1z, B2c0, B2c1, B2f0, B2f1, B2z]; done)) (by first | assumption | (refine (Below.frozen ?_ B2z).trans B2f0; go_grown; done) | (simp [go_sem, B2f0]; done) | (simp [go_sem, B2f0, B2z]; done) | (simp [go_sem, B0c0, B0c1, B0f0, B0f1, B0z, B1c0, B1c1, B1f0, B1f1, B1z, B2c0, B2c1, B2f0, B2f1, B2z]; done)) (by first | assumption | (refine (Below.frozen ?_ B2z).trans B2f1; go_grown; done) | (simp [go_sem, B2f1]; done) | (simp [go_sem, B2f1, B2z]; done) | (simp [go_sem, B0c0, B0c1, B0f0, B0f1, B0z, B1c0, B1c1, B1f0, B1f1, B1z, B2c0, B2c1, B2f0, B2f1, B2z]; done)) (by first | assumption | omega | (simp; done) | (simp; omega))
  have C2 := box2 h3 (w2.heap.size) (.int .u64 m0) (.int .u64 m1) (by first | assumption | (simp [go_sem]; done) | (simp [go_sem, B0c0, B0c1, B0f0, B0f1, B0z, B1c0, B1c1, B1f0, B1f1, B1z, B2c0, B2c1, B2f0, B2f1, B2z]; done)) (by first | assumption | (simp [go_sem]; done) | (simp [go_sem, B0c0, B0c1, B0f0, B0f1, B0z, B1c0, B1c1, B1f0, B1f1, B1z, B2c0, B2c1, B2f0, B2f1, B2z]; done)) (by first | assumption | (simp [go_sem]; done) | (simp [go_sem, B0c0, B0c1, B0f0, B0f1, B0z, B1c0, B1c1, B1f0, B1f1, B1z, B2c0, B2c1, B2f0, B2f1, B2z]; done)) (by first | assumption | (simp [go_sem]; done) | (simp [go_sem, B0c0, B0c1, B0f0, B0f1, B0z, B1c0, B1c1, B1f0, B1f1, B1z, B2c0, B2c1, B2f0, B2f1, B2z]; done)) (by first | assumption | omega | (simp; done) | (simp; omega))
  clear B0c0 B0c1 B0f0 B0f1 B0z B1c0 B1c1 B1f0 B1f1 B1z B2c0 B2c1 B2f0 B2f1 B2z
  obtain ⟨C0c0, C0c1, C0f0, C0f1, C0z⟩ := C0
  obtain ⟨C1c0, C1c1, C1f0, C1f1, C1z⟩ := C1
  obtain ⟨C2c0, C2c1, C2f0, C2f1, C2z⟩ := C2
  clear h3 kb B2
  go_wp2_with fail
  refine (kd _).mono ?_
  rintro e w4 ⟨rfl, h4⟩
  have B4 : Below w.heap.size w w4 := Below.trans (by go_grown) (h4.mono (by first | (simp; done) | omega | (simp; omega)))
  have y4 := B4.size
  have D0 := box2 h4 (w.heap.size + 1 + 1) (.int .i64 0) (.int .u64 0) (by first | assumption | (refine (Below.cell ?_ C0z).trans C0c0; go_grown; done) | (simp [go_sem, C0c0]; done) | (simp [go_sem, C0c0, C0z]; done) | (simp [go_sem, C0c0, C0c1, C0f0, C0f1, C0z, C1c0, C1c1, C1f0, C1f1, C1z, C2c0, C2c1, C2f0, C2f1, C2z]; done)) (by first | assumption | (refine (Below.cell ?_ C0z).trans C0c1; go_grown; done) | (simp [go_sem, C0c1]; done) | (simp [go_sem, C0c1, C0z]; done) | (simp [go_sem, C0c0, C0c1, C0f0, C0f1, C0z, C1c0, C1c1, C1f0, C1f1, C1z, C2c0, C2c1, C2f0, C2f1, C2z]; done)) (by first | assumption | (refine (Below.frozen ?_ C0z).trans C0f0; go_grown; done) | (simp [go_sem, C0f0]; done) | (simp [go_sem, C0f0, C0z]; done) | (simp [go_sem, C0c0, C0c1, C0f0, C0f1, C0z, C1c0, C1c1, C1f0, C1f1, C1z, C2c0, C2c1, C2f0, C2f1, C2z]; done)) (by first | assumption | (refine (Below.frozen ?_ C0z).trans C0f1; go_grown; done) | (simp [go_sem, C0f1]; done) | (simp [go_sem, C0f1, C0z]; done) | (simp [go_sem, C0c0, C0c1, C0f0, C0f1, C0z, C1c0, C1c1, C1f0, C1f1, C1z, C2c0, C2c1, C2f0, C2f1, C2z]; done)) (by first | assumption | omega | (simp; done) | (simp; omega))
  have D1 := box2 h4 (w.heap.size + 1 + 1 + 1) (.int .i64 0) (.int .u64 0) (by first | assumption | (refine (Below.cell ?_ C1z).trans C1c0; go_grown; done) | (simp [go_sem, C1c0]; done) | (simp [go_sem, C1c0, C1z]; done) | (simp [go_sem, C0c0, C0c1, C0f0, C0f1, C0z, C1c0, C1c1, C1f0, C1f1, C1z, C2c0, C2c1, C2f0, C2f1, C2z]; done)) (by first | assumption | (refine (Below.cell ?_ C1z).trans C1c1; go_grown; done) | (simp [go_sem, C1c1]; done) | (simp [go_sem, C1c1, C1z]; done) | (simp [go_sem, C0c0, C0c1, C0f0, C0f1, C0z, C1c0, C1c1, C1f0, C1f1, C1z, C2c0, C2c1, C2f0, C2f1, C2z]; done)) (by first | assumption | (refine (Below.frozen ?_ C1z).trans C1f0; go_grown; done) | (simp [go_sem, C1f0]; done) | (simp [go_sem, C1f0, C1z]; done) | (simp [go_sem, C0c0, C0c1, C0f0, C0f1, C0z, C1c0, C1c1, C1f0, C1f1, C1z, C2c0, C2c1, C2f0, C2f1, C2z]; done)) (by first | assumption | (refine (Below.frozen ?_ C1z).trans C1f1; go_grown; done) | (simp [go_sem, C1f1]; done) | (simp [go_sem, C1f1, C1z]; done) | (simp [go_sem, C0c0, C0c1, C0f0, C0f1, C0z, C1c0, C1c1, C1f0, C1f1, C1z, C2c0, C2c1, C2f0, C2f1, C2z]; done)) (by first | assumption | omega | (simp; done) | (simp; omega))
  clear C0c0 C0c1 C0f0 C0f1 C0z C1c0 C1c1 C1f0 C1f1 C1z C2c0 C2c1 C2f0 C2f1 C2z
  obtain ⟨D0c0, D0c1, D0f0, D0f1, D0z⟩ := D0
  obtain ⟨D1c0, D1c1, D1f0, D1f1, D1z⟩ := D1
  clear h4 kd B3
  go_wp2_with fail
  refine (kq _).mono ?_
  rintro e w5 ⟨rfl, h5⟩
  have B5 : Below w.heap.size w w5 := Below.trans (by go_grown) (h5.mono (by first | (simp; done) | omega | (simp; omega)))
  have y5 := B5.size
  have E0 := box2 h5 (w.heap.size + 1 + 1) (.int .i64 0) (.int .u64 0) (by first | assumption | (refine (Below.cell ?_ D0z).trans D0c0; go_grown; done) | (simp [go_sem, D0c0]; done) | (simp [go_sem, D0c0, D0z]; done) | (simp [go_sem, D0c0, D0c1, D0f0, D0f1, D0z, D1c0, D1c1, D1f0, D1f1, D1z]; done)) (by first | assumption | (refine (Below.cell ?_ D0z).trans D0c1; go_grown; done) | (simp [go_sem, D0c1]; done) | (simp [go_sem, D0c1, D0z]; done) | (simp [go_sem, D0c0, D0c1, D0f0, D0f1, D0z, D1c0, D1c1, D1f0, D1f1, D1z]; done)) (by first | assumption | (refine (Below.frozen ?_ D0z).trans D0f0; go_grown; done) | (simp [go_sem, D0f0]; done) | (simp [go_sem, D0f0, D0z]; done) | (simp [go_sem, D0c0, D0c1, D0f0, D0f1, D0z, D1c0, D1c1, D1f0, D1f1, D1z]; done)) (by first | assumption | (refine (Below.frozen ?_ D0z).trans D0f1; go_grown; done) | (simp [go_sem, D0f1]; done) | (simp [go_sem, D0f1, D0z]; done) | (simp [go_sem, D0c0, D0c1, D0f0, D0f1, D0z, D1c0, D1c1, D1f0, D1f1, D1z]; done)) (by first | assumption | omega | (simp; done) | (simp; omega))
  have E1 := box2 h5 (w.heap.size + 1 + 1 + 1) (.int .i64 0) (.int .u64 0) (by first | assumption | (refine (Below.cell ?_ D1z).trans D1c0; go_grown; done) | (simp [go_sem, D1c0]; done) | (simp [go_sem, D1c0, D1z]; done) | (simp [go_sem, D0c0, D0c1, D0f0, D0f1, D0z, D1c0, D1c1, D1f0, D1f1, D1z]; done)) (by first | assumption | (refine (Below.cell ?_ D1z).trans D1c1; go_grown; done) | (simp [go_sem, D1c1]; done) | (simp [go_sem, D1c1, D1z]; done) | (simp [go_sem, D0c0, D0c1, D0f0, D0f1, D0z, D1c0, D1c1, D1f0, D1f1, D1z]; done)) (by first | assumption | (refine (Below.frozen ?_ D1z).trans D1f0; go_grown; done) | (simp [go_sem, D1f0]; done) | (simp [go_sem, D1f0, D1z]; done) | (simp [go_sem, D0c0, D0c1, D0f0, D0f1, D0z, D1c0, D1c1, D1f0, D1f1, D1z]; done)) (by first | assumption | (refine (Below.frozen ?_ D1z).trans D1f1; go_grown; done) | (simp [go_sem, D1f1]; done) | (simp [go_sem, D1f1, D1z]; done) | (simp [go_sem, D0c0, D0c1, D0f0, D0f1, D0z, D1c0, D1c1, D1f0, D1f1, D1z]; done)) (by first | assumption | omega | (simp; done) | (simp; omega))
  have E2 := box2 h5 (w4.heap.size + 1) (.int .u64 l0) (.int .u64 l1) (by first | assumption | (simp [go_sem]; done) | (simp [go_sem, D0c0, D0c1, D0f0, D0f1, D0z, D1c0, D1c1, D1f0, D1f1, D1z]; done)) (by first | assumption | (simp [go_sem]; done) | (simp [go_sem, D0c0, D0c1, D0f0, D0f1, D0z, D1c0, D1c1, D1f0, D1f1, D1z]; done)) (by first | assumption | (simp [go_sem]; done) | (simp [go_sem, D0c0, D0c1, D0f0, D0f1, D0z, D1c0, D1c1, D1f0, D1f1, D1z]; done)) (by first | assumption | (simp [go_sem]; done) | (simp [go_sem, D0c0, D0c1, D0f0, D0f1, D0z, D1c0, D1c1, D1f0, D1f1, D1z]; done)) (by first | assumption | omega | (simp; done) | (simp; omega))
  clear D0c0 D0c1 D0f0 D0f1 D0z D1c0 D1c1 D1f0 D1f1 D1z
  obtain ⟨E0c0, E0c1, E0f0, E0f1, E0z⟩ := E0
  obtain ⟨E1c0, E1c1, E1f0, E1f1, E1z⟩ := E1
  obtain ⟨E2c0, E2c1, E2f0, E2f1, E2z⟩ := E2
  clear h5 kq B4
  have ne1 : ¬ w.heap.size + 1 + 1 = w5.heap.size := by omega
  have ne2 : ¬ w.heap.size + 1 + 1 + 1 = w5.heap.size := by omega
  have ne3 : ¬ w5.heap.size = w.heap.size + 1 + 1 := by omega
  have ne4 : ¬ w5.heap.size = w.heap.size + 1 + 1 + 1 := by omega
  go_wp2_with fail
  refine (kr _).mono ?_
  rintro e w6 ⟨rfl, h6⟩
  have B6 : Below w.heap.size w w6 := Below.trans (by go_grown) (h6.mono (by first | (simp; done) | omega | (simp; omega)))
  have y6 := B6.size
  have F0 := box2 h6 (w.heap.size + 1 + 1) (.int .i64 0) (.int .u64 0) (by first | assumption | (refine (Below.cell ?_ E0z).trans E0c0; go_grown; done) | (simp [go_sem, E0c0]; done) | (simp [go_sem, E0c0, E0z]; done) | (simp [go_sem, E0c0, E0c1, E0f0, E0f1, E0z, E1c0, E1c1, E1f0, E1f1, E1z, E2c0, E2c1, E2f0, E2f1, E2z]; done)) (by first | assumption | (refine (Below.cell ?_ E0z).trans E0c1; go_grown; done) | (simp [go_sem, E0c1]; done) | (simp [go_sem, E0c1, E0z]; done) | (simp [go_sem, E0c0, E0c1, E0f0, E0f1, E0z, E1c0, E1c1, E1f0, E1f1, E1z, E2c0, E2c1, E2f0, E2f1, E2z]; done)) (by first | assumption | (refine (Below.frozen ?_ E0z).trans E0f0; go_grown; done) | (simp [go_sem, E0f0]; done) | (simp [go_sem, E0f0, E0z]; done) | (simp [go_sem, E0c0, E0c1, E0f0, E0f1, E0z, E1c0, E1c1, E1f0, E1f1, E1z, E2c0, E2c1, E2f0, E2f1, E2z]; done)) (by first | assumption | (refine (Below.frozen ?_ E0z).trans E0f1; go_grown; done) | (simp [go_sem, E0f1]; done) | (simp [go_sem, E0f1, E0z]; done) | (simp [go_sem, E0c0, E0c1, E0f0, E0f1, E0z, E1c0, E1c1, E1f0, E1f1, E1z, E2c0, E2c1, E2f0, E2f1, E2z]; done)) (by first | assumption | omega | (simp; done) | (simp; omega))
  have F1 := box2 h6 (w.heap.size + 1 + 1 + 1) (.int .i64 0) (.int .u64 0) (by first | assumption | (refine (Below.cell ?_ E1z).trans E1c0; go_grown; done) | (simp [go_sem, E1c0]; done) | (simp [go_sem, E1c0, E1z]; done) | (simp [go_sem, E0c0, E0c1, E0f0, E0f1, E0z, E1c0, E1c1, E1f0, E1f1, E1z, E2c0, E2c1, E2f0, E2f1, E2z]; done)) (by first | assumption | (refine (Below.cell ?_ E1z).trans E1c1; go_grown; done) | (simp [go_sem, E1c1]; done) | (simp [go_sem, E1c1, E1z]; done) | (simp [go_sem, E0c0, E0c1, E0f0, E0f1, E0z, E1c0, E1c1, E1f0, E1f1, E1z, E2c0, E2c1, E2f0, E2f1, E2z]; done)) (by first | assumption | (refine (Below.frozen ?_ E1z).trans E1f0; go_grown; done) | (simp [go_sem, E1f0]; done) | (simp [go_sem, E1f0, E1z]; done) | (simp [go_sem, E0c0, E0c1, E0f0, E0f1, E0z, E1c0, E1c1, E1f0, E1f1, E1z, E2c0, E2c1, E2f0, E2f1, E2z]; done)) (by first | assumption | (refine (Below.frozen ?_ E1z).trans E1f1; go_grown; done) | (simp [go_sem, E1f1]; done) | (simp [go_sem, E1f1, E1z]; done) | (simp [go_sem, E0c0, E0c1, E0f0, E0f1, E0z, E1c0, E1c1, E1f0, E1f1, E1z, E2c0, E2c1, E2f0, E2f1, E2z]; done)) (by first | assumption | omega | (simp; done) | (simp; omega))
  have F2 := box2 h6 (w5.heap.size) (.int .i64 s1) (.int .u64 s0) (by first | assumption | (simp [go_sem]; done) | (simp [go_sem, E0c0, E0c1, E0f0, E0f1, E0z, E1c0, E1c1, E1f0, E1f1, E1z, E2c0, E2c1, E2f0, E2f1, E2z]; done)) (by first | assumption | (simp [go_sem]; done) | (simp [go_sem, E0c0, E0c1, E0f0, E0f1, E0z, E1c0, E1c1, E1f0, E1f1, E1z, E2c0, E2c1, E2f0, E2f1, E2z]; done)) (by first | assumption | (simp [go_sem]; done) | (simp [go_sem, E0c0, E0c1, E0f0, E0f1, E0z, E1c0, E1c1, E1f0, E1f1, E1z, E2c0, E2c1, E2f0, E2f1, E2z]; done)) (by first | assumption | (simp [go_sem]; done) | (simp [go_sem, E0c0, E0c1, E0f0, E0f1, E0z, E1c0, E1c1, E1f0, E1f1, E1z, E2c0, E2c1, E2f0, E2f1, E2z]; done)) (by first | assumption | omega | (simp; done) | (simp; omega))
  clear E0c0 E0c1 E0f0 E0f1 E0z E1c0 E1c1 E1f0 E1f1 E1z E2c0 E2c1 E2f0 E2f1 E2z
  obtain ⟨F0c0, F0c1, F0f0, F0f1, F0z⟩ := F0
  obtain ⟨F1c0, F1c1, F1f0, F1f1, F1z⟩ := F1
  obtain ⟨F2c0, F2c1, F2f0, F2f1, F2z⟩ := F2
  clear h6 kr B5
  go_wp2_with fail
  go_region
  all_goals go_wp2
  all_goals
    refine bodyPost_ret (by simp [results, Try.results26, go_sem, F0c0, F0c1, F0z, F1c0, F1c1, F1z]; try rfl) rfl ?_
    exact ⟨rfl, by go_grown⟩
theorem sign_zero {v : Int} : (cmpI v 0 == 0) = decide (v = 0) := by
  rcases cmp_cases v 0 with ⟨h, e⟩ | ⟨h, e⟩ | ⟨h, e⟩ <;> rw [e] <;> simp <;> omega
/-- What Quo answers of a divisor that is not nought. -/
def quoQ (x y : Int) : Int := if Fits (Int.tdiv x y) then Int.tdiv x y else 0
def quoR (x y : Int) : Int := if Fits (Int.tdiv x y) then Int.tmod x y else 0
theorem ab_fits {v : Int} (f : Fits v) : ab v < 340282366920938463463374607431768211456 := by have := ab_le f; omega
theorem quo_none (a1 a0 b1 b0 : Int) (j0 : IsLo b0) (h : V b1 b0 = 0) (w : World) :
    Calls Try.prog 26 #[.agg #[.int .i64 a1, .int .u64 a0], .agg #[.int .i64 b1, .int .u64 b0]] w
      fun e w' => e = .returned (.tuple #[.agg #[.int .i64 0, .int .u64 0], .agg #[.int .i64 0, .int .u64 0], .int .i64 11]) ∧ Below w.heap.size w w' := by
  have ks := sign_spec b1 b0 j0
  rw [cmp_eq h] at ks
  exact quo_zero a1 a0 b1 b0 ks w
theorem quo_spec (a1 a0 b1 b0 : Int) (i : IsW (a1, a0)) (j : IsW (b1, b0)) (h : V b1 b0 ≠ 0) (w : World) :
    Calls Try.prog 26 #[.agg #[.int .i64 a1, .int .u64 a0], .agg #[.int .i64 b1, .int .u64 b0]] w
      fun e w' => e = .returned (.tuple #[.agg #[.int .i64 (hi (quoQ (V a1 a0) (V b1 b0))), .int .u64 (lo (quoQ (V a1 a0) (V b1 b0)))], .agg #[.int .i64 (hi (quoR (V a1 a0) (V b1 b0))), .int .u64 (lo (quoR (V a1 a0) (V b1 b0)))], .int .i64 (resE (Int.tdiv (V a1 a0) (V b1 b0)))]) ∧ Below w.heap.size w w' := by
  have fa : Fits (V a1 a0) := fits_V i.a i.b
  have fb : Fits (V b1 b0) := fits_V j.a j.b
  have ks := sign_spec b1 b0 j.b
  have z : (cmpI (V b1 b0) 0 == 0) = false := by rw [sign_zero]; exact decide_eq_false h
  have ka := amount_spec a1 a0 i.b i.a
  have kb := amount_spec b1 b0 j.b j.a
  have pa := ab_nonneg (V a1 a0)
  have pb := ab_gt0 h
  have kd := divide_spec (hi (ab (V a1 a0))) (lo (ab (V a1 a0))) (hi (ab (V b1 b0))) (lo (ab (V b1 b0))) (lo_ab fa) (isLo_lo _) (lo_ab fb) (isLo_lo _) (by rw [V_hi_lo]; omega)
  rw [V_hi_lo, V_hi_lo] at kd
  have q0 : 0 ≤ ab (V a1 a0) / ab (V b1 b0) := Int.ediv_nonneg pa (by omega)
  have q1 : ab (V a1 a0) / ab (V b1 b0) ≤ ab (V a1 a0) := Int.ediv_le_self _ pa
  have r0 := Int.emod_nonneg (ab (V a1 a0)) (show ab (V b1 b0) ≠ 0 by omega)
  have r1 := Int.emod_lt_of_pos (ab (V a1 a0)) pb
  have ua := ab_fits fa
  have ub := ab_fits fb
  have kq := signed_any (decide (a1 < 0) != decide (b1 < 0)) (hi (ab (V a1 a0) / ab (V b1 b0))) (lo (ab (V a1 a0) / ab (V b1 b0))) ⟨by unfold hi; omega, by unfold hi; omega⟩ (isLo_lo _)
  have kr := signed_any (decide (a1 < 0)) (hi (ab (V a1 a0) % ab (V b1 b0))) (lo (ab (V a1 a0) % ab (V b1 b0))) ⟨by unfold hi; omega, by unfold hi; omega⟩ (isLo_lo _)
  rw [V_hi_lo, neg_hi i, neg_hi j, ← tdiv_sg] at kq
  rw [V_hi_lo, neg_hi i, ← tmod_sg] at kr
  rw [neg_hi i] at ka
  rw [neg_hi j] at kb
  have fr := tmod_fits fa fb h
  unfold sumRes at kq kr
  rw [resV_fits fr, resE_fits fr] at kr
  by_cases f : Fits (Int.tdiv (V a1 a0) (V b1 b0))
  · have e1 : quoQ (V a1 a0) (V b1 b0) = Int.tdiv (V a1 a0) (V b1 b0) := if_pos f
    have e2 : quoR (V a1 a0) (V b1 b0) = Int.tmod (V a1 a0) (V b1 b0) := if_pos f
    rw [resV_fits f, resE_fits f] at kq
    rw [e1, e2, resE_fits f]
    exact quo_fits a1 a0 b1 b0 _ _ _ _ _ _ _ _ _ _ _ _ _ _ _ z ks ka kb kd kq kr w
  · have e1 : quoQ (V a1 a0) (V b1 b0) = 0 := if_neg f
    have e2 : quoR (V a1 a0) (V b1 b0) = 0 := if_neg f
    rw [resE_not f] at kq
    rw [e1, e2, resE_not f]
    exact quo_over a1 a0 b1 b0 _ _ _ _ _ _ _ _ _ _ _ _ _ z ks ka kb kd kq w
end Go.Proofs.Ytebiddmadmmfpaa
/- Plain numbers: the square root, bit by bit. -/
namespace Go.Proofs.Ytebiddmadmmfpaa
set_option linter.unusedVariables false
open Go.RowKit W
theorem root_or (r : Int) (k : Nat) (hk : k < 64) (a : 0 ≤ r) (b : r < 18446744073709551616) (hr : r % 2 ^ (k + 1) = 0) : bits .or .u64 r (2 ^ k) = r + 2 ^ k := by
  have p : (0 : Int) < 2 ^ k := Int.pow_pos (by omega)
  have q : (2 : Int) ^ k < 18446744073709551616 := by
    have e : (2 : Int) ^ k = ((2 ^ k : Nat) : Int) := by simp
    have l : 2 ^ k ≤ 2 ^ 63 := Nat.pow_le_pow_right (by omega) (by omega)
    omega
  rw [u64_or r (2 ^ k) a b (by omega) q]
  obtain ⟨n, rfl⟩ := Int.eq_ofNat_of_zero_le a
  have e : ((2 : Int) ^ k).toNat = 2 ^ k := by
    have : (2 : Int) ^ k = ((2 ^ k : Nat) : Int) := by simp
    rw [this]; rfl
  have hn : n % 2 ^ (k + 1) = 0 := by
    have : ((n % 2 ^ (k + 1) : Nat) : Int) = 0 := by simpa using hr
    omega
  rw [e]
  show ((n ||| 2 ^ k : Nat) : Int) = _
  rw [nat_join (k + 1) n (2 ^ k) hn (Nat.pow_lt_pow_right (by omega) (by omega))]
  simp
/-- The state of the root's loop: r has bits from k on. -/
structure RootAt (m r : Int) (k : Nat) : Prop where
  kk : k ≤ 64
  lo : 0 ≤ r
  fit : r + 2 ^ k ≤ 18446744073709551616
  mul : r % 2 ^ k = 0
  sq : r * r ≤ m
  up : m < (r + 2 ^ k) * (r + 2 ^ k)
theorem RootAt.start (m : Int) (a : 0 ≤ m) (b : m < 340282366920938463463374607431768211456) : RootAt m 0 64 := ⟨by omega, by omega, by decide, by decide, by omega, by simpa using b⟩
theorem pow2 (k : Nat) : (2 : Int) ^ (k + 1) = 2 * 2 ^ k := by rw [Int.pow_succ]; omega
theorem mod_half {r p : Int} (h : r % (2 * p) = 0) : r % p = 0 := Int.emod_eq_zero_of_dvd (Int.dvd_trans ⟨2, by omega⟩ (Int.dvd_of_emod_eq_zero h))
theorem RootAt.yes {m r : Int} {k : Nat} (h : RootAt m r (k + 1)) (s : (r + 2 ^ k) * (r + 2 ^ k) ≤ m) : RootAt m (r + 2 ^ k) k := by
  obtain ⟨a, b, c, d, e, f⟩ := h
  have p : (0 : Int) < 2 ^ k := Int.pow_pos (by omega)
  rw [pow2] at c d f
  refine ⟨by omega, by omega, by omega, ?_, s, ?_⟩
  · have := mod_half d
    rw [Int.add_emod, this]; simp
  · have e2 : r + 2 ^ k + 2 ^ k = r + 2 * 2 ^ k := by omega
    rw [e2]; exact f
theorem RootAt.no {m r : Int} {k : Nat} (h : RootAt m r (k + 1)) (s : m < (r + 2 ^ k) * (r + 2 ^ k)) : RootAt m r k := by
  obtain ⟨a, b, c, d, e, f⟩ := h
  have p : (0 : Int) < 2 ^ k := Int.pow_pos (by omega)
  rw [pow2] at c d f
  exact ⟨by omega, b, by omega, mod_half d, e, s⟩
end Go.Proofs.Ytebiddmadmmfpaa
/- wide: Root. -/
namespace Go.Proofs.Ytebiddmadmmfpaa
set_option linter.unusedVariables false
open Go.RowKit W
structure RootInv (w wr : World) (N : Nat) (m1 m0 : Int) : Prop where
  c0 : wr.cell? ⟨N, 0, none⟩ = some (.int .u64 m0)
  c1 : wr.cell? ⟨N, 1, none⟩ = some (.int .u64 m1)
  z : N < wr.heap.size
  r0 : wr.cell? ⟨w.heap.size + 1, 0, none⟩ = some (.int .i64 0)
  r1 : wr.cell? ⟨w.heap.size + 1, 1, none⟩ = some (.int .u64 0)
  g0 : wr.frozen? ⟨w.heap.size + 1, 0, none⟩ = false
  g1 : wr.frozen? ⟨w.heap.size + 1, 1, none⟩ = false
  y : w.heap.size + 1 < wr.heap.size
  below : Below w.heap.size w wr
theorem RootInv.later {w wr w' : World} {N : Nat} {m1 m0 : Int} (h : RootInv w wr N m1 m0) (b : Below wr.heap.size wr w') : RootInv w w' N m1 m0 :=
  ⟨(b.cell (p := ⟨N, 0, none⟩) h.z).trans h.c0, (b.cell (p := ⟨N, 1, none⟩) h.z).trans h.c1, Nat.lt_of_lt_of_le h.z b.size,
   (b.cell (p := ⟨w.heap.size + 1, 0, none⟩) h.y).trans h.r0, (b.cell (p := ⟨w.heap.size + 1, 1, none⟩) h.y).trans h.r1,
   (b.frozen (p := ⟨w.heap.size + 1, 0, none⟩) h.y).trans h.g0, (b.frozen (p := ⟨w.heap.size + 1, 1, none⟩) h.y).trans h.g1, Nat.lt_of_lt_of_le h.y b.size,
   h.below.trans (b.mono h.below.size)⟩
set_option maxHeartbeats 1600000 in
theorem root_pos (a b m1 m0 c : Int) (n : Bool) (c0 : ¬ c < 0) (j1 : IsLo m1) (j0 : IsLo m0)
    (ks : ∀ w, Calls Try.prog 49 #[.agg #[.int .i64 a, .int .u64 b]] w fun e w' => e = .returned (.int .i64 c) ∧ Below w.heap.size w w')
    (ka : ∀ w, Calls Try.prog 50 #[.agg #[.int .i64 a, .int .u64 b]] w fun e w' => e = .returned (.tuple #[.bool n, .agg #[.int .u64 m0, .int .u64 m1]]) ∧ Below w.heap.size w w') (w : World) :
    Calls Try.prog 65 #[.agg #[.int .i64 a, .int .u64 b]] w fun e w' => (∃ r, e = .returned (.tuple #[.agg #[.int .i64 0, .int .u64 r], .int .i64 0]) ∧ RootAt (V m1 m0) r 0) ∧ Below w.heap.size w w' := by
  go_enter Try.func65, Try.ntmps65
  go_wp2_with fail
  refine (ks _).mono ?_
  rintro e w1 ⟨rfl, hb⟩
  obtain ⟨khb0, fhb0, zhb0⟩ := live (.int .i64 a) hb (w.heap.size) 0 (by simp; try omega) (by simp [go_sem]) (by simp [go_sem]); obtain ⟨khb1, fhb1, zhb1⟩ := live (.int .u64 b) hb (w.heap.size) 1 (by simp; try omega) (by simp [go_sem]) (by simp [go_sem]); obtain ⟨khb2, fhb2, zhb2⟩ := live (.int .i64 0) hb (w.heap.size + 1) 0 (by simp; try omega) (by simp [go_sem]) (by simp [go_sem]); obtain ⟨khb3, fhb3, zhb3⟩ := live (.int .u64 0) hb (w.heap.size + 1) 1 (by simp; try omega) (by simp [go_sem]) (by simp [go_sem])
  have B1 : Below w.heap.size w w1 := Below.trans (by go_grown) (hb.mono (by simp; omega))
  clear hb
  go_wp2_with fail
  refine (ka _).mono ?_
  rintro e w2 ⟨rfl, hc⟩
  obtain ⟨k2, f2, z2⟩ := live _ hc (w.heap.size + 1) 0 zhb2 khb2 fhb2
  obtain ⟨k3, f3, z3⟩ := live _ hc (w.heap.size + 1) 1 zhb3 khb3 fhb3
  have B2 := B1.trans (hc.mono B1.size)
  clear hc B1 khb0 khb1 khb2 khb3 fhb0 fhb1 fhb2 fhb3
  go_wp2_with fail
  go_loopw [6, 7] (fun r i wr => ∃ (k : Nat) (x : Int), i = .int .i64 ((k : Int) - 1) ∧ r = .int .u64 x ∧ RootAt (V m1 m0) x k ∧ RootInv w wr w2.heap.size m1 m0) (fun _ i _ => (intOf i + 1).toNat)
  case atStart =>
    refine ⟨64, 0, rfl, rfl, RootAt.start _ (by obtain ⟨_, _⟩ := j1; obtain ⟨_, _⟩ := j0; unfold V; omega) (by obtain ⟨_, _⟩ := j1; obtain ⟨_, _⟩ := j0; unfold V; omega), ⟨?_, ?_, ?_, ?_, ?_, ?_, ?_, ?_, ?_⟩⟩
    all_goals first | (go_grown; done) | (simp [go_sem, k2, k3, f2, f3, z2]; done) | (simp; omega)
  case round =>
    obtain ⟨k, x, rfl, rfl, ra, inv⟩ := hrel
    rcases k with _ | k
    · have r0 := inv.r0
      have r1 := inv.r1
      have g0 := inv.g0
      have g1 := inv.g1
      have yy := inv.y
      have bl := inv.below
      have RA : Hid (RootAt (V m1 m0) x 0) := ra
      have e0 : ((0 : Nat) : Int) - 1 = -1 := by omega
      rw [e0]
      clear ra inv
      go_wp2_with fail
      refine bodyPost_ret (by simp [results, Try.results65, go_sem, r0, r1]; try rfl) rfl ?_
      exact ⟨⟨x, rfl, RA.out⟩, by go_grown⟩
    · have ei : ((k + 1 : Nat) : Int) - 1 = k := by omega
      rw [ei]
      clear ei
      have kk := ra.kk
      have hp : (0 : Int) < 2 ^ k := Int.pow_pos (by omega)
      have fit := ra.fit
      rw [pow2] at fit
      have lo0 := ra.lo
      have hor : bits .or .u64 x (IntKind.u64.wrap (2 ^ k)) = x + 2 ^ k := by
        rw [show IntKind.u64.wrap (2 ^ k) = 2 ^ k by rw [IntKind.wrap_u64]; exact Int.emod_eq_of_lt (by omega) (by omega)]
        exact root_or x k (by omega) lo0 (by omega) ra.mul
      obtain ⟨t, ht⟩ : ∃ t, t = x + 2 ^ k := ⟨_, rfl⟩
      rw [← ht] at hor
      have it : IsLo t := ⟨by omega, by omega⟩
      have km := mul64_spec t t it it
      have kb := below_spec m1 m0 (hi (t * t)) (lo (t * t)) j0 (isLo_lo _)
      rw [V_hi_lo] at kb
      have Y : Hid (t * t ≤ V m1 m0 → RootAt (V m1 m0) t k) := fun h => by rw [ht] at h ⊢; exact ra.yes h
      have N : Hid (V m1 m0 < t * t → RootAt (V m1 m0) x k) := fun h => by rw [ht] at h; exact ra.no h
      have c5 := inv.c0
      have c6 := inv.c1
      have z := inv.z
      have kl : (k : Int) < 64 := by omega
      have I : Hid (RootInv w wr w2.heap.size m1 m0) := inv
      clear ra inv hp fit lo0 it ht
      by_cases q : V m1 m0 < t * t
      · have d : decide (V m1 m0 < t * t) = true := decide_eq_true q
        rw [d] at kb
        have RR : Hid (RootAt (V m1 m0) x k) := N.out q
        clear Y N d q
        generalize hi (t * t) = s1 at *
        generalize lo (t * t) = s0 at *
        go_wp2_with fail
        refine (km _).mono ?_
        rintro e w3 ⟨rfl, rfl⟩
        go_wp2_with fail
        refine (kb _).mono ?_
        rintro e w4 ⟨rfl, hd⟩
        have BW : Below wr.heap.size wr w4 := Below.trans (by go_grown) (hd.mono (by simp))
        have I4 : RootInv w w4 w2.heap.size m1 m0 := I.out.later BW
        have J : Hid (RootInv w w4 w2.heap.size m1 m0) := I4
        clear hd BW I4
        go_wp2_with fail
        go_roundw
        case rel => exact ⟨k, x, by go_num, rfl, RR.out, J.out⟩
        case measure => simp [intOf]
      · have d : decide (V m1 m0 < t * t) = false := decide_eq_false q
        rw [d] at kb
        have RR : Hid (RootAt (V m1 m0) t k) := Y.out (by omega)
        clear Y N d q
        generalize hi (t * t) = s1 at *
        generalize lo (t * t) = s0 at *
        go_wp2_with fail
        refine (km _).mono ?_
        rintro e w3 ⟨rfl, rfl⟩
        go_wp2_with fail
        refine (kb _).mono ?_
        rintro e w4 ⟨rfl, hd⟩
        have BW : Below wr.heap.size wr w4 := Below.trans (by go_grown) (hd.mono (by simp))
        have I4 : RootInv w w4 w2.heap.size m1 m0 := I.out.later BW
        have J : Hid (RootInv w w4 w2.heap.size m1 m0) := I4
        clear hd BW I4
        go_wp2_with fail
        go_roundw
        case rel => exact ⟨k, t, by go_num, rfl, RR.out, J.out⟩
        case measure => simp [intOf]
set_option maxHeartbeats 1000000 in
theorem root_neg (a b c : Int) (c0 : c < 0)
    (ks : ∀ w, Calls Try.prog 49 #[.agg #[.int .i64 a, .int .u64 b]] w fun e w' => e = .returned (.int .i64 c) ∧ Below w.heap.size w w') (w : World) :
    Calls Try.prog 65 #[.agg #[.int .i64 a, .int .u64 b]] w fun e w' => e = .returned (.tuple #[.agg #[.int .i64 0, .int .u64 0], .int .i64 13]) ∧ Below w.heap.size w w' := by
  go_enter Try.func65, Try.ntmps65
  go_wp2_with fail
  refine (ks _).mono ?_
  rintro e w1 ⟨rfl, hb⟩
  obtain ⟨khb0, fhb0, zhb0⟩ := live (.int .i64 0) hb (w.heap.size + 1) 0 (by simp; try omega) (by simp [go_sem]) (by simp [go_sem]); obtain ⟨khb1, fhb1, zhb1⟩ := live (.int .u64 0) hb (w.heap.size + 1) 1 (by simp; try omega) (by simp [go_sem]) (by simp [go_sem])
  have B1 : Below w.heap.size w w1 := Below.trans (by go_grown) (hb.mono (by simp; omega))
  clear hb
  go_wp2_with fail
  refine bodyPost_ret (by simp [results, Try.results65, go_sem, khb0, khb1]; try rfl) rfl ?_
  exact ⟨rfl, by go_grown⟩
end Go.Proofs.Ytebiddmadmmfpaa
/- timer: mean. (gen_tm2.py) -/
namespace Go.Proofs.Ytebiddmadmmfpaa
set_option linter.unusedVariables false
set_option linter.unusedSimpArgs false
open Go.RowKit W T9
set_option maxRecDepth 100000 in
set_option maxHeartbeats 8000000 in
theorem mean_walk (s1 s0 n d1 d0 q1 q0 r1 r0 er m : Int) (b : Bool)
    (kf : ∀ w, Calls Try.prog 24 #[.int .i64 n] w fun e w' => e = .returned (.agg #[.int .i64 d1, .int .u64 d0]) ∧ Below w.heap.size w w')
    (kq : ∀ w, Calls Try.prog 26 #[.agg #[.int .i64 s1, .int .u64 s0], .agg #[.int .i64 d1, .int .u64 d0]] w fun e w' => e = .returned (.tuple #[.agg #[.int .i64 q1, .int .u64 q0], .agg #[.int .i64 r1, .int .u64 r0], .int .i64 er]) ∧ Below w.heap.size w w')
    (km : ∀ w, Calls Try.prog 55 #[.agg #[.int .i64 q1, .int .u64 q0]] w fun e w' => e = .returned (.tuple #[.int .i64 m, .bool b]) ∧ Below w.heap.size w w')
    (w : World) : Calls Try.prog 38 #[.agg #[.int .i64 s1, .int .u64 s0], .int .i64 n] w fun e w' => e = .returned (.int .i64 m) ∧ Below w.heap.size w w' := by
  go_enter Try.func38, Try.ntmps38
  go_wp2_with fail
  refine abs_wp (fun W => W.cell? ⟨w.heap.size, 0, none⟩ = some (.int .i64 s1) ∧ W.cell? ⟨w.heap.size, 1, none⟩ = some (.int .u64 s0) ∧ w.heap.size < W.heap.size ∧ Below w.heap.size w W) ?_ ?_
  · refine ⟨?_, ?_, ?_, ?_⟩
    all_goals first | assumption | (go_grown; done) | (simp [go_sem]; done) | (simp; done) | omega | (simp; omega)
  rintro W ⟨c0, c1, zW, BW⟩
  go_cut [5, 6] (fun q5 q6 W' => ∃ X Y : Nat, q5 = .pointer (some ⟨X, 0, none⟩) ∧ q6 = .pointer (some ⟨Y, 0, none⟩) ∧ Box2 W'  X (.int .i64 q1) (.int .u64 q0) ∧ Keeps W.heap.size W W')
  case first =>
    have K0 := Keeps.start (Nat.le_refl W.heap.size)
    have K1 := K0.drew
    go_region_held3 (fun w' => w'.cell? ⟨w.heap.size, 0, none⟩ = some (.int .i64 s1) ∧ w'.cell? ⟨w.heap.size, 1, none⟩ = some (.int .u64 s0) ∧ Keeps W.heap.size W w') ((refine (fun K => ⟨Keeps.cell K c0 (by omega), Keeps.cell K c1 (by omega), K⟩) (?_ : Keeps W.heap.size W _); ((repeat (first | with_reducible assumption | with_reducible refine Keeps.alloc ?_ _ | with_reducible refine Keeps.drew ?_ | with_reducible refine Keeps.setCell ?_ ?_ _)); (all_goals (first | (simp; done) | omega | (simp; omega))))))
      (first
      | (go_at_call 24; refine (kf _).mono ?_; rintro e v20 ⟨rfl, hb20⟩; have K20 := Keeps.call (B := W.heap.size) (W := W) (by (repeat (first | with_reducible assumption | with_reducible refine Keeps.alloc ?_ _ | with_reducible refine Keeps.drew ?_ | with_reducible refine Keeps.setCell ?_ ?_ _)); (all_goals (first | (simp; done) | omega | (simp; omega)))) hb20; obtain ⟨bc20, bf20, bs20⟩ := bcell hb20; (try simp only [World.size_alloc, World.size_drew] at bc20 bf20 bs20); (try (have ov200 : W.heap.size < v20.heap.size := by omega)); (try (have ov201 : W.heap.size ≤ v20.heap.size := by omega)); (try (have ov202 : ¬ W.heap.size = v20.heap.size := by omega)); (try (have ov203 : ¬ v20.heap.size = W.heap.size := by omega)); (try (have ov204 : W.heap.size + 1 < v20.heap.size := by omega)); (try (have ov205 : W.heap.size + 1 ≤ v20.heap.size := by omega)); (try (have ov206 : ¬ W.heap.size + 1 = v20.heap.size := by omega)); (try (have ov207 : ¬ v20.heap.size = W.heap.size + 1 := by omega)))
      | (go_at_call 26; refine (kq _).mono ?_; rintro e v21 ⟨rfl, hb21⟩; have K21 := Keeps.call (B := W.heap.size) (W := W) (by (repeat (first | with_reducible assumption | with_reducible refine Keeps.alloc ?_ _ | with_reducible refine Keeps.drew ?_ | with_reducible refine Keeps.setCell ?_ ?_ _)); (all_goals (first | (simp; done) | omega | (simp; omega)))) hb21; obtain ⟨bc21, bf21, bs21⟩ := bcell hb21; (try simp only [World.size_alloc, World.size_drew] at bc21 bf21 bs21); (try (have ov210 : W.heap.size < v21.heap.size := by omega)); (try (have ov211 : W.heap.size ≤ v21.heap.size := by omega)); (try (have ov212 : ¬ W.heap.size = v21.heap.size := by omega)); (try (have ov213 : ¬ v21.heap.size = W.heap.size := by omega)); (try (have ov214 : W.heap.size + 1 < v21.heap.size := by omega)); (try (have ov215 : W.heap.size + 1 ≤ v21.heap.size := by omega)); (try (have ov216 : ¬ W.heap.size + 1 = v21.heap.size := by omega)); (try (have ov217 : ¬ v21.heap.size = W.heap.size + 1 := by omega)); (try (have ov218 : v20.heap.size < v21.heap.size := by omega)); (try (have ov219 : v20.heap.size ≤ v21.heap.size := by omega)); (try (have ov2110 : ¬ v20.heap.size = v21.heap.size := by omega)); (try (have ov2111 : ¬ v21.heap.size = v20.heap.size := by omega)); (try (have ov2112 : v20.heap.size + 1 < v21.heap.size := by omega)); (try (have ov2113 : v20.heap.size + 1 ≤ v21.heap.size := by omega)); (try (have ov2114 : ¬ v20.heap.size + 1 = v21.heap.size := by omega)); (try (have ov2115 : ¬ v21.heap.size = v20.heap.size + 1 := by omega))))
    all_goals
      go_wp2_with fail
      go_meet
      case rel =>
        refine ⟨_, _, rfl, rfl, ⟨?_, ?_, ?_, ?_, ?_⟩, ?_⟩
        · first | (go_simp; done) | (go_simp; refine World.cell?_setCell_same' _ _ _ ?_; go_simp; done)
        · first | (go_simp; done) | (go_simp; refine World.cell?_setCell_same' _ _ _ ?_; go_simp; done)
        · first | (go_simp; done) | (go_simp; refine World.cell?_setCell_same' _ _ _ ?_; go_simp; done)
        · first | (go_simp; done) | (go_simp; refine World.cell?_setCell_same' _ _ _ ?_; go_simp; done)
        · first | (simp; done) | omega | (simp; omega)
        · (repeat (first | with_reducible assumption | with_reducible refine Keeps.alloc ?_ _ | with_reducible refine Keeps.drew ?_ | with_reducible refine Keeps.setCell ?_ ?_ _)); (all_goals (first | (simp; done) | omega | (simp; omega)))
  case rest =>
    obtain ⟨X, Y, rfl, rfl, bx, KK⟩ := hcut
    have bl := BW.trans (KK.below.mono BW.size)
    clear KK BW kf kq c0 c1 zW
    obtain ⟨x0, x1, x2, x3, x4⟩ := bx
    go_wp2_with fail
    refine (km _).mono ?_
    rintro e w9 ⟨rfl, h9⟩
    have b9 := bl.trans (h9.mono bl.size)
    clear h9 km
    go_wp2_with fail
    go_returns
    refine ⟨rfl, ?_⟩
    repeat (first | exact Below.refl _ _ | assumption | refine Below.setCell ?_ (by first | (simp; done) | omega | (simp; omega)) _ | refine Below.drew ?_ | refine below_drewN ?_ _ | refine Below.alloc ?_ (by first | (simp; done) | omega | (simp; omega)) _)
theorem IsHi_nat {n : Nat} (h : n ≤ 140737488355328) : IsHi (n : Int) := ⟨by omega, by omega⟩
theorem V_of {n : Int} (h : IsHi n) : V (hi n) (lo n) = n := V_hi_lo n
theorem smallV_of {v : Int} (h : IsHi v) : smallV v = v := by unfold smallV; rw [if_pos h]
theorem smallB_of {v : Int} (h : IsHi v) : smallB v = true := by unfold smallB; exact decide_eq_true h
/-- Quo of two numbers of which neither is below nought, the quotient small. -/
theorem quo_pos (s d : Int) (h0 : 0 ≤ s) (h1 : s < 170141183460469231731687303715884105728) (h2 : 0 < d) (h3 : d < 170141183460469231731687303715884105728) (w : World) :
    Calls Try.prog 26 #[.agg #[.int .i64 (hi s), .int .u64 (lo s)], .agg #[.int .i64 (hi d), .int .u64 (lo d)]] w
      fun e w' => e = .returned (.tuple #[.agg #[.int .i64 (hi (s / d)), .int .u64 (lo (s / d))], .agg #[.int .i64 (hi (s % d)), .int .u64 (lo (s % d))], .int .i64 0]) ∧ Below w.heap.size w w' := by
  have fs : Fits s := ⟨by omega, by omega⟩
  have fd : Fits d := ⟨by omega, by omega⟩
  have k := quo_spec (hi s) (lo s) (hi d) (lo d) (hiV_isW fs) (hiV_isW fd) (by rw [V_hi_lo]; omega) w
  rw [V_hi_lo, V_hi_lo] at k
  have e1 : Int.tdiv s d = s / d := Int.tdiv_eq_ediv_of_nonneg h0
  have e2 : Int.tmod s d = s % d := Int.tmod_eq_emod_of_nonneg h0
  have g0 : 0 ≤ s / d := Int.ediv_nonneg h0 (by omega)
  have g1 : s / d ≤ s := Int.ediv_le_self _ h0
  have fq : Fits (s / d) := ⟨by omega, by omega⟩
  have e3 : quoQ s d = s / d := by unfold quoQ; rw [e1, if_pos fq]
  have e4 : quoR s d = s % d := by unfold quoR; rw [e1, if_pos fq, e2]
  rw [e3, e4, e1, resE_fits fq] at k
  exact k
theorem small_pos (v : Int) (h : IsHi v) (w : World) :
    Calls Try.prog 55 #[.agg #[.int .i64 (hi v), .int .u64 (lo v)]] w fun e w' => e = .returned (.tuple #[.int .i64 v, .bool true]) ∧ Below w.heap.size w w' := by
  have k := small_spec (hi v) (lo v) (hiV_isW (fits_small h)) w
  rw [V_hi_lo, smallV_of h, smallB_of h] at k
  exact k
/-- mean: the sum's share, cut. -/
theorem mean_spec (s : Int) (n : Nat) (w : World) (h0 : 0 ≤ s) (h1 : s ≤ n * 100000000000000) (n0 : 0 < n) (n1 : n ≤ 140737488355328) :
    Calls Try.prog 38 #[.agg #[.int .i64 (hi s), .int .u64 (lo s)], .int .i64 n] w fun e w' => e = .returned (.int .i64 (s / n)) ∧ Below w.heap.size w w' := by
  have b : s / n ≤ 100000000000000 := by
    have := Int.ediv_le_ediv (c := (n : Int)) (by omega) h1
    rwa [Int.mul_ediv_cancel_left _ (by omega)] at this
  have g0 : 0 ≤ s / n := Int.ediv_nonneg h0 (by omega)
  have kf := wof_spec n (IsHi_nat n1)
  unfold wideRes at kf
  exact mean_walk _ _ _ _ _ _ _ _ _ _ _ _ kf (quo_pos s n h0 (by omega) (by omega) (by omega)) (small_pos _ ⟨by omega, by omega⟩) w
end Go.Proofs.Ytebiddmadmmfpaa
/- timer: deviation. (gen_tm2.py) -/
namespace Go.Proofs.Ytebiddmadmmfpaa
set_option linter.unusedVariables false
set_option linter.unusedSimpArgs false
open Go.RowKit W T9
/-- The state of deviation's loop. -/
structure TDev (w wr : World) (z1 z0 : Int) : Prop where
  s : Box2 wr w.heap.size (.int .i64 z1) (.int .u64 z0)
  below : Below w.heap.size w wr
theorem TDev.next {w wr v : World} {z1 z0 : Int} (h : TDev w wr z1 z0) (k : Below wr.heap.size wr v) (t1 t0 : Int) :
    TDev w ((v.setCell ⟨w.heap.size, 0, none⟩ (.int .i64 t1)).setCell ⟨w.heap.size, 1, none⟩ (.int .u64 t0)) t1 t0 :=
  ⟨(h.s.later k).set _ _, ((h.below.trans (k.mono h.below.size)).setCell (by show w.heap.size ≤ w.heap.size; omega) _).setCell (by show w.heap.size ≤ w.heap.size; omega) _⟩
/-- What is known of one number's turn: its difference from the mean, that's square, and the sum. -/
def DevAt (m z v t : Int) : Prop := IsHi (v - m) ∧ Fits ((v - m) * (v - m)) ∧ Fits z ∧ t = resV (z + (v - m) * (v - m))
set_option maxRecDepth 100000 in
set_option maxHeartbeats 8000000 in
theorem dev_some (g o c : Nat) (xs : List Int) (m d : Int) (w : World) (hx : LieI .i64 w g o xs) (hl : xs.length ≤ 140737488355328) (l0 : 0 < xs.length)
    (D : ∀ k (h : k < xs.length), DevAt m (sqC m (xs.take k)) xs[k] (sqC m (xs.take (k + 1)))) (dm : ∀ k (h : k < xs.length), 0 ≤ xs[k] ∧ xs[k] ≤ 100000000000000) (m0 : 0 ≤ m) (m1 : m ≤ 100000000000000)
    (s1 s0 d1 d0 q1 q0 r1 r0 er f1 f0 er3 : Int) (b : Bool) (hs1 : s1 = hi (sqC m xs)) (hs0 : s0 = lo (sqC m xs))
    (kf : ∀ w, Calls Try.prog 24 #[.int .i64 xs.length] w fun e w' => e = .returned (.agg #[.int .i64 d1, .int .u64 d0]) ∧ Below w.heap.size w w')
    (kq : ∀ w, Calls Try.prog 26 #[.agg #[.int .i64 s1, .int .u64 s0], .agg #[.int .i64 d1, .int .u64 d0]] w fun e w' => e = .returned (.tuple #[.agg #[.int .i64 q1, .int .u64 q0], .agg #[.int .i64 r1, .int .u64 r0], .int .i64 er]) ∧ Below w.heap.size w w')
    (kr : ∀ w, Calls Try.prog 65 #[.agg #[.int .i64 q1, .int .u64 q0]] w fun e w' => e = .returned (.tuple #[.agg #[.int .i64 f1, .int .u64 f0], .int .i64 er3]) ∧ Below w.heap.size w w')
    (km : ∀ w, Calls Try.prog 55 #[.agg #[.int .i64 f1, .int .u64 f0]] w fun e w' => e = .returned (.tuple #[.int .i64 d, .bool b]) ∧ Below w.heap.size w w')
    : Calls Try.prog 40 #[.slice (some ⟨g, o, none⟩) xs.length c, .int .i64 m] w fun e w' => e = .returned (.int .i64 d) ∧ Below w.heap.size w w' := by
  have S1 := hide hs1
  have S0 := hide hs0
  have H := hide hx
  have DD := hide D
  have DM := hide dm
  have L := hide hx.lt
  clear hs1 hs0 hx D dm
  go_enter Try.func40, Try.ntmps40
  go_wp2_with fail
  go_loopw [19] (fun i wr => ∃ (k : Nat), k ≤ xs.length ∧ i = .int .i64 k ∧ TDev w wr (hi (sqC m (xs.take k))) (lo (sqC m (xs.take k)))) (fun i _ => xs.length - (intOf i).toNat)
  case atStart =>
    refine ⟨0, by omega, rfl, ⟨⟨?_, ?_, ?_, ?_, ?_⟩, ?_⟩⟩
    all_goals first | (go_grown; done) | (simp [go_sem]; done) | (simp [go_sem, hi, lo, sqC]; done) | (simp; done) | (simp; omega)
  case round =>
    obtain ⟨k, hk, rfl, inv⟩ := hrel
    have I := hide inv
    clear inv
    by_cases hlt : k < xs.length
    · have e1 := (I.out.below.cell (p := ⟨g, o + k, none⟩) L.out).trans (H.out.cell k hlt)
      obtain ⟨ih, fq, fz, et⟩ := DD.out k hlt
      have b3 := DM.out k hlt
      obtain ⟨x, hxk⟩ : ∃ x, x = xs[k] := ⟨_, rfl⟩
      obtain ⟨z, hz⟩ : ∃ z, z = sqC m (xs.take k) := ⟨_, rfl⟩
      obtain ⟨t, ht⟩ : ∃ t, t = sqC m (xs.take (k + 1)) := ⟨_, rfl⟩
      have I2 := I.out
      rw [← hxk] at e1 ih fq et b3
      rw [← hz] at fz et I2
      rw [← ht] at et
      have J := hide I2
      have k1 := wof_spec (x - m) ih
      have k2 := mul_spec (hi (x - m)) (lo (x - m)) (hi (x - m)) (lo (x - m)) (hiV_isW (fits_small ih)) (hiV_isW (fits_small ih))
      rw [V_hi_lo] at k2
      have k3 := add_spec (hi z) (lo z) (hi ((x - m) * (x - m))) (lo ((x - m) * (x - m))) (hiV_isW fz) (hiV_isW fq)
      rw [V_hi_lo, V_hi_lo] at k3
      unfold sumRes at k2 k3
      rw [resV_fits fq, resE_fits fq] at k2
      rw [← et] at k3
      unfold wideRes at k1
      have T := hide ht
      obtain ⟨q0', q1', q2', q3', q5'⟩ := J.out.s
      have gw : g < wr.heap.size := Nat.lt_of_lt_of_le L.out J.out.below.size
      obtain ⟨wo, hwo⟩ : ∃ wo : World, wo = wr := ⟨_, rfl⟩
      clear hwo hxk hz ht ih fq fz I I2
      generalize resE (z + (x - m) * (x - m)) = er4 at k3
      clear et
      generalize hi z = z1 at *
      generalize lo z = z0 at *
      generalize hi ((x - m) * (x - m)) = y1 at k2 k3
      generalize lo ((x - m) * (x - m)) = y0 at k2 k3
      generalize hi (x - m) = x1 at k1 k2
      generalize lo (x - m) = x0 at k1 k2
      obtain ⟨t1, ht1⟩ : ∃ t1, t1 = hi t := ⟨_, rfl⟩
      obtain ⟨t0, ht0⟩ : ∃ t0, t0 = lo t := ⟨_, rfl⟩
      rw [← ht1, ← ht0] at k3
      have T1 := hide ht1
      have T0 := hide ht0
      clear ht1 ht0
      go_wp2_with fail
      refine (k1 _).mono ?_
      rintro e v1 ⟨rfl, h1⟩
      go_wp2_with fail
      refine (k1 _).mono ?_
      rintro e v2 ⟨rfl, h2⟩
      have j2 := h1.trans (h2.mono h1.size)
      clear h1 h2 k1
      go_wp2_with fail
      refine (k2 _).mono ?_
      rintro e v3 ⟨rfl, h3⟩
      have j3 := j2.trans (h3.mono j2.size)
      have Z := (J.out.s).later j3
      obtain ⟨c0, c1, c2, c3, c5⟩ := Z
      have g3 : wr.heap.size ≤ v3.heap.size := j3.size
      have ne : ¬ v3.heap.size = w.heap.size := by omega
      have ne2 : ¬ w.heap.size = v3.heap.size := by omega
      clear h3 k2 j2 q0' q1' q2' q3' q5'
      go_wp2_with fail
      refine (k3 _).mono ?_
      rintro e v4 ⟨rfl, h4⟩
      have j4 : Below wr.heap.size wr v4 := Below.trans (by go_grown) (h4.mono (by simp; omega))
      obtain ⟨p0, p1, p2, p3, p5⟩ := J.out.s.later j4
      have F := hide (J.out.next j4 t1 t0)
      clear h4 k3 j3 j4 c0 c1 c2 c3 c5
      go_wp2_with fail
      go_roundw
      case rel => exact ⟨k + 1, by omega, by go_num, by rw [← T.out, ← T1.out, ← T0.out]; exact F.out⟩
      case measure => simp [intOf]; omega
    · obtain rfl : k = xs.length := by omega
      have I2 := I.out
      rw [List.take_length] at I2
      have e := S1.out
      have e0 := S0.out
      rw [← e, ← e0] at I2
      obtain ⟨⟨c0, c1, q2, q3, zW⟩, BW0⟩ := I2
      have BW := hide BW0
      have y0 := BW0.size
      clear I e e0 BW0 S1 S0 DD DM H
      obtain ⟨W, rfl⟩ : ∃ W : World, W = wr := ⟨_, rfl⟩
      go_wp2_with fail
      go_cut [10, 11] (fun q10 q11 W' => ∃ X Y : Nat, q10 = .pointer (some ⟨X, 0, none⟩) ∧ q11 = .pointer (some ⟨Y, 0, none⟩) ∧ Box2 W'  X (.int .i64 q1) (.int .u64 q0) ∧ Keeps W.heap.size W W')
      case first =>
        have K0 := Keeps.start (Nat.le_refl W.heap.size)
        have K1 := K0.drew
        go_region_held3 (fun w' => w'.cell? ⟨w.heap.size, 0, none⟩ = some (.int .i64 s1) ∧ w'.cell? ⟨w.heap.size, 1, none⟩ = some (.int .u64 s0) ∧ Keeps W.heap.size W w') ((refine (fun K => ⟨Keeps.cell K c0 (by omega), Keeps.cell K c1 (by omega), K⟩) (?_ : Keeps W.heap.size W _); (repeat (first | assumption | refine Keeps.alloc ?_ _ | refine Keeps.drew ?_ | refine Keeps.setCell ?_ (by first | (simp; done) | omega | (simp; omega)) _))))
          (first
          | (go_at_call 24; refine (kf _).mono ?_; rintro e v20 ⟨rfl, hb20⟩; have K20 := Keeps.call (B := W.heap.size) (W := W) (by repeat (first | assumption | refine Keeps.alloc ?_ _ | refine Keeps.drew ?_ | refine Keeps.setCell ?_ (by first | (simp; done) | omega | (simp; omega)) _)) hb20; obtain ⟨bc20, bf20, bs20⟩ := bcell hb20; (try simp only [World.size_alloc, World.size_drew] at bc20 bf20 bs20); (try (have ov200 : W.heap.size < v20.heap.size := by omega)); (try (have ov201 : W.heap.size ≤ v20.heap.size := by omega)); (try (have ov202 : ¬ W.heap.size = v20.heap.size := by omega)); (try (have ov203 : ¬ v20.heap.size = W.heap.size := by omega)); (try (have ov204 : W.heap.size + 1 < v20.heap.size := by omega)); (try (have ov205 : W.heap.size + 1 ≤ v20.heap.size := by omega)); (try (have ov206 : ¬ W.heap.size + 1 = v20.heap.size := by omega)); (try (have ov207 : ¬ v20.heap.size = W.heap.size + 1 := by omega)))
          | (go_at_call 26; refine (kq _).mono ?_; rintro e v21 ⟨rfl, hb21⟩; have K21 := Keeps.call (B := W.heap.size) (W := W) (by repeat (first | assumption | refine Keeps.alloc ?_ _ | refine Keeps.drew ?_ | refine Keeps.setCell ?_ (by first | (simp; done) | omega | (simp; omega)) _)) hb21; obtain ⟨bc21, bf21, bs21⟩ := bcell hb21; (try simp only [World.size_alloc, World.size_drew] at bc21 bf21 bs21); (try (have ov210 : W.heap.size < v21.heap.size := by omega)); (try (have ov211 : W.heap.size ≤ v21.heap.size := by omega)); (try (have ov212 : ¬ W.heap.size = v21.heap.size := by omega)); (try (have ov213 : ¬ v21.heap.size = W.heap.size := by omega)); (try (have ov214 : W.heap.size + 1 < v21.heap.size := by omega)); (try (have ov215 : W.heap.size + 1 ≤ v21.heap.size := by omega)); (try (have ov216 : ¬ W.heap.size + 1 = v21.heap.size := by omega)); (try (have ov217 : ¬ v21.heap.size = W.heap.size + 1 := by omega)); (try (have ov218 : v20.heap.size < v21.heap.size := by omega)); (try (have ov219 : v20.heap.size ≤ v21.heap.size := by omega)); (try (have ov2110 : ¬ v20.heap.size = v21.heap.size := by omega)); (try (have ov2111 : ¬ v21.heap.size = v20.heap.size := by omega)); (try (have ov2112 : v20.heap.size + 1 < v21.heap.size := by omega)); (try (have ov2113 : v20.heap.size + 1 ≤ v21.heap.size := by omega)); (try (have ov2114 : ¬ v20.heap.size + 1 = v21.heap.size := by omega)); (try (have ov2115 : ¬ v21.heap.size = v20.heap.size + 1 := by omega))))
        all_goals
          go_wp2_with fail
          go_meet
          case rel =>
            refine ⟨_, _, rfl, rfl, ⟨?_, ?_, ?_, ?_, ?_⟩, ?_⟩
            · first | (go_simp; done) | (go_simp; refine World.cell?_setCell_same' _ _ _ ?_; go_simp; done)
            · first | (go_simp; done) | (go_simp; refine World.cell?_setCell_same' _ _ _ ?_; go_simp; done)
            · first | (go_simp; done) | (go_simp; refine World.cell?_setCell_same' _ _ _ ?_; go_simp; done)
            · first | (go_simp; done) | (go_simp; refine World.cell?_setCell_same' _ _ _ ?_; go_simp; done)
            · first | (simp; done) | omega | (simp; omega)
            · repeat (first | assumption | refine Keeps.alloc ?_ _ | refine Keeps.drew ?_ | refine Keeps.setCell ?_ (by first | (simp; done) | omega | (simp; omega)) _)
      case rest =>

        obtain ⟨X, Y, rfl, rfl, bx, KK⟩ := hcut
        have bl := BW.out.trans (KK.below.mono BW.out.size)
        clear KK BW kf kq c0 c1 zW
        obtain ⟨x0, x1, x2, x3, x4⟩ := bx
        go_wp2_with fail
        refine (kr _).mono ?_
        rintro e w9 ⟨rfl, h9⟩
        have b9 := bl.trans (h9.mono bl.size)
        have y9 := b9.size
        clear h9 kr bl x0 x1 x2 x3 x4
        go_wp2_with fail
        refine (km _).mono ?_
        rintro e w10 ⟨rfl, h10⟩
        have b10 : Below w.heap.size w w10 := Below.trans (by go_grown) (h10.mono (by simp; omega))
        clear h10 km
        go_wp2_with fail
        go_returns
        refine ⟨rfl, ?_⟩
        exact b10
end Go.Proofs.Ytebiddmadmmfpaa
/- Plain numbers: lists of limbs of 16 bits, the lowest first, as whole numbers. No Go in sight. -/
namespace Go.Proofs.Ytebiddmadmmfpaa
set_option linter.unusedVariables false
namespace Lb
def val : List Int → Int
  | [] => 0
  | x :: l => x + 65536 * val l
def pw : Nat → Int
  | 0 => 1
  | n + 1 => 65536 * pw n
theorem pw_pos (n : Nat) : 0 < pw n := by induction n with | zero => decide | succ n ih => show 0 < 65536 * pw n; omega
theorem pw_add (m n : Nat) : pw (m + n) = pw m * pw n := by
  induction m with
  | zero => simp [pw]
  | succ m ih => rw [Nat.succ_add]; show 65536 * pw (m + n) = 65536 * pw m * pw n; rw [ih, Int.mul_assoc]
theorem pw_mono {m n : Nat} (h : m ≤ n) : pw m ≤ pw n := by
  obtain ⟨k, rfl⟩ := Nat.exists_eq_add_of_le h
  rw [pw_add]
  have a := pw_pos m; have b := pw_pos k
  have : pw m * 1 ≤ pw m * pw k := Int.mul_le_mul_of_nonneg_left (by omega) (by omega)
  omega
/-- Each limb has 16 bits. -/
def Ok (l : List Int) : Prop := ∀ x ∈ l, 0 ≤ x ∧ x < 65536
/-- No 0 at the top. -/
def Top (l : List Int) : Prop := l = [] ∨ l.getD (l.length - 1) 0 ≠ 0
theorem ok_nil : Ok [] := by intro x h; simp at h
theorem ok_snoc {l : List Int} {x : Int} (h : Ok l) (a : 0 ≤ x) (b : x < 65536) : Ok (l ++ [x]) := by
  intro y hy; rcases List.mem_append.1 hy with h1 | h1
  · exact h y h1
  · rw [List.mem_singleton] at h1; subst h1; exact ⟨a, b⟩
theorem ok_take {l : List Int} (h : Ok l) (k : Nat) : Ok (l.take k) := fun x hx => h x (List.mem_of_mem_take hx)
theorem ok_at {l : List Int} (h : Ok l) (k : Nat) : 0 ≤ l.getD k 0 ∧ l.getD k 0 < 65536 := by
  by_cases hk : k < l.length
  · simp only [List.getD, List.getElem?_eq_getElem hk, Option.getD_some]; exact h _ (List.getElem_mem _)
  · simp [List.getD, List.getElem?_eq_none (Nat.le_of_not_lt hk)]
theorem at_out {l : List Int} {k : Nat} (hk : l.length ≤ k) : l.getD k 0 = 0 := by simp [List.getD, List.getElem?_eq_none hk]
theorem val_append (l m : List Int) : val (l ++ m) = val l + pw l.length * val m := by
  induction l with
  | nil => simp [val, pw]
  | cons x l ih => simp only [List.cons_append, val, ih, List.length_cons, pw]; grind
theorem val_snoc (l : List Int) (x : Int) : val (l ++ [x]) = val l + pw l.length * x := by rw [val_append]; simp [val]
theorem val_zero (l : List Int) (n : Nat) : val (l ++ List.replicate n 0) = val l := by
  have : val (List.replicate n (0 : Int)) = 0 := by induction n with | zero => rfl | succ n ih => simp [List.replicate_succ, val, ih]
  rw [val_append, this]; simp
theorem val_take (l : List Int) (k : Nat) : val (l.take (k + 1)) = val (l.take k) + pw k * l.getD k 0 := by
  by_cases hk : k < l.length
  · rw [List.take_succ_eq_append_getElem hk, val_snoc, List.length_take_of_le (Nat.le_of_lt hk)]
    simp [List.getD, List.getElem?_eq_getElem hk]
  · rw [List.take_of_length_le (by omega), List.take_of_length_le (by omega), at_out (by omega)]; simp
theorem val_nonneg {l : List Int} (h : Ok l) : 0 ≤ val l := by
  induction l with
  | nil => simp [val]
  | cons x l ih =>
    have := ih (fun y hy => h y (List.mem_cons_of_mem _ hy)); have := (h x (List.mem_cons_self ..)).1
    simp only [val]; omega
theorem val_lt {l : List Int} (h : Ok l) : val l < pw l.length := by
  induction l with
  | nil => simp [val, pw]
  | cons x l ih =>
    have := ih (fun y hy => h y (List.mem_cons_of_mem _ hy)); have := (h x (List.mem_cons_self ..)).2
    simp only [val, List.length_cons, pw]; omega
theorem val_lt' {l : List Int} (h : Ok l) {n : Nat} (hn : l.length ≤ n) : val l < pw n := Int.lt_of_lt_of_le (val_lt h) (pw_mono hn)
/-- A list with no 0 at the top is not below the power of its length less one. -/
theorem val_ge {l : List Int} (h : Ok l) (t : Top l) (n : Nat) (hn : l.length = n + 1) : pw n ≤ val l := by
  have e : val l = val (l.take n) + pw n * l.getD n 0 := by
    have := val_take l n; rwa [List.take_of_length_le (by omega)] at this
  have a := val_nonneg (ok_take h n)
  have b := ok_at h n
  have c : l.getD n 0 ≠ 0 := by
    rcases t with rfl | t
    · simp at hn
    · rwa [hn] at t
  have p := pw_pos n
  have : pw n * 1 ≤ pw n * l.getD n 0 := Int.mul_le_mul_of_nonneg_left (by omega) (by omega)
  omega
theorem val_lt_of_length {a b : List Int} (ha : Ok a) (hb : Ok b) (tb : Top b) (h : a.length < b.length) : val a < val b := by
  obtain ⟨n, hn⟩ : ∃ n, b.length = n + 1 := ⟨b.length - 1, by omega⟩
  have := val_ge hb tb n hn
  have := val_lt' ha (show a.length ≤ n by omega)
  omega
theorem length_le_of_val {a b : List Int} (ha : Ok a) (ta : Top a) (hb : Ok b) (h : val a ≤ val b) : a.length ≤ b.length := by
  apply Decidable.byContradiction; intro g
  have := val_lt_of_length hb ha ta (by omega); omega
theorem val_eq_zero {l : List Int} (h : Ok l) (t : Top l) (e : val l = 0) : l = [] := by
  cases l with
  | nil => rfl
  | cons x l => have := val_ge h t l.length (by simp); have := pw_pos l.length; omega
/-- The same number, the same list. -/
theorem val_inj_len {a b : List Int} (ha : Ok a) (hb : Ok b) (h : a.length = b.length) (e : val a = val b) : a = b := by
  induction a generalizing b with
  | nil => cases b with | nil => rfl | cons y b => simp at h
  | cons x a ih =>
    cases b with
    | nil => simp at h
    | cons y b =>
      have h1 := ha x (List.mem_cons_self ..); have h2 := hb y (List.mem_cons_self ..)
      simp only [val] at e
      have e1 : x = y := by omega
      have e2 : val a = val b := by omega
      rw [e1, ih (fun z hz => ha z (List.mem_cons_of_mem _ hz)) (fun z hz => hb z (List.mem_cons_of_mem _ hz)) (by simpa using h) e2]
theorem val_inj {a b : List Int} (ha : Ok a) (ta : Top a) (hb : Ok b) (tb : Top b) (e : val a = val b) : a = b :=
  val_inj_len ha hb (Nat.le_antisymm (length_le_of_val ha ta hb (by omega)) (length_le_of_val hb tb ha (by omega))) e
/-- The list without zeros at the top, by its length. -/
def top : List Int → Nat → Nat
  | _, 0 => 0
  | l, n + 1 => if l.getD n 0 = 0 then top l n else n + 1
theorem top_le (l : List Int) (n : Nat) : top l n ≤ n := by
  induction n with
  | zero => simp [top]
  | succ n ih => simp only [top]; split <;> omega
theorem val_top (l : List Int) (n : Nat) : val (l.take (top l n)) = val (l.take n) := by
  induction n with
  | zero => simp [top]
  | succ n ih =>
    simp only [top]; split
    · next h => rw [ih, val_take, h]; simp
    · rfl
theorem top_top (l : List Int) (n : Nat) (hn : n ≤ l.length) : Top (l.take (top l n)) := by
  induction n with
  | zero => left; simp [top]
  | succ n ih =>
    simp only [top]; split
    · exact ih (by omega)
    · next h =>
      right
      rw [List.length_take_of_le hn]
      simp only [Nat.add_sub_cancel]
      rw [List.getD_eq_getElem?_getD, List.getElem?_take_of_lt (by omega)]
      simpa [List.getD_eq_getElem?_getD] using h
/-- One round of a sum. -/
theorem add_round {o : List Int} {a b : List Int} {i : Nat} {c x y s : Int} (hx : x = a.getD i 0) (hy : y = b.getD i 0) (hs : s = x + y + c) (ho : o.length = i)
    (h : val o + pw i * c = val (a.take i) + val (b.take i)) : val (o ++ [s % 65536]) + pw (i + 1) * (s / 65536) = val (a.take (i + 1)) + val (b.take (i + 1)) := by
  have e : s % 65536 + 65536 * (s / 65536) = s := by omega
  rw [val_snoc, val_take, val_take, ho, ← hx, ← hy]; simp only [pw]
  generalize s % 65536 = r at *; generalize s / 65536 = q at *
  grind
/-- One round of a difference. -/
theorem sub_round {o : List Int} {a b : List Int} {i : Nat} {c x y s : Int} (hx : x = a.getD i 0) (hy : y = b.getD i 0) (hs : s = x + 65536 - y - c) (ho : o.length = i)
    (h : val o + val (b.take i) = val (a.take i) + pw i * c) : val (o ++ [s % 65536]) + val (b.take (i + 1)) = val (a.take (i + 1)) + pw (i + 1) * (1 - s / 65536) := by
  have e : s % 65536 + 65536 * (s / 65536) = s := by omega
  rw [val_snoc, val_take, val_take, ho, ← hx, ← hy]; simp only [pw]
  generalize s % 65536 = r at *; generalize s / 65536 = q at *
  grind
/-- One limb of a list turned into another. -/
theorem val_set (l : List Int) (k : Nat) (hk : k < l.length) (x : Int) : val (l.set k x) = val l + pw k * (x - l.getD k 0) := by
  induction l generalizing k with
  | nil => simp at hk
  | cons y l ih =>
    cases k with
    | zero => simp [val, pw, List.getD]; omega
    | succ k =>
      have := ih k (by simpa using hk)
      simp only [List.set_cons_succ, val, this, pw]
      simp only [List.getD_cons_succ]
      grind
theorem ok_set {l : List Int} (h : Ok l) (k : Nat) {x : Int} (a : 0 ≤ x) (b : x < 65536) : Ok (l.set k x) := by
  intro y hy; rcases List.mem_or_eq_of_mem_set hy with h1 | h1
  · exact h y h1
  · subst h1; exact ⟨a, b⟩
/-- One step of a row of a product. -/
theorem mul_step {o : List Int} {a b : List Int} {i j : Nat} {c x y s P : Int} (hk : i + j < o.length) (hy : y = b.getD j 0) (hs : s = o.getD (i + j) 0 + x * y + c)
    (h : val o + pw (i + j) * c = P + pw i * (x * val (b.take j))) : val (o.set (i + j) (s % 65536)) + pw (i + (j + 1)) * (s / 65536) = P + pw i * (x * val (b.take (j + 1))) := by
  have e : s % 65536 + 65536 * (s / 65536) = s := by omega
  rw [val_set _ _ hk, val_take, ← hy]
  have e2 : pw (i + (j + 1)) = 65536 * pw (i + j) := by rw [← Nat.add_assoc]; rfl
  have e3 : pw (i + j) = pw i * pw j := pw_add i j
  rw [e2]
  generalize o.getD (i + j) 0 = z at *; generalize s % 65536 = r at *; generalize s / 65536 = q at *
  generalize pw (i + j) = p at *
  grind
end Lb
end Go.Proofs.Ytebiddmadmmfpaa
/- Plain numbers: limbs as words, bits of a list of limbs, division bit by bit, roots. -/
namespace Go.Proofs.Ytebiddmadmmfpaa
set_option linter.unusedVariables false
namespace Lb
def p2 : Nat → Int
  | 0 => 1
  | n + 1 => 2 * p2 n
theorem p2_pos (n : Nat) : 0 < p2 n := by induction n with | zero => decide | succ n ih => show 0 < 2 * p2 n; omega
theorem p2_add (m n : Nat) : p2 (m + n) = p2 m * p2 n := by
  induction m with
  | zero => simp [p2]
  | succ m ih => rw [Nat.succ_add]; show 2 * p2 (m + n) = 2 * p2 m * p2 n; rw [ih, Int.mul_assoc]
theorem p2_pow (n : Nat) : p2 n = 2 ^ n := by
  induction n with
  | zero => rfl
  | succ n ih => show 2 * p2 n = _; rw [ih, Int.pow_succ]; omega
theorem p2_16 : p2 16 = 65536 := by decide
theorem p2_pw (n : Nat) : p2 (16 * n) = pw n := by
  induction n with
  | zero => rfl
  | succ n ih => rw [show 16 * (n + 1) = 16 + 16 * n by omega, p2_add, ih, p2_16]; rfl
/-- A limb of a list, by the number. -/
theorem at_val {l : List Int} (h : Ok l) (k : Nat) : l.getD k 0 = val l / pw k % 65536 := by
  induction l generalizing k with
  | nil => simp [val]
  | cons x l ih =>
    have hx := h x (List.mem_cons_self ..)
    have hl : Ok l := fun y hy => h y (List.mem_cons_of_mem _ hy)
    cases k with
    | zero => simp only [List.getD_cons_zero, val, pw]; omega
    | succ k =>
      rw [List.getD_cons_succ, ih hl k]
      simp only [val, pw]
      have : (x + 65536 * val l) / (65536 * pw k) = val l / pw k := by
        rw [← Int.ediv_ediv_of_nonneg (by omega)]
        congr 1; omega
      rw [this]
theorem bit_val {l : List Int} (h : Ok l) (i : Nat) : l.getD (i / 16) 0 / p2 (i % 16) % 2 = val l / p2 i % 2 := by
  rw [at_val h]
  have e : p2 i = pw (i / 16) * p2 (i % 16) := by rw [← p2_pw, ← p2_add]; congr 1; omega
  rw [e, ← Int.ediv_ediv_of_nonneg (Int.le_of_lt (pw_pos _))]
  generalize val l / pw (i / 16) = y
  have h16 : (65536 : Int) = p2 (i % 16) * p2 (16 - i % 16) := by rw [← p2_add, ← p2_16]; congr 1; omega
  have hp := p2_pos (i % 16)
  obtain ⟨m, hm⟩ : ∃ m, 16 - i % 16 = m + 1 := ⟨15 - i % 16, by omega⟩
  rw [hm] at h16
  have e2 : p2 (m + 1) = 2 * p2 m := rfl
  rw [e2] at h16
  -- y % 65536 / q % 2 = y / q % 2
  have e3 : y % 65536 = y - 65536 * (y / 65536) := by omega
  rw [e3, h16]
  generalize y / (p2 (i % 16) * (2 * p2 m)) = z
  have e4 : y - p2 (i % 16) * (2 * p2 m) * z = y + p2 (i % 16) * (-(2 * (p2 m * z))) := by grind
  rw [e4, Int.add_mul_ediv_left _ _ (by omega)]
  omega
/-- The limbs of a word, eight or four of them. -/
def words : Nat → Int → List Int
  | 0, _ => []
  | n + 1, x => x % 65536 :: words n (x / 65536)
theorem words_len (n : Nat) (x : Int) : (words n x).length = n := by induction n generalizing x with | zero => rfl | succ n ih => simp [words, ih]
theorem words_ok (n : Nat) (x : Int) : Ok (words n x) := by
  induction n generalizing x with
  | zero => exact ok_nil
  | succ n ih =>
    intro y hy; simp only [words, List.mem_cons] at hy
    rcases hy with rfl | hy
    · omega
    · exact ih _ y hy
theorem words_val (n : Nat) (x : Int) (h0 : 0 ≤ x) (h : x < pw n) : val (words n x) = x := by
  induction n generalizing x with
  | zero => simp [words, val]; simp [pw] at h; omega
  | succ n ih =>
    simp only [words, val]
    rw [ih (x / 65536) (by omega) (by simp only [pw] at h; omega)]; omega
theorem words_snoc (n : Nat) (x : Int) : words (n + 1) x = words n x ++ [x / pw n % 65536] := by
  induction n generalizing x with
  | zero => simp [words, pw]
  | succ n ih =>
    rw [words, ih]; simp only [words, List.cons_append, pw]
    rw [← Int.ediv_ediv_of_nonneg (by omega)]
/-- One round of a division by bits: a the number, m + 1 bits were left, m are. -/
theorem div_round {A Q b r r2 : Int} {m : Nat} (h : A / p2 (m + 1) = Q * b + r) (e : r2 = 2 * r + A / p2 m % 2) : A / p2 m = (2 * Q) * b + r2 := by
  have : A / p2 (m + 1) = A / p2 m / 2 := by
    show A / (2 * p2 m) = _
    rw [Int.mul_comm, ← Int.ediv_ediv_of_nonneg (Int.le_of_lt (p2_pos m))]
  rw [this] at h
  generalize A / p2 m = x at *
  have : x = 2 * (x / 2) + x % 2 := by omega
  grind
end Lb
end Go.Proofs.Ytebiddmadmmfpaa
/- Slices of limbs as they lie in memory. -/
namespace Go.Proofs.Ytebiddmadmmfpaa
set_option linter.unusedVariables false
open Go.RowKit W Lb
theorem shape_new (w : World) (c : Array Value) (t : TypeId) (f : Nat × Nat) : (w.alloc (.cells c t f)).shape? w.heap.size = some (t, c.size) := by
  have : (w.alloc (.cells c t f)).heap[w.heap.size]? = some (.cells c t f) := by show (w.heap.push _)[w.heap.size]? = _; simp
  unfold World.shape?; rw [this]
theorem shape_top (w : World) (c : Array Value) (t : TypeId) (f : Nat × Nat) {n : Nat} (h : n = w.heap.size) : (w.alloc (.cells c t f)).shape? n = some (t, c.size) := by subst h; exact shape_new w c t f
theorem shape_old (w : World) (o : Obj) {b : Nat} (h : b < w.heap.size) : (w.alloc o).shape? b = w.shape? b := by
  unfold World.shape?; rw [Below.heap_alloc w o b h]
theorem shape_set (w : World) (a : Addr) (v : Value) (b : Nat) : (w.setCell a v).shape? b = w.shape? b := by
  unfold World.shape? World.setCell
  simp only [Array.getElem?_modify]
  by_cases h : a.block = b
  · rw [if_pos h]
    rcases w.heap[b]? with _ | o
    · rfl
    · cases o <;> simp only [Option.map_some]
      split <;> simp
  · rw [if_neg h]
theorem shape_later {w w' : World} {B b : Nat} (k : Below B w w') (h : b < B) : w'.shape? b = w.shape? b := by
  unfold World.shape?; rw [k.block b h]
theorem heap_of_shape {w : World} {b : Nat} {t : TypeId} {m : Nat} (h : w.shape? b = some (t, m)) : b < w.heap.size := by
  unfold World.shape? at h
  apply Decidable.byContradiction; intro g
  rw [Array.getElem?_eq_none (by omega)] at h; simp at h
/-- The slice v reads as the limbs l. -/
def Limbs (w : World) (v : Value) (l : List Int) : Prop :=
  (∃ p cap, l = [] ∧ v = .slice p 0 cap) ∨ ∃ b o cap, v = .slice (some ⟨b, o, none⟩) l.length cap ∧ l.length ≤ cap ∧ b < w.heap.size ∧ (∃ m, w.shape? b = some (107, m)) ∧ ∀ k, k < l.length → w.cell? ⟨b, o + k, none⟩ = some (.int .u32 (l.getD k 0))
theorem Limbs.form {w : World} {v : Value} {l : List Int} (h : Limbs w v l) : ∃ p cap, v = .slice p l.length cap := by
  rcases h with ⟨p, cap, rfl, rfl⟩ | ⟨b, o, cap, rfl, _⟩
  · exact ⟨_, _, rfl⟩
  · exact ⟨_, _, rfl⟩
theorem Limbs.later {w w' : World} {v : Value} {l : List Int} (h : Limbs w v l) (k : Below w.heap.size w w') : Limbs w' v l := by
  rcases h with h | ⟨b, o, cap, rfl, hc, hb, ⟨m, hs⟩, h⟩
  · exact .inl h
  · exact .inr ⟨b, o, cap, rfl, hc, Nat.lt_of_lt_of_le hb k.size, ⟨m, (shape_later k hb).trans hs⟩, fun j hj => (k.cell (p := ⟨b, o + j, none⟩) hb).trans (h j hj)⟩
theorem Limbs.nil (w : World) : Limbs w (.slice none 0 0) [] := .inl ⟨_, _, rfl, rfl⟩
theorem Limbs.take {w : World} {p : Option Addr} {n cap : Nat} {l : List Int} (h : Limbs w (.slice p n cap) l) (m : Nat) (hm : m ≤ n) : Limbs w (.slice p m cap) (l.take m) := by
  rcases h with ⟨q, c, rfl, e⟩ | ⟨b, o, c, e, hc, hb, hs, h⟩
  · simp only [Value.slice.injEq] at e
    obtain ⟨rfl, rfl, rfl⟩ := e
    obtain rfl : m = 0 := by omega
    exact .inl ⟨_, _, by simp, rfl⟩
  · simp only [Value.slice.injEq] at e
    obtain ⟨rfl, rfl, rfl⟩ := e
    have hl : (l.take m).length = m := List.length_take_of_le hm
    refine .inr ⟨b, o, cap, by rw [hl], by omega, hb, hs, fun k hk => ?_⟩
    rw [hl] at hk
    rw [h k (by omega)]
    congr 2
    simp [List.getD_eq_getElem?_getD, List.getElem?_take_of_lt hk]
theorem Limbs.of_own {w : World} {base n : Nat} {v : Value} {l : List Int} (h : w.ownsRow base 107 1 v n (l.map (Value.int .u32))) : Limbs w v l ∧ n = l.length := by
  have hn : n = l.length := by have := h.1; simpa using this.symm
  refine ⟨?_, hn⟩
  subst hn
  rcases h.2 with ⟨rfl, h0⟩ | ⟨g, cap, cur, rfl, hb, hg, hc, hm, hs, ht⟩
  · exact .inl ⟨none, 0, by simpa using h0, rfl⟩
  · refine .inr ⟨g, 0, cap, rfl, hc, (h.lt g rfl).2, ⟨cur.size, by unfold World.shape?; rw [hg]⟩, fun k hk => ?_⟩
    rw [Nat.zero_add, h.cellAt k (by omega)]
    simp [List.getElem?_eq_getElem hk, List.getD_eq_getElem?_getD]
theorem Limbs.set {w : World} {v : Value} {l : List Int} (h : Limbs w v l) {r i : Nat} {t : TypeId} {m : Nat} (hr : w.shape? r = some (t, m)) (ht : t ≠ 107) (x : Value) : Limbs (w.setCell ⟨r, i, none⟩ x) v l := by
  rcases h with h | ⟨b, o, cap, rfl, hc, hb, ⟨k, hs⟩, h⟩
  · exact .inl h
  · have ne : b ≠ r := by rintro rfl; rw [hs] at hr; simp only [Option.some.injEq, Prod.mk.injEq] at hr; exact ht hr.1.symm
    refine .inr ⟨b, o, cap, rfl, hc, by simpa [World.setCell] using hb, ⟨k, by rw [shape_set]; exact hs⟩, fun j hj => ?_⟩
    rw [← h j hj]
    exact World.cell?_of_block (w := w) (Below.heap_setCell w _ x b ne)
theorem info_u32 : (Try.prog.info? 107).map (fun i => (i.zero, i.size, i.bytes)) = some (some (.int .u32 0), 1, 4) := by kernel_rfl
theorem one_u32 {x : Int} : ∀ u ∈ [Value.int .u32 x], u.oneCell' = true := by intro u hu; rw [List.mem_singleton] at hu; subst hu; rfl
/-- A contract of a function that only computes. -/
abbrev Same (f : Nat) (args : Array Value) (w : World) (r : Value) : Prop := Calls Try.prog f args w fun e w' => e = .returned r ∧ w = w'
theorem still {f : FuncId} {args : Array Value} {w : World} {n : Nat} {v : Value} (h : Same f args (w.drewN n) v) : Calls Try.prog f args (w.drewN n) fun e u => e = .returned v ∧ ∃ m, u = w.drewN m :=
  h.mono fun e u q => ⟨q.1, ⟨n, q.2.symm⟩⟩
theorem limb_in (b o n cap i : Nat) (x : Int) (w : World) (hn : n ≤ 9223372036854775807) (h : i < n) (hc : w.cell? ⟨b, o + i, none⟩ = some (.int .u32 x)) :
    Same 79 #[.slice (some ⟨b, o, none⟩) n cap, .int .i64 i] w (.int .u32 x) := by
  go_enter Try.func79, Try.ntmps79
  go_wp2
  go_returns
  exact ⟨rfl, rfl⟩
theorem limb_out (p : Option Addr) (n cap i : Nat) (w : World) (hn : n ≤ i) (hi : i ≤ 9223372036854775807) :
    Same 79 #[.slice p n cap, .int .i64 i] w (.int .u32 0) := by
  go_enter Try.func79, Try.ntmps79
  go_wp2
  go_returns
  exact ⟨rfl, rfl⟩
theorem limb_spec (v : Value) (l : List Int) (i : Nat) (w : World) (H : Limbs w v l) (hl : l.length ≤ 9223372036854775807) (hi : i ≤ 9223372036854775807) :
    Same 79 #[v, .int .i64 i] w (.int .u32 (l.getD i 0)) := by
  by_cases h : i < l.length
  · rcases H with ⟨p, cap, rfl, rfl⟩ | ⟨b, o, cap, rfl, hc, hb, hs, hh⟩
    · simp at h
    · exact limb_in b o _ cap i _ w hl h (hh i h)
  · obtain ⟨p, cap, rfl⟩ := H.form
    rw [at_out (by omega)]
    exact limb_out p _ cap i w (by omega) hi
def lenV : Value → Nat | .slice _ n _ => n | _ => 0
theorem top_zero {l : List Int} {m : Nat} (h : l.getD m 0 = 0) : top l (m + 1) = top l m := by simp only [top]; rw [if_pos h]
theorem top_not {l : List Int} {m : Nat} (h : ¬ l.getD m 0 = 0) : top l (m + 1) = m + 1 := by simp only [top]; rw [if_neg h]
set_option maxHeartbeats 1000000 in
theorem trim_some (b o n cap : Nat) (l : List Int) (w : World) (hn : n ≤ 9223372036854775807) (hc : n ≤ cap) (hh : ∀ k, k < n → w.cell? ⟨b, o + k, none⟩ = some (.int .u32 (l.getD k 0))) :
    Same 78 #[.slice (some ⟨b, o, none⟩) n cap] w (.slice (some ⟨b, o, none⟩) (top l n) cap) := by
  have HH : Hid (∀ k, k < n → w.cell? ⟨b, o + k, none⟩ = some (.int .u32 (l.getD k 0))) := hh
  clear hh
  go_enter Try.func78, Try.ntmps78
  go_wp2
  go_loop [0] (fun v => ∃ m : Nat, m ≤ n ∧ v = .slice (some ⟨b, o, none⟩) m cap ∧ Hid (top l n = top l m)) (fun v => lenV v)
  case atStart => exact ⟨n, Nat.le_refl _, rfl, rfl⟩
  case round =>
    obtain ⟨m, hm, rfl, ht⟩ := hrel
    rcases m with _ | m
    · go_wp2
      go_returns
      exact ⟨by rw [ht.out]; rfl, rfl⟩
    · have hx := HH.out m (by omega)
      have h1 : ((m + 1 : Nat) : Int) - 1 = m := by omega
      by_cases hz : l.getD m 0 = 0
      · have HT : Hid (top l n = top l m) := ht.out.trans (top_zero hz)
        rw [hz] at hx
        clear ht hz
        go_wp2
        go_round
        case rel => exact ⟨m, by omega, rfl, HT⟩
        case measure => simp [lenV]
      · have HT : Hid (top l n = m + 1) := ht.out.trans (top_not hz)
        have hz' : (l.getD m 0 == 0) = false := by simpa using hz
        clear ht hz
        generalize l.getD m 0 = x at *
        go_wp2
        go_returns
        exact ⟨by rw [HT.out]; rfl, rfl⟩
theorem trim_none (p : Option Addr) (cap : Nat) (w : World) :
    Same 78 #[.slice p 0 cap] w (.slice p 0 cap) := by
  go_enter Try.func78, Try.ntmps78
  go_wp2
  refine wp_loop_rounds 1 ?_
  rw [rounds_succ]
  go_wp2
  go_returns
  exact ⟨rfl, rfl⟩
/-- trim: the same number without zeros at the top. -/
theorem trim_spec (v : Value) (l : List Int) (w : World) (H : Limbs w v l) (hl : l.length ≤ 9223372036854775807) :
    ∃ v', Same 78 #[v] w v' ∧ Limbs w v' (l.take (top l l.length)) := by
  rcases H with ⟨p, cap, rfl, rfl⟩ | ⟨b, o, cap, rfl, hc, hb, hs, hh⟩
  · exact ⟨_, trim_none p cap w, .inl ⟨p, cap, by simp, rfl⟩⟩
  · exact ⟨_, trim_some b o _ cap l w hl hc hh, Limbs.take (.inr ⟨b, o, cap, rfl, hc, hb, hs, hh⟩) _ (top_le _ _)⟩
theorem trim_at (p : Option Addr) (cap : Nat) (l : List Int) (w : World) (H : Limbs w (.slice p l.length cap) l) (hl : l.length ≤ 9223372036854775807) :
    Same 78 #[.slice p l.length cap] w (.slice p (top l l.length) cap) := by
  rcases H with ⟨q, c, rfl, e⟩ | ⟨b, o, c, e, hc, hb, hs, hh⟩
  · simp only [Value.slice.injEq] at e
    obtain ⟨rfl, _, rfl⟩ := e
    exact trim_none _ _ w
  · simp only [Value.slice.injEq] at e
    obtain ⟨rfl, _, rfl⟩ := e
    exact trim_some b o _ cap l w hl hc hh
/-- The answer's place lies from block B on. -/
def Fresh (B : Nat) (v : Value) : Prop := ∀ a n c, v = .slice (some a) n c → B ≤ a.block
theorem trim_own {w : World} {B n : Nat} {v : Value} {l : List Int} (h : w.ownsRow B 107 1 v n (l.map (Value.int .u32))) (hl : l.length ≤ 9223372036854775807) :
    ∃ v', Same 78 #[v] w v' ∧ Limbs w v' (l.take (top l l.length)) ∧ Fresh B v' := by
  obtain ⟨L, hn⟩ := Limbs.of_own h
  subst hn
  rcases h.2 with ⟨rfl, h0⟩ | ⟨g, cap, cur, rfl, hb, hg, hc, hm, hs, ht⟩
  · have e : l = [] := List.eq_nil_of_length_eq_zero h0
    subst e
    exact ⟨_, trim_none _ _ w, .inl ⟨_, _, by simp, rfl⟩, fun a n c e => by simp at e⟩
  · refine ⟨_, trim_at _ _ l w L hl, L.take _ (top_le _ _), fun a n c e => ?_⟩
    simp only [Value.slice.injEq, Option.some.injEq] at e
    obtain ⟨rfl, _⟩ := e
    exact hb
end Go.Proofs.Ytebiddmadmmfpaa
/- Plain numbers: numbers with a sign as limbs; roots; digits of limbs. -/
namespace Go.Proofs.Ytebiddmadmmfpaa
set_option linter.unusedVariables false
namespace Lb
/-- The limbs of a number's amount, without a 0 at the top. -/
structure Mag (l : List Int) (m : Int) : Prop where
  ok : Ok l
  top : Top l
  val : val l = m
theorem Mag.nonneg {l : List Int} {m : Int} (h : Mag l m) : 0 ≤ m := by rw [← h.val]; exact val_nonneg h.ok
theorem Mag.eq {a b : List Int} {m : Int} (h : Mag a m) (k : Mag b m) : a = b := val_inj h.ok h.top k.ok k.top (h.val.trans k.val.symm)
theorem Mag.len {l : List Int} {m : Int} (h : Mag l m) {n : Nat} (hm : m < pw n) : l.length ≤ n := by
  apply Decidable.byContradiction; intro g
  obtain ⟨k, hk⟩ : ∃ k, l.length = k + 1 := ⟨l.length - 1, by omega⟩
  have := val_ge h.ok h.top k hk
  have := pw_mono (show n ≤ k by omega)
  have := h.val
  omega
theorem Mag.nil : Mag [] 0 := ⟨ok_nil, .inl rfl, rfl⟩
theorem Mag.zero {l : List Int} (h : Mag l 0) : l = [] := h.eq Mag.nil
theorem Mag.nil_iff {l : List Int} {m : Int} (h : Mag l m) : l = [] ↔ m = 0 := by
  constructor
  · rintro rfl; rw [← h.val]; rfl
  · rintro rfl; exact h.zero
theorem Mag.lt_len {a b : List Int} {m n : Int} (h : Mag a m) (k : Mag b n) (hl : a.length < b.length) : m < n := by
  rw [← h.val, ← k.val]; exact val_lt_of_length h.ok k.ok k.top hl
theorem Mag.of_top {l : List Int} (h : Ok l) : Mag (l.take (Lb.top l l.length)) (Lb.val l) :=
  ⟨ok_take h _, top_top l _ (Nat.le_refl _), by rw [val_top, List.take_length]⟩
/-- A wide number's sign and amount. -/
def ab (v : Int) : Int := if v < 0 then -v else v
theorem ab_nonneg (v : Int) : 0 ≤ ab v := by unfold ab; split <;> omega
theorem ab_zero {v : Int} : ab v = 0 ↔ v = 0 := by unfold ab; split <;> omega
theorem ab_of {n : Bool} {m v : Int} (hm : 0 ≤ m) (h : v = if n then -m else m) : ab v = m ∧ (n && decide (0 < m)) = decide (v < 0) := by
  cases n <;> simp at h <;> subst h <;> unfold ab <;> constructor <;> simp <;> omega
/-- From the highest limb down: the lists from place i on. -/
theorem drop_val (l : List Int) (i : Nat) (h : i < l.length) : val (l.drop i) = l.getD i 0 + 65536 * val (l.drop (i + 1)) := by
  rw [List.drop_eq_getElem_cons h]; simp only [val]
  simp [List.getD_eq_getElem?_getD, List.getElem?_eq_getElem h]
/-- Where two lists part from the top. -/
theorem cmp_step {a b : List Int} {i : Nat} (ha : i < a.length) (hb : i < b.length) (oa : Ok a) (ob : Ok b) (hl : a.length = b.length) (e : val (a.drop (i + 1)) = val (b.drop (i + 1)))
    (h : a.getD i 0 < b.getD i 0) : val a < val b := by
  have t := val_append (a.take i) (a.drop i); rw [List.take_append_drop] at t
  have u := val_append (b.take i) (b.drop i); rw [List.take_append_drop] at u
  rw [t, u, drop_val a i ha, drop_val b i hb, e, List.length_take_of_le (by omega), List.length_take_of_le (by omega)]
  have m1 := val_lt (ok_take oa i)
  rw [List.length_take_of_le (by omega)] at m1
  have m2 := val_nonneg (ok_take ob i)
  have p := pw_pos i
  have : pw i * 1 ≤ pw i * (b.getD i 0 - a.getD i 0) := Int.mul_le_mul_of_nonneg_left (by omega) (by omega)
  grind
/-- One limb of a division by ten. -/
theorem ten_round {L Q r x v : Int} (h : L = 10 * Q + r) (hv : v = r * 65536 + x) : x + 65536 * L = 10 * (v / 10 + 65536 * Q) + v % 10 := by omega
/-- One bit of a root. -/
theorem root_yes {a r p t : Int} (h2 : a < (r + 2 * p) * (r + 2 * p)) (ht : t = r + p) : a < (t + p) * (t + p) := by
  have : t + p = r + 2 * p := by omega
  rw [this]; exact h2
theorem root_uniq {a r s : Int} (r0 : 0 ≤ r) (s0 : 0 ≤ s) (h1 : r * r ≤ a) (h2 : a < (r + 1) * (r + 1)) (h3 : s * s ≤ a) (h4 : a < (s + 1) * (s + 1)) : r = s := by
  rcases Int.lt_trichotomy r s with h | h | h
  · have : (r + 1) * (r + 1) ≤ s * s := Int.mul_le_mul (by omega) (by omega) (by omega) (by omega)
    omega
  · exact h
  · have : (s + 1) * (s + 1) ≤ r * r := Int.mul_le_mul (by omega) (by omega) (by omega) (by omega)
    omega
theorem root_start (l : List Int) (h : Ok l) : val l < (0 + p2 (8 * l.length + 9)) * (0 + p2 (8 * l.length + 9)) := by
  have a := val_lt h
  rw [← p2_pw] at a
  have : p2 (8 * l.length + 9) * p2 (8 * l.length + 9) = p2 (16 * l.length) * p2 18 := by rw [← p2_add, ← p2_add]; congr 1; omega
  rw [Int.zero_add, this]
  have p := p2_pos (16 * l.length)
  have : p2 (16 * l.length) * 1 ≤ p2 (16 * l.length) * p2 18 := Int.mul_le_mul_of_nonneg_left (by decide) (by omega)
  omega
/-- The list of one bit. -/
theorem val_bit (i : Nat) : val (List.replicate (i / 16) 0 ++ [p2 (i % 16)]) = p2 i := by
  have z : val (List.replicate (i / 16) (0 : Int)) = 0 := by have := val_zero [] (i / 16); simpa [val] using this
  rw [val_snoc, z, List.length_replicate, ← p2_pw, ← p2_add, Int.zero_add]; congr 1; omega
end Lb
end Go.Proofs.Ytebiddmadmmfpaa
/- The reference of layer 1: addL. -/
namespace Go.Proofs.Ytebiddmadmmfpaa
set_option linter.unusedVariables false
open Go.RowKit W Lb
/-- The answer is new limbs of the number m. -/
def MagPost (w : World) (m : Int) (e : Ending) (w' : World) : Prop := ∃ v l, e = .returned v ∧ Limbs w' v l ∧ Mag l m ∧ Below w.heap.size w w' ∧ Fresh w.heap.size v
theorem u32_low (x : Int) (a : 0 ≤ x) (b : x < 4294967296) : bits .and .u32 x 65535 = x % 65536 := by
  rw [u32_and x 65535 a b (by omega) (by omega)]
  obtain ⟨m, rfl⟩ := Int.eq_ofNat_of_zero_le a
  have : ((m : Int).toNat &&& (65535 : Int).toNat) = m % 65536 := by
    show m &&& 65535 = m % 65536
    exact Nat.and_two_pow_sub_one_eq_mod m 16
  rw [this]; omega
structure AddAt (w wr : World) (la lb : List Int) (v : Value) (k : Nat) (cc : Int) (o : List Int) : Prop where
  own : wr.ownsRow w.heap.size 107 1 v k (o.map (Value.int .u32))
  ok : Ok o
  len : o.length = k
  c0 : 0 ≤ cc
  c1 : cc ≤ 1
  eq : val o + pw k * cc = val (la.take k) + val (lb.take k)
  top : k ≤ max la.length lb.length ∨ k = max la.length lb.length + 1 ∧ cc = 0
  below : Below w.heap.size w wr
def AddInv (w wr : World) (la lb : List Int) (v c i : Value) : Prop := ∃ (k : Nat) (cc : Int) (o : List Int), i = .int .i64 k ∧ c = .int .u32 cc ∧ AddAt w wr la lb v k cc o
set_option maxHeartbeats 4000000 in
theorem addL_spec (va vb : Value) (la lb : List Int) (w : World) (Ha : Limbs w va la) (Hb : Limbs w vb lb) (oa : Ok la) (ob : Ok lb) (na : la.length ≤ 1000) (nb : lb.length ≤ 1000) :
    Calls Try.prog 67 #[va, vb] w (MagPost w (val la + val lb)) := by
  obtain ⟨p, ca, rfl⟩ := Ha.form
  obtain ⟨q, cb, rfl⟩ := Hb.form
  have HA := hide Ha
  have HB := hide Hb
  have OA := hide oa
  have OB := hide ob
  clear Ha Hb oa ob
  go_enter Try.func67, Try.ntmps67
  go_wp2
  go_loopw [5, 6, 7] (fun v c i wr => AddInv w wr la lb v c i) (fun _ _ i _ => max la.length lb.length + 1 - (intOf i).toNat)
  case atStart => exact ⟨0, 0, [], rfl, rfl, ⟨World.ownsRow_nil _ _ _ _, ok_nil, rfl, by omega, by omega, by simp [val, pw], .inl (by omega), Below.refl _ _⟩⟩
  case round =>
    obtain ⟨k, cc, o, rfl, rfl, at_⟩ := hrel
    have tp := at_.top
    have cc0 := at_.c0
    have cc1 := at_.c1
    have AT := hide at_
    clear at_
    by_cases hg : k < la.length ∨ k < lb.length ∨ 0 < cc
    · have c1 := limb_spec _ la k wr (HA.out.later AT.out.below) (by omega) (by omega)
      have c2 := limb_spec _ lb k wr (HB.out.later AT.out.below) (by omega) (by omega)
      obtain ⟨x0, x1⟩ := ok_at OA.out k
      obtain ⟨y0, y1⟩ := ok_at OB.out k
      obtain ⟨x, hx⟩ : ∃ x, x = la.getD k 0 := ⟨_, rfl⟩
      obtain ⟨y, hy⟩ : ∃ y, y = lb.getD k 0 := ⟨_, rfl⟩
      obtain ⟨t, ht⟩ : ∃ t, t = (x + y + cc) % 65536 := ⟨_, rfl⟩
      obtain ⟨d, hd⟩ : ∃ d, d = (x + y + cc) / 65536 := ⟨_, rfl⟩
      rw [← hx] at c1 x0 x1
      rw [← hy] at c2 y0 y1
      have e1 : bits .and .u32 (x + y + cc) 65535 = t := by rw [u32_low _ (by omega) (by omega), ht]
      have e2 : (x + y + cc) / 65536 = d := hd.symm
      have ST : Hid (Ok (o ++ [t]) ∧ 0 ≤ d ∧ d ≤ 1 ∧ val (o ++ [t]) + pw (k + 1) * d = val (la.take (k + 1)) + val (lb.take (k + 1)) ∧ (k + 1 ≤ max la.length lb.length ∨ k + 1 = max la.length lb.length + 1 ∧ d = 0)) := by
        refine ⟨ok_snoc AT.out.ok (by omega) (by omega), by omega, by omega, ?_, ?_⟩
        · rw [ht, hd]; exact add_round hx hy rfl AT.out.len AT.out.eq
        · by_cases hk : k < max la.length lb.length
          · exact .inl (by omega)
          · have z1 := at_out (l := la) (k := k) (by omega)
            have z2 := at_out (l := lb) (k := k) (by omega)
            exact .inr ⟨by omega, by omega⟩
      have sz := AT.out.below.size
      obtain ⟨i0, hi0, hz0, hz1, hz2⟩ := info_parts info_u32
      have HI : Hid (Try.prog.info? 107 = some i0 ∧ i0.zero = some (.int .u32 0) ∧ i0.size = 1 ∧ i0.bytes = 4) := ⟨hi0, hz0, hz1, hz2⟩
      have kb : k + 1 ≤ maxLen := by unfold maxLen; omega
      clear hi0 hz0 hz1 hz2 hx hy ht hd
      rcases (by omega : k < la.length ∨ (¬ k < la.length ∧ k < lb.length) ∨ (¬ k < la.length ∧ ¬ k < lb.length ∧ 0 < cc)) with h1 | ⟨h1, h2⟩ | ⟨h1, h2, h3⟩
      all_goals
        go_wp2_with fail
        refine c1.mono ?_
        rintro e w' ⟨rfl, rfl⟩
        go_wp2_with fail
        refine c2.mono ?_
        rintro e w' ⟨rfl, rfl⟩
        go_wp2_with (at_builtin; go_loud (refine wpList_append_own _ rfl _ _ 62 rfl w.heap.size 107 i0 (.int .u32 0) 1 4 Try.underlying62 HI.out.1 HI.out.2.1 HI.out.2.2.1 HI.out.2.2.2 rfl (by decide) u5 k (o.map (Value.int .u32)) rfl (AT.out.own.alloc _) ⟨wr.heap.size, 0, none⟩ 1 1 [.int .u32 t] rfl rfl (cell_one_new _ _ _) one_u32 kb (by omega) (by simp; omega) ?_); intro v' w1 hown' hgrow hnil)
        go_roundw
        case rel =>
          refine ⟨k + 1, d, o ++ [t], by go_num, rfl, ⟨by rw [List.map_append]; exact hown', ST.out.1, by rw [List.length_append, AT.out.len]; rfl, ST.out.2.1, ST.out.2.2.1, ST.out.2.2.2.1, ST.out.2.2.2.2, (AT.out.below.alloc sz _).grown hgrow (by simp; omega) (fun j hj => (AT.out.own.lt j hj).1)⟩⟩
        case measure => simp [intOf]; omega
    · have h1 : ¬ k < la.length := by omega
      have h2 : ¬ k < lb.length := by omega
      obtain rfl : cc = 0 := by omega
      obtain ⟨L, hn⟩ := Limbs.of_own AT.out.own
      obtain ⟨v', c3, L', fr⟩ := trim_own AT.out.own (by have := AT.out.len; omega)
      obtain ⟨pu, cu, hu⟩ := L.form
      have e := AT.out.eq
      rw [List.take_of_length_le (by omega), List.take_of_length_le (by omega)] at e
      have FIN : Hid (MagPost w (val la + val lb) (.returned v') wr) := ⟨v', _, rfl, L', by have := Mag.of_top AT.out.ok; rwa [show Lb.val o = val la + val lb by omega] at this, AT.out.below, fr⟩
      clear L L' hu hn e hg
      go_wp2_with fail
      refine c3.mono ?_
      rintro e w' ⟨rfl, rfl⟩
      go_wp2_with fail
      go_returns
      exact FIN.out
end Go.Proofs.Ytebiddmadmmfpaa
/- The reference of layer 1: subL. -/
namespace Go.Proofs.Ytebiddmadmmfpaa
set_option linter.unusedVariables false
open Go.RowKit W Lb
structure SubAt (w wr : World) (la lb : List Int) (v : Value) (k : Nat) (cc : Int) (o : List Int) : Prop where
  own : wr.ownsRow w.heap.size 107 1 v k (o.map (Value.int .u32))
  ok : Ok o
  len : o.length = k
  kk : k ≤ la.length
  c0 : 0 ≤ cc
  c1 : cc ≤ 1
  eq : val o + val (lb.take k) = val (la.take k) + pw k * cc
  below : Below w.heap.size w wr
def SubInv (w wr : World) (la lb : List Int) (v c i : Value) : Prop := ∃ (k : Nat) (cc : Int) (o : List Int), i = .int .i64 k ∧ c = .int .u32 cc ∧ SubAt w wr la lb v k cc o
theorem sub_end {la lb o : List Int} {cc : Int} (oa : Ok la) (oo : Ok o) (hl : o.length = la.length) (h : lb.length ≤ la.length) (le : val lb ≤ val la) (c0 : 0 ≤ cc) (c1 : cc ≤ 1)
    (e : val o + val (lb.take la.length) = val (la.take la.length) + pw la.length * cc) : val o = val la - val lb := by
  rw [List.take_of_length_le h, List.take_of_length_le (Nat.le_refl _)] at e
  have := val_lt oo
  rw [hl] at this
  rcases (by omega : cc = 0 ∨ cc = 1) with rfl | rfl
  · omega
  · have := pw_pos la.length; omega
set_option maxHeartbeats 4000000 in
theorem subL_spec (va vb : Value) (la lb : List Int) (w : World) (Ha : Limbs w va la) (Hb : Limbs w vb lb) (oa : Ok la) (ob : Ok lb) (na : la.length ≤ 1000) (nb : lb.length ≤ la.length) (le : val lb ≤ val la) :
    Calls Try.prog 69 #[va, vb] w (MagPost w (val la - val lb)) := by
  obtain ⟨p, ca, rfl⟩ := Ha.form
  obtain ⟨q, cb, rfl⟩ := Hb.form
  have HA := hide Ha
  have HB := hide Hb
  have OA := hide oa
  have OB := hide ob
  have LE := hide le
  clear Ha Hb oa ob le
  go_enter Try.func69, Try.ntmps69
  go_wp2
  go_loopw [5, 6, 7] (fun v c i wr => SubInv w wr la lb v c i) (fun _ _ i _ => la.length - (intOf i).toNat)
  case atStart => exact ⟨0, 0, [], rfl, rfl, ⟨World.ownsRow_nil _ _ _ _, ok_nil, rfl, by omega, by omega, by omega, by simp [val, pw], Below.refl _ _⟩⟩
  case round =>
    obtain ⟨k, cc, o, rfl, rfl, at_⟩ := hrel
    have kk := at_.kk
    have cc0 := at_.c0
    have cc1 := at_.c1
    have AT := hide at_
    clear at_
    by_cases hg : k < la.length
    · have c1 := limb_spec _ la k wr (HA.out.later AT.out.below) (by omega) (by omega)
      have c2 := limb_spec _ lb k wr (HB.out.later AT.out.below) (by omega) (by omega)
      obtain ⟨x0, x1⟩ := ok_at OA.out k
      obtain ⟨y0, y1⟩ := ok_at OB.out k
      obtain ⟨x, hx⟩ : ∃ x, x = la.getD k 0 := ⟨_, rfl⟩
      obtain ⟨y, hy⟩ : ∃ y, y = lb.getD k 0 := ⟨_, rfl⟩
      obtain ⟨t, ht⟩ : ∃ t, t = (x + 65536 - y - cc) % 65536 := ⟨_, rfl⟩
      obtain ⟨d, hd⟩ : ∃ d, d = (x + 65536 - y - cc) / 65536 := ⟨_, rfl⟩
      rw [← hx] at c1 x0 x1
      rw [← hy] at c2 y0 y1
      have e1 : bits .and .u32 (x + 65536 - y - cc) 65535 = t := by rw [u32_low _ (by omega) (by omega), ht]
      have e2 : (x + 65536 - y - cc) / 65536 = d := hd.symm
      have d0 : 0 ≤ d := by omega
      have d1 : d ≤ 1 := by omega
      have ST : Hid (Ok (o ++ [t]) ∧ 0 ≤ 1 - d ∧ 1 - d ≤ 1 ∧ val (o ++ [t]) + val (lb.take (k + 1)) = val (la.take (k + 1)) + pw (k + 1) * (1 - d)) := by
        refine ⟨ok_snoc AT.out.ok (by omega) (by omega), by omega, by omega, ?_⟩
        rw [ht, hd]; exact sub_round hx hy rfl AT.out.len AT.out.eq
      have sz := AT.out.below.size
      obtain ⟨i0, hi0, hz0, hz1, hz2⟩ := info_parts info_u32
      have HI : Hid (Try.prog.info? 107 = some i0 ∧ i0.zero = some (.int .u32 0) ∧ i0.size = 1 ∧ i0.bytes = 4) := ⟨hi0, hz0, hz1, hz2⟩
      have kb : k + 1 ≤ maxLen := by unfold maxLen; omega
      clear hi0 hz0 hz1 hz2 hx hy ht hd
      go_wp2_with fail
      refine c1.mono ?_
      rintro e w' ⟨rfl, rfl⟩
      go_wp2_with fail
      refine c2.mono ?_
      rintro e w' ⟨rfl, rfl⟩
      go_wp2_with (at_builtin; go_loud (refine wpList_append_own _ rfl _ _ 62 rfl w.heap.size 107 i0 (.int .u32 0) 1 4 Try.underlying62 HI.out.1 HI.out.2.1 HI.out.2.2.1 HI.out.2.2.2 rfl (by decide) u5 k (o.map (Value.int .u32)) rfl (AT.out.own.alloc _) ⟨wr.heap.size, 0, none⟩ 1 1 [.int .u32 t] rfl rfl (cell_one_new _ _ _) one_u32 kb (by omega) (by simp; omega) ?_); intro v' w1 hown' hgrow hnil)
      go_roundw
      case rel =>
        refine ⟨k + 1, 1 - d, o ++ [t], by go_num, rfl, ⟨by rw [List.map_append]; exact hown', ST.out.1, by rw [List.length_append, AT.out.len]; rfl, by omega, ST.out.2.1, ST.out.2.2.1, ST.out.2.2.2, (AT.out.below.alloc sz _).grown hgrow (by simp; omega) (fun j hj => (AT.out.own.lt j hj).1)⟩⟩
      case measure => simp [intOf]; omega
    · obtain rfl : k = la.length := by omega
      obtain ⟨L, hn⟩ := Limbs.of_own AT.out.own
      obtain ⟨v', c3, L', fr⟩ := trim_own AT.out.own (by have := AT.out.len; omega)
      obtain ⟨pu, cu, hu⟩ := L.form
      have e := sub_end OA.out AT.out.ok AT.out.len nb LE.out cc0 cc1 AT.out.eq
      have FIN : Hid (MagPost w (val la - val lb) (.returned v') wr) := ⟨v', _, rfl, L', by have := Mag.of_top AT.out.ok; rwa [e] at this, AT.out.below, fr⟩
      clear L L' hu hn e hg
      go_wp2_with fail
      refine c3.mono ?_
      rintro e w' ⟨rfl, rfl⟩
      go_wp2_with fail
      go_returns
      exact FIN.out
end Go.Proofs.Ytebiddmadmmfpaa
/- The reference of layer 1: cmpL. -/
namespace Go.Proofs.Ytebiddmadmmfpaa
set_option linter.unusedVariables false
open Go.RowKit W Lb
def CmpPost (w : World) (x y : Int) (e : Ending) (w' : World) : Prop := e = .returned (.int .i64 (cmpI x y)) ∧ Below w.heap.size w w'
/-- Two lists of one length that agree from place k on. -/
structure CmpAt (w wr : World) (la lb : List Int) (k : Nat) : Prop where
  kk : k ≤ la.length
  eq : val (la.drop k) = val (lb.drop k)
  at_ : ∃ n, wr = w.drewN n
def CmpInv (w wr : World) (la lb : List Int) (i : Value) : Prop := ∃ k : Nat, i = .int .i64 ((k : Int) - 1) ∧ CmpAt w wr la lb k
set_option maxHeartbeats 4000000 in
theorem cmpL_same (b o cap b' o' cap' n : Nat) (va vb : Value) (la lb : List Int) (w : World) (n1 : n ≤ 1000) (l1 : la.length = n) (l2 : lb.length = n) (oa : Ok la) (ob : Ok lb)
    (ca : Same 78 #[va] w (.slice (some ⟨b, o, none⟩) n cap)) (cb : Same 78 #[vb] w (.slice (some ⟨b', o', none⟩) n cap'))
    (ha : ∀ k, k < n → w.cell? ⟨b, o + k, none⟩ = some (.int .u32 (la.getD k 0))) (hb : ∀ k, k < n → w.cell? ⟨b', o' + k, none⟩ = some (.int .u32 (lb.getD k 0))) :
    Calls Try.prog 68 #[va, vb] w (CmpPost w (val la) (val lb)) := by
  have OA := hide oa
  have OB := hide ob
  have HA := hide ha
  have HB := hide hb
  have L1 := hide l1
  have L2 := hide l2
  clear oa ob ha hb l1 l2
  go_enter Try.func68, Try.ntmps68
  go_wp2_with fail
  refine ca.mono ?_
  rintro e w' ⟨rfl, rfl⟩
  go_wp2_with fail
  refine cb.mono ?_
  rintro e w' ⟨rfl, rfl⟩
  go_wp2_with fail
  clear ca cb
  go_loopw [5] (fun i wr => CmpInv w wr la lb i) (fun i _ => (intOf i + 1).toNat)
  case atStart => exact ⟨n, rfl, by have := L1.out; omega, by have := L1.out; have := L2.out; rw [List.drop_of_length_le (by omega), List.drop_of_length_le (by omega)], 0, rfl⟩
  case round =>
    obtain ⟨k, rfl, kk, eq, m, rfl⟩ := hrel
    rw [L1.out] at kk
    have EQ := hide eq
    clear eq
    rcases k with _ | k
    · have e0 : ((0 : Nat) : Int) - 1 = -1 := by omega
      rw [e0]
      have FIN : Hid (cmpI (val la) (val lb) = 0) := by have := EQ.out; simp only [List.drop_zero] at this; exact cmp_eq this
      go_wp2
      go_returns
      exact ⟨by rw [FIN.out]; rfl, below_drewN (Below.refl _ _) m⟩
    · have ei : ((k + 1 : Nat) : Int) - 1 = k := by omega
      rw [ei]
      clear ei
      have h1 := HA.out k (by omega)
      have h2 := HB.out k (by omega)
      have kn : k < n := by omega
      have LT : Hid (la.getD k 0 < lb.getD k 0 → cmpI (val la) (val lb) = -1) := fun h => cmp_lt (cmp_step (by rw [L1.out]; omega) (by rw [L2.out]; omega) OA.out OB.out (by rw [L1.out, L2.out]) EQ.out h)
      have GT : Hid (lb.getD k 0 < la.getD k 0 → cmpI (val la) (val lb) = 1) := fun h => cmp_gt (cmp_step (by rw [L2.out]; omega) (by rw [L1.out]; omega) OB.out OA.out (by rw [L1.out, L2.out]) EQ.out.symm h)
      have SM : Hid (la.getD k 0 = lb.getD k 0 → val (la.drop k) = val (lb.drop k)) := fun h => by rw [drop_val la k (by rw [L1.out]; omega), drop_val lb k (by rw [L2.out]; omega), EQ.out, h]
      generalize la.getD k 0 = x at *
      generalize lb.getD k 0 = y at *
      clear EQ
      rcases Int.lt_trichotomy x y with h | h | h
      · have F := hide (LT.out h)
        clear LT GT SM
        go_wp2
        go_quiet (fail)
        go_wp2
        go_returns
        exact ⟨by rw [F.out]; rfl, by (try simp only [World.drewN_drewN]); exact below_drewN (Below.refl _ _) _⟩
      · have F := hide (SM.out h)
        clear LT GT SM
        subst h
        go_wp2
        go_quiet (fail)
        go_wp2
        go_quiet (fail)
        go_wp2
        go_roundw
        case rel => exact ⟨k, by go_num, by have := L1.out; omega, F.out, by (try simp only [World.drewN_drewN]); exact ⟨_, rfl⟩⟩
        case measure => simp [intOf]
      · have F := hide (GT.out h)
        clear LT GT SM
        have h' : ¬ x < y := by omega
        go_wp2
        go_quiet (fail)
        go_wp2
        go_quiet (fail)
        go_wp2
        go_returns
        exact ⟨by rw [F.out]; rfl, by (try simp only [World.drewN_drewN]); exact below_drewN (Below.refl _ _) _⟩
theorem cmpL_short (p q : Option Addr) (n m cap cap' : Nat) (va vb : Value) (x y : Int) (w : World) (n1 : n ≤ 1000) (h : n < m) (m1 : m ≤ 1000) (le : x < y)
    (ca : Same 78 #[va] w (.slice p n cap)) (cb : Same 78 #[vb] w (.slice q m cap')) :
    Calls Try.prog 68 #[va, vb] w (CmpPost w x y) := by
  have F := hide (cmp_lt le)
  have nm : ¬ n = m := by omega
  clear le
  go_enter Try.func68, Try.ntmps68
  go_wp2_with fail
  refine ca.mono ?_
  rintro e w' ⟨rfl, rfl⟩
  go_wp2_with fail
  refine cb.mono ?_
  rintro e w' ⟨rfl, rfl⟩
  go_wp2_with fail
  go_returns
  exact ⟨by rw [F.out]; rfl, Below.refl _ _⟩
theorem cmpL_long (p q : Option Addr) (n m cap cap' : Nat) (va vb : Value) (x y : Int) (w : World) (n1 : n ≤ 1000) (h : m < n) (m1 : m ≤ 1000) (le : y < x)
    (ca : Same 78 #[va] w (.slice p n cap)) (cb : Same 78 #[vb] w (.slice q m cap')) :
    Calls Try.prog 68 #[va, vb] w (CmpPost w x y) := by
  have F := hide (cmp_gt le)
  have nm : ¬ n = m := by omega
  have nl : ¬ n < m := by omega
  clear le
  go_enter Try.func68, Try.ntmps68
  go_wp2_with fail
  refine ca.mono ?_
  rintro e w' ⟨rfl, rfl⟩
  go_wp2_with fail
  refine cb.mono ?_
  rintro e w' ⟨rfl, rfl⟩
  go_wp2_with fail
  go_returns
  exact ⟨by rw [F.out]; rfl, Below.refl _ _⟩
theorem cmpL_none (p q : Option Addr) (cap cap' : Nat) (va vb : Value) (w : World)
    (ca : Same 78 #[va] w (.slice p 0 cap)) (cb : Same 78 #[vb] w (.slice q 0 cap')) :
    Calls Try.prog 68 #[va, vb] w (CmpPost w 0 0) := by
  go_enter Try.func68, Try.ntmps68
  go_wp2_with fail
  refine ca.mono ?_
  rintro e w' ⟨rfl, rfl⟩
  go_wp2_with fail
  refine cb.mono ?_
  rintro e w' ⟨rfl, rfl⟩
  go_wp2_with fail
  refine wp_loop_rounds 1 ?_
  rw [rounds_succ]
  go_wp2_with fail
  go_returns
  exact ⟨rfl, Below.refl _ _⟩
/-- cmpL: the order of the numbers. -/
theorem cmpL_spec (va vb : Value) (la lb : List Int) (w : World) (Ha : Limbs w va la) (Hb : Limbs w vb lb) (oa : Ok la) (ob : Ok lb) (na : la.length ≤ 1000) (nb : lb.length ≤ 1000) :
    Calls Try.prog 68 #[va, vb] w (CmpPost w (val la) (val lb)) := by
  obtain ⟨va', ca, Ha'⟩ := trim_spec va la w Ha (by omega)
  obtain ⟨vb', cb, Hb'⟩ := trim_spec vb lb w Hb (by omega)
  have ma := Mag.of_top oa
  have mb := Mag.of_top ob
  have l1 := List.length_take_le (top la la.length) la
  have l2 := List.length_take_le (top lb lb.length) lb
  have t1 := top_le la la.length
  have t2 := top_le lb lb.length
  generalize la.take (top la la.length) = a at *
  generalize lb.take (top lb lb.length) = b at *
  rcases Nat.lt_trichotomy a.length b.length with h | h | h
  · obtain ⟨p, c, rfl⟩ := Ha'.form
    obtain ⟨q, c', rfl⟩ := Hb'.form
    exact cmpL_short p q _ _ c c' va vb _ _ w (by omega) h (by omega) (ma.lt_len mb h) ca cb
  · rcases Ha' with ⟨p, c, rfl, rfl⟩ | ⟨b1, o1, c1, rfl, h1, h2, _, h3⟩
    · have e : b = [] := List.eq_nil_of_length_eq_zero (by simpa using h.symm)
      subst e
      obtain ⟨q, c', rfl⟩ := Hb'.form
      rw [← ma.val, ← mb.val]
      exact cmpL_none p q c c' va vb w ca cb
    · rcases Hb' with ⟨p, c, rfl, rfl⟩ | ⟨b2, o2, c2, rfl, g1, g2, _, g3⟩
      · have e : a = [] := List.eq_nil_of_length_eq_zero (by simpa using h)
        subst e
        rw [← ma.val, ← mb.val]
        exact cmpL_none _ p _ c va vb w ca cb
      · rw [← ma.val, ← mb.val]
        rw [← h] at cb g3
        exact cmpL_same b1 o1 c1 b2 o2 c2 _ va vb a b w (by omega) rfl h.symm ma.ok mb.ok ca cb h3 g3
  · obtain ⟨p, c, rfl⟩ := Ha'.form
    obtain ⟨q, c', rfl⟩ := Hb'.form
    exact cmpL_long p q _ _ c c' va vb _ _ w (by omega) h (by omega) (mb.lt_len ma h) ca cb
end Go.Proofs.Ytebiddmadmmfpaa
/- The reference of layer 1: numbers with a sign: make2, NegN, CmpN, AddN. -/
namespace Go.Proofs.Ytebiddmadmmfpaa
set_option linter.unusedVariables false
open Go.RowKit W Lb
/-- The number z as its sign s and its limbs l, which the slice reads as. -/
structure IsNum (w : World) (s : Bool) (p : Option Addr) (c : Nat) (l : List Int) (z : Int) : Prop where
  neg : s = decide (z < 0)
  lim : Limbs w (.slice p l.length c) l
  mag : Mag l (Lb.ab z)
theorem IsNum.later {w w' : World} {s : Bool} {p : Option Addr} {c : Nat} {l : List Int} {z : Int} (h : IsNum w s p c l z) (k : Below w.heap.size w w') : IsNum w' s p c l z := ⟨h.neg, h.lim.later k, h.mag⟩
def NumPost (w : World) (z : Int) (e : Ending) (w' : World) : Prop := ∃ s p c l, e = .returned (.agg #[.bool s, .slice p l.length c]) ∧ IsNum w' s p c l z ∧ Below w.heap.size w w'
/-- The sign and the amount that make2 gives. -/
def mkZ (n : Bool) (m : Int) : Int := if n then -m else m
set_option maxHeartbeats 1000000 in
theorem make2_spec (n : Bool) (p : Option Addr) (c : Nat) (l : List Int) (w : World) (H : Limbs w (.slice p l.length c) l) (o : Ok l) (hl : l.length ≤ 1000) :
    Calls Try.prog 56 #[.bool n, .slice p l.length c] w (NumPost w (mkZ n (val l))) := by
  have hn := Mag.of_top o
  have tl := top_le l l.length
  have fin : ∀ (s : Bool) (w' : World), s = decide (mkZ n (val l) < 0) → Below w.heap.size w w' → NumPost w (mkZ n (val l)) (.returned (.agg #[.bool s, .slice p (top l l.length) c])) w' := by
    intro s w' hs hb
    have e : (l.take (top l l.length)).length = top l l.length := List.length_take_of_le tl
    have hm := hn
    refine ⟨s, p, c, l.take (top l l.length), by rw [e], ⟨hs, by rw [e]; exact (H.take _ tl).later hb, ?_⟩, hb⟩
    have : Lb.ab (mkZ n (val l)) = val l := by have := val_nonneg o; unfold mkZ Lb.ab; split <;> split <;> omega
    rw [this]; exact hm
  have neg : decide (mkZ n (val l) < 0) = (n && decide (0 < top l l.length)) := by
    have e : (l.take (top l l.length)).length = top l l.length := List.length_take_of_le tl
    have h0 := val_nonneg o
    have hi := hn.nil_iff
    have : (0 < top l l.length) ↔ 0 < val l := by
      constructor
      · intro h; have : ¬ l.take (top l l.length) = [] := fun q => by rw [q] at e; simp at e; omega
        have := mt hi.2 this; omega
      · intro h; apply Decidable.byContradiction; intro q
        have : l.take (top l l.length) = [] := List.eq_nil_of_length_eq_zero (by omega)
        have := hi.1 this; omega
    cases n
    · simp [mkZ]; omega
    · simp [mkZ, this]
  have HH := hide H
  have T1 : top l l.length ≤ 1000 := by omega
  have FIN := hide fin
  have NEG := hide neg
  clear H hn fin neg tl o
  have TR := fun w H => trim_at p c l w H (by omega)
  generalize top l l.length = t at *
  cases n
  · go_enter Try.func56, Try.ntmps56
    go_wp2_with fail
    refine (TR _ ?hT).mono ?_
    case hT => exact HH.out.later (by go_grown)
    rintro e w' ⟨rfl, rfl⟩
    clear TR
    go_wp2_with fail
    refine bodyPost_ret (by simp [results, Try.results56, go_sem]; try rfl) rfl ?_
    exact FIN.out _ _ NEG.out.symm (by go_grown)
  · by_cases ht : 0 < t
    · have d : decide (0 < t) = true := decide_eq_true ht
      have NEG2 := hide NEG.out
      go_enter Try.func56, Try.ntmps56
      go_wp2_with fail
      refine (TR _ ?hT).mono ?_
      case hT => exact HH.out.later (by go_grown)
      rintro e w' ⟨rfl, rfl⟩
      clear TR
      go_wp2_with fail
      refine bodyPost_ret (by simp [results, Try.results56, go_sem]; try rfl) rfl ?_
      exact FIN.out _ _ (by rw [NEG2.out, d]; rfl) (by go_grown)
    · have d : decide (0 < t) = false := decide_eq_false ht
      have NEG2 := hide NEG.out
      go_enter Try.func56, Try.ntmps56
      go_wp2_with fail
      refine (TR _ ?hT).mono ?_
      case hT => exact HH.out.later (by go_grown)
      rintro e w' ⟨rfl, rfl⟩
      clear TR
      go_wp2_with fail
      refine bodyPost_ret (by simp [results, Try.results56, go_sem]; try rfl) rfl ?_
      exact FIN.out _ _ (by rw [NEG2.out, d]; rfl) (by go_grown)
theorem IsNum.set {w : World} {s : Bool} {p : Option Addr} {c : Nat} {l : List Int} {z : Int} (h : IsNum w s p c l z) {r i : Nat} {t : TypeId} {m : Nat} (hr : w.shape? r = some (t, m)) (ht : t ≠ 107) (x : Value) : IsNum (w.setCell ⟨r, i, none⟩ x) s p c l z := ⟨h.neg, h.lim.set hr ht x, h.mag⟩
theorem num_end {w w1 : World} {s : Bool} {p : Option Addr} {c : Nat} {l : List Int} {z : Int} (N : IsNum w1 s p c l z) (hb : Below w.heap.size w w1) {r : Nat} {m : Nat} (hr : w1.shape? r = some (64, m)) (hg : w.heap.size ≤ r) (x y : Value) :
    NumPost w z (.returned (.agg #[.bool s, .slice p l.length c])) ((w1.setCell ⟨r, 0, none⟩ x).setCell ⟨r, 1, none⟩ y) :=
  ⟨s, p, c, l, rfl, (N.set hr (by decide) x).set (by rw [shape_set]; exact hr) (by decide) y, (hb.setCell hg x).setCell hg y⟩
theorem mkZ_not (z : Int) (s : Bool) (h : s = decide (z < 0)) : mkZ (!s) (Lb.ab z) = -z := by
  subst h; unfold mkZ Lb.ab; by_cases q : z < 0 <;> simp [q]
theorem mkZ_same (z : Int) (s : Bool) (h : s = decide (z < 0)) : mkZ s (Lb.ab z) = z := by
  subst h; unfold mkZ Lb.ab; by_cases q : z < 0 <;> simp [q]
set_option maxHeartbeats 1000000 in
theorem cmpN_tf (s s' : Bool) (pa pb : Option Addr) (ca cb : Nat) (la lb : List Int) (d : Int) (w : World) (hs : s = true) (hs' : s' = false) (hd : True)
    (KC : ∀ w', Below w.heap.size w w' → Calls Try.prog 68 #[.slice pa la.length ca, .slice pb lb.length cb] w' fun e w'' => e = .returned (.int .i64 d) ∧ Below w'.heap.size w' w'') :
    Calls Try.prog 70 #[.agg #[.bool s, .slice pa la.length ca], .agg #[.bool s', .slice pb lb.length cb]] w fun e w' => e = .returned (.int .i64 (-1)) ∧ Below w.heap.size w w' := by
  subst hs hs'
  have HD := hide hd
  clear hd
  go_enter Try.func70, Try.ntmps70
  go_wp2_with fail
  go_returns
  exact ⟨rfl, by go_grown⟩
set_option maxHeartbeats 1000000 in
theorem cmpN_ft (s s' : Bool) (pa pb : Option Addr) (ca cb : Nat) (la lb : List Int) (d : Int) (w : World) (hs : s = false) (hs' : s' = true) (hd : True)
    (KC : ∀ w', Below w.heap.size w w' → Calls Try.prog 68 #[.slice pa la.length ca, .slice pb lb.length cb] w' fun e w'' => e = .returned (.int .i64 d) ∧ Below w'.heap.size w' w'') :
    Calls Try.prog 70 #[.agg #[.bool s, .slice pa la.length ca], .agg #[.bool s', .slice pb lb.length cb]] w fun e w' => e = .returned (.int .i64 (1)) ∧ Below w.heap.size w w' := by
  subst hs hs'
  have HD := hide hd
  clear hd
  go_enter Try.func70, Try.ntmps70
  go_wp2_with fail
  go_returns
  exact ⟨rfl, by go_grown⟩
set_option maxHeartbeats 1000000 in
theorem cmpN_ff (s s' : Bool) (pa pb : Option Addr) (ca cb : Nat) (la lb : List Int) (d : Int) (w : World) (hs : s = false) (hs' : s' = false) (hd : True)
    (KC : ∀ w', Below w.heap.size w w' → Calls Try.prog 68 #[.slice pa la.length ca, .slice pb lb.length cb] w' fun e w'' => e = .returned (.int .i64 d) ∧ Below w'.heap.size w' w'') :
    Calls Try.prog 70 #[.agg #[.bool s, .slice pa la.length ca], .agg #[.bool s', .slice pb lb.length cb]] w fun e w' => e = .returned (.int .i64 (d)) ∧ Below w.heap.size w w' := by
  subst hs hs'
  have HD := hide hd
  clear hd
  go_enter Try.func70, Try.ntmps70
  go_wp2_with fail
  refine (KC _ (by go_grown)).mono ?_
  rintro e w1 ⟨rfl, hb⟩
  obtain ⟨bc, bf, bs⟩ := bcell hb
  simp only [World.size_alloc] at bc bf bs
  have B : Below w.heap.size w w1 := Below.trans (by go_grown) (hb.mono (by first | (simp; done) | omega | (simp; omega)))
  go_wp2_with fail
  go_returns
  exact ⟨rfl, B⟩
set_option maxHeartbeats 1000000 in
theorem cmpN_tt (s s' : Bool) (pa pb : Option Addr) (ca cb : Nat) (la lb : List Int) (d : Int) (w : World) (hs : s = true) (hs' : s' = true) (hd : -1 ≤ d ∧ d ≤ 1)
    (KC : ∀ w', Below w.heap.size w w' → Calls Try.prog 68 #[.slice pa la.length ca, .slice pb lb.length cb] w' fun e w'' => e = .returned (.int .i64 d) ∧ Below w'.heap.size w' w'') :
    Calls Try.prog 70 #[.agg #[.bool s, .slice pa la.length ca], .agg #[.bool s', .slice pb lb.length cb]] w fun e w' => e = .returned (.int .i64 (-d)) ∧ Below w.heap.size w w' := by
  subst hs hs'
  have HD := hide hd
  clear hd
  go_enter Try.func70, Try.ntmps70
  go_wp2_with fail
  refine (KC _ (by go_grown)).mono ?_
  rintro e w1 ⟨rfl, hb⟩
  obtain ⟨bc, bf, bs⟩ := bcell hb
  simp only [World.size_alloc] at bc bf bs
  have B : Below w.heap.size w w1 := Below.trans (by go_grown) (hb.mono (by first | (simp; done) | omega | (simp; omega)))
  obtain ⟨d0, d1⟩ := HD.out
  clear HD
  go_wp2_with fail
  go_returns
  exact ⟨rfl, B⟩
theorem cmp_ab_neg {x y : Int} (a : x < 0) (b : y < 0) : -(cmpI (Lb.ab x) (Lb.ab y)) = cmpI x y := by
  unfold cmpI Lb.ab; rw [if_pos a, if_pos b]; split <;> split <;> (try split) <;> omega
theorem cmp_ab_pos {x y : Int} (a : ¬ x < 0) (b : ¬ y < 0) : cmpI (Lb.ab x) (Lb.ab y) = cmpI x y := by
  unfold Lb.ab; rw [if_neg a, if_neg b]
theorem cmp_small (x y : Int) : -1 ≤ cmpI x y ∧ cmpI x y ≤ 1 := by unfold cmpI; split <;> (try split) <;> omega
theorem cmpN_spec (s s' : Bool) (pa pb : Option Addr) (ca cb : Nat) (la lb : List Int) (x y : Int) (w : World) (Ha : IsNum w s pa ca la x) (Hb : IsNum w s' pb cb lb y) (na : la.length ≤ 1000) (nb : lb.length ≤ 1000) :
    Calls Try.prog 70 #[.agg #[.bool s, .slice pa la.length ca], .agg #[.bool s', .slice pb lb.length cb]] w fun e w' => e = .returned (.int .i64 (cmpI x y)) ∧ Below w.heap.size w w' := by
  have KC := fun (w' : World) (h : Below w.heap.size w w') => cmpL_spec _ _ la lb w' (Ha.lim.later h) (Hb.lim.later h) Ha.mag.ok Hb.mag.ok na nb
  rw [Ha.mag.val, Hb.mag.val] at KC
  have sa := Ha.neg
  have sb := Hb.neg
  by_cases a : x < 0 <;> by_cases b : y < 0
  · rw [← cmp_ab_neg a b]; exact cmpN_tt s s' pa pb ca cb la lb _ w (by simp [sa, a]) (by simp [sb, b]) (cmp_small _ _) KC
  · rw [cmp_lt (by omega)]; exact cmpN_tf s s' pa pb ca cb la lb _ w (by simp [sa, a]) (by simp [sb, b]) trivial KC
  · rw [cmp_gt (by omega)]; exact cmpN_ft s s' pa pb ca cb la lb _ w (by simp [sa, a]) (by simp [sb, b]) trivial KC
  · rw [← cmp_ab_pos a b]; exact cmpN_ff s s' pa pb ca cb la lb _ w (by simp [sa, a]) (by simp [sb, b]) trivial KC
end Go.Proofs.Ytebiddmadmmfpaa
/- The reference of layer 1: mulL. -/
namespace Go.Proofs.Ytebiddmadmmfpaa
set_option linter.unusedVariables false
open Go.RowKit W Lb
theorem u64_low (x : Int) (a : 0 ≤ x) (b : x < 18446744073709551616) : bits .and .u64 x 65535 = x % 65536 := by
  rw [u64_and x 65535 a b (by omega) (by omega)]
  obtain ⟨m, rfl⟩ := Int.eq_ofNat_of_zero_le a
  have : ((m : Int).toNat &&& (65535 : Int).toNat) = m % 65536 := by
    show m &&& 65535 = m % 65536
    exact Nat.and_two_pow_sub_one_eq_mod m 16
  rw [this]; omega
/-- A row of n limbs of the call's own in block g. -/
structure Row (w wr : World) (g n : Nat) (o : List Int) : Prop where
  own : wr.ownsRow w.heap.size 107 1 (.slice (some ⟨g, 0, none⟩) n n) n (o.map (Value.int .u32))
  ok : Ok o
  len : o.length = n
  ge : w.heap.size ≤ g
  below : Below w.heap.size w wr
theorem Row.at_ {w wr : World} {g n : Nat} {o : List Int} (h : Row w wr g n o) (k : Nat) (hk : k < n) : wr.cell? ⟨g, k, none⟩ = some (.int .u32 (o.getD k 0)) ∧ wr.frozen? ⟨g, k, none⟩ = false := by
  have hl := h.len
  refine ⟨?_, h.own.frozenAt k⟩
  rw [h.own.cellAt k (by omega)]
  simp [List.getElem?_eq_getElem (show k < o.length by omega), List.getD_eq_getElem?_getD]
theorem Row.set {w wr : World} {g n : Nat} {o : List Int} (h : Row w wr g n o) (k : Nat) (x : Int) (a : 0 ≤ x) (b : x < 65536) (q : Nat) : Row w ((wr.drewN q).setCell ⟨g, k, none⟩ (.int .u32 x)) g n (o.set k x) := by
  have h0 : (wr.drewN q).ownsRow w.heap.size 107 1 (.slice (some ⟨g, 0, none⟩) n n) n (o.map (Value.int .u32)) := h.own
  have s := h0.stored k (.int .u32 x)
  refine ⟨?_, ok_set h.ok k a b, by simpa using h.len, h.ge, (below_drewN h.below q).setCell h.ge _⟩
  rw [List.map_set]; exact s.1
theorem Row.lt {w wr : World} {g n : Nat} {o : List Int} (h : Row w wr g n o) : g < wr.heap.size := (h.own.lt g rfl).2
theorem Row.limbs {w wr : World} {g n : Nat} {o : List Int} (h : Row w wr g n o) : Limbs wr (.slice (some ⟨g, 0, none⟩) n n) o := (Limbs.of_own h.own).1
theorem Row.made (w : World) (n : Nat) (hm : n ≤ maxLen) : Row w (w.alloc (.cells (madeCells #[.int .u32 0] n) 107)) w.heap.size n (List.replicate n 0) := by
  have := World.ownsRow_lit (size := 1) (e := 107) w (madeCells #[.int .u32 0] n) n (Nat.le_refl _) hm (by rw [size_madeCells]; omega)
  rw [toList_madeCells_one] at this
  refine ⟨by rw [List.map_replicate]; exact this, ?_, by simp, Nat.le_refl _, (Below.refl _ _).alloc (Nat.le_refl _) _⟩
  intro x hx; have := List.eq_of_mem_replicate hx; subst this; exact ⟨by omega, by omega⟩
theorem val_rep (n : Nat) : val (List.replicate n 0) = 0 := by have := val_zero [] n; simpa [val] using this
/-- What mulL's rows say. -/
structure MulAt (w wr : World) (la lb : List Int) (n k j : Nat) (c : Int) (o : List Int) : Prop where
  row : Row w wr w.heap.size n o
  c0 : 0 ≤ c
  c1 : c < 65536
  jj : j ≤ lb.length ∨ j = lb.length + 1 ∧ c = 0
  eq : val o + pw (k + j) * c = val (la.take k) * val lb + pw k * (la.getD k 0 * val (lb.take j))
  zero : ∀ t, k + max j lb.length ≤ t → o.getD t 0 = 0
theorem getD_set (o : List Int) (i t : Nat) (x : Int) (h : i ≠ t) : (o.set i x).getD t 0 = o.getD t 0 := by simp [List.getD_eq_getElem?_getD, List.getElem?_set, h]
theorem MulAt.step {w wr : World} {la lb : List Int} {n k j : Nat} {c x y m t d : Int} {o : List Int} (h : MulAt w wr la lb n k j c o) (q : Nat) (hn : n = la.length + lb.length) (hk : k < la.length) (oa : Ok la) (ob : Ok lb)
    (g : j < lb.length ∨ 0 < c) (hx : x = la.getD k 0) (hy : y = lb.getD j 0) (hm : m = x * y) (ht : t = (o.getD (k + j) 0 + m + c) % 65536) (hd : d = (o.getD (k + j) 0 + m + c) / 65536) (mb : 0 ≤ m ∧ m ≤ 4294836225) :
    MulAt w ((wr.drewN q).setCell ⟨w.heap.size, k + j, none⟩ (.int .u32 t)) la lb n k (j + 1) d (o.set (k + j) t) := by
  have ol := h.row.len
  have jj := h.jj
  have hj : j ≤ lb.length := by omega
  obtain ⟨z0, z1⟩ := ok_at h.row.ok (k + j)
  have c0 := h.c0
  have c1 := h.c1
  refine ⟨h.row.set (k + j) t (by omega) (by omega) q, by omega, by omega, ?_, ?_, ?_⟩
  · by_cases e : j < lb.length
    · exact .inl (by omega)
    · have y0 : y = 0 := by rw [hy]; exact at_out (by omega)
      have o0 := h.zero (k + j) (by omega)
      have m0 : m = 0 := by rw [hm, y0]; simp
      exact .inr ⟨by omega, by rw [hd, o0, m0]; omega⟩
  · rw [ht, hd, ← hx]
    exact mul_step (a := la) (b := lb) (by omega) hy (by rw [hm]) (by rw [hx]; exact h.eq)
  · intro i hi
    rw [getD_set _ _ _ _ (by omega)]
    exact h.zero i (by omega)
theorem MulAt.next {w wr : World} {la lb : List Int} {n k j : Nat} {o : List Int} (h : MulAt w wr la lb n k j 0 o) (hj : lb.length ≤ j) : MulAt w wr la lb n (k + 1) 0 0 o := by
  have e := h.eq
  have jj := h.jj
  rw [List.take_of_length_le hj] at e
  refine ⟨h.row, by omega, by omega, .inl (by omega), ?_, fun t ht => h.zero t (by omega)⟩
  rw [val_take]; simp only [List.take_zero, val]
  generalize la.getD (k + 1) 0 = u at *
  generalize la.getD k 0 = v at *
  grind
theorem MulAt.done {w wr : World} {la lb : List Int} {n k : Nat} {o : List Int} (h : MulAt w wr la lb n k 0 0 o) (hk : la.length ≤ k) : val o = val la * val lb := by
  have e := h.eq
  rw [List.take_of_length_le hk] at e
  simp only [List.take_zero, val] at e
  simpa using e
set_option maxRecDepth 100000 in
set_option maxHeartbeats 8000000 in
theorem mulL_some (b o cap : Nat) (q : Option Addr) (cb n : Nat) (la lb : List Int) (w : World) (hn : n = la.length + lb.length) (na : la.length ≤ 1000) (nb : lb.length ≤ 1000) (oa : Ok la) (ob : Ok lb) (hb : b < w.heap.size)
    (ha : ∀ k, k < la.length → w.cell? ⟨b, o + k, none⟩ = some (.int .u32 (la.getD k 0))) (Hb : Limbs w (.slice q lb.length cb) lb) :
    Calls Try.prog 57 #[.slice (some ⟨b, o, none⟩) la.length cap, .slice q lb.length cb] w (MagPost w (val la * val lb)) := by
  have HA := hide ha
  have HB := hide Hb
  have OA := hide oa
  have OB := hide ob
  have HN := hide hn
  have en : (la.length : Int) + lb.length = n := by omega
  have n2 : n ≤ 2000 := by omega
  have hmk := run_make_row' (P := Try.prog) 62 107 (.int .u32 0) 4 Try.underlying62 info_u32 rfl .i64 .i64 n (by omega) (by omega)
  have MD := hide (Row.made w n (by unfold maxLen; omega))
  clear ha Hb oa ob hn
  go_enter Try.func57, Try.ntmps57
  go_wp2
  clear hmk
  go_loopw [6] (fun i wr => ∃ (k : Nat) (o' : List Int), k ≤ la.length ∧ i = .int .i64 k ∧ MulAt w wr la lb n k 0 0 o') (fun i _ => la.length - (intOf i).toNat)
  case atStart => exact ⟨0, List.replicate n 0, by omega, rfl, MD.out, by omega, by omega, .inl (by omega), by rw [val_rep]; simp [val], fun t _ => by simp [List.getD_eq_getElem?_getD, List.getElem?_replicate]; split <;> rfl⟩
  case round =>
    obtain ⟨k, o', hk, rfl, at0⟩ := hrel
    have AT0 := hide at0
    clear at0
    by_cases hg : k < la.length
    · have X := ok_at OA.out k
      obtain ⟨x, hx⟩ : ∃ x, x = la.getD k 0 := ⟨_, rfl⟩
      have HX := hide hx
      rw [← hx] at X
      obtain ⟨x0, x1⟩ := X
      clear hx
      obtain ⟨wo, hwo⟩ : ∃ wo : World, wo = wr := ⟨_, rfl⟩
      have BO : Hid (Below wo.heap.size wo wr) := by rw [hwo]; exact Below.refl _ _
      clear hwo
      go_wp2
      go_loopw [7, 8, 9] (fun c j s wi => ∃ (i : Nat) (cc : Int) (o2 : List Int), c = .int .u64 cc ∧ j = .int .i64 i ∧ MulAt w wi la lb n k i cc o2) (fun _ j _ _ => lb.length + 1 - (intOf j).toNat)
      case atStart => exact ⟨0, 0, o', rfl, rfl, AT0.out⟩
      case round =>
        clear AT0 BO
        obtain ⟨i, cc, o2, rfl, rfl, at1⟩ := hrel
        have c0 := at1.c0
        have c1 := at1.c1
        have jj := at1.jj
        have AT := hide at1
        clear at1
        by_cases hi : i < lb.length ∨ 0 < cc
        · have ij : i ≤ lb.length := by omega
          have kn : k + i < n := by have := HN.out; omega
          obtain ⟨e1, e2⟩ := AT.out.row.at_ (k + i) kn
          have e3 : wr.cell? ⟨b, o + k, none⟩ = some (.int .u32 x) := (AT.out.row.below.cell (p := ⟨b, o + k, none⟩) hb).trans (by rw [HX.out]; exact HA.out k hg)
          have lt := AT.out.row.lt
          obtain ⟨z0, z1⟩ := ok_at AT.out.row.ok (k + i)
          obtain ⟨y0, y1⟩ := ok_at OB.out i
          have kl : ∀ m, Same 79 #[.slice q lb.length cb, .int .i64 i] (wr.drewN m) (.int .u32 (lb.getD i 0)) := fun m => limb_spec _ lb i _ (HB.out.later (below_drewN AT.out.row.below m)) (by omega) (by omega)
          obtain ⟨y, hy⟩ : ∃ y, y = lb.getD i 0 := ⟨_, rfl⟩
          obtain ⟨z, hz⟩ : ∃ z, z = o2.getD (k + i) 0 := ⟨_, rfl⟩
          rw [← hy] at kl y0 y1
          rw [← hz] at e1 z0 z1
          obtain ⟨m, hm⟩ : ∃ m, m = x * y := ⟨_, rfl⟩
          have m0 : 0 ≤ m := by rw [hm]; exact Int.mul_nonneg x0 y0
          have m1 : m ≤ 4294836225 := by
            rw [hm]
            have a1 : x * y ≤ x * 65535 := Int.mul_le_mul_of_nonneg_left (by omega) x0
            omega
          obtain ⟨t, ht⟩ : ∃ t, t = (z + m + cc) % 65536 := ⟨_, rfl⟩
          obtain ⟨d, hd⟩ : ∃ d, d = (z + m + cc) / 65536 := ⟨_, rfl⟩
          have em1 : x * y = m := hm.symm
          have em2 : IntKind.u64.wrap (x * y) = m := by rw [em1, IntKind.wrap_u64]; omega
          have ea : bits .and .u64 (z + m + cc) 65535 = t := by rw [u64_low _ (by omega) (by omega), ht]
          have ed : (z + m + cc) / 65536 = d := hd.symm
          have t0 : 0 ≤ t := by omega
          have t1 : t < 65536 := by omega
          have ew : t % 4294967296 = t := by omega
          have ST : Hid (∀ r, MulAt w ((wr.drewN r).setCell ⟨w.heap.size, k + i, none⟩ (.int .u32 t)) la lb n k (i + 1) d (o2.set (k + i) t)) := fun r => AT.out.step r HN.out hg OA.out OB.out hi HX.out hy hm (by rw [← hz]; exact ht) (by rw [← hz]; exact hd) ⟨m0, m1⟩
          have hi2 : i < lb.length ∨ (¬ i < lb.length ∧ 0 < cc) := by omega
          clear hy hz hm ht hd hi
          rcases hi2 with h1 | ⟨h1, h2⟩
          · go_wp2
            go_quiet ((go_at_call 79; exact still (kl _)))
            clear kl
            go_wp2
            go_roundw
            case rel => exact ⟨i + 1, d, _, rfl, by go_num, ST.out _⟩
            case measure => simp [intOf]; omega
          · go_wp2
            go_quiet ((go_at_call 79; exact still (kl _)))
            clear kl
            go_wp2
            go_roundw
            case rel => exact ⟨i + 1, d, _, rfl, by go_num, ST.out _⟩
            case measure => simp [intOf]; omega
        · obtain rfl : cc = 0 := by omega
          have h1 : ¬ i < lb.length := by omega
          have NX := hide (AT.out.next (by omega))
          clear AT hi
          go_wp2
          go_roundw
          case rel => exact ⟨k + 1, o2, by omega, by go_num, NX.out⟩
          case measure => simp [intOf]; omega
    · have e := AT0.out.done (by omega)
      have L := AT0.out.row.limbs
      have hl := AT0.out.row.len
      have T0 := trim_at (some ⟨w.heap.size, 0, none⟩) n o' wr (by rw [hl]; exact L) (by omega)
      rw [hl] at T0
      have FIN : Hid (MagPost w (val la * val lb) (.returned (.slice (some ⟨w.heap.size, 0, none⟩) (top o' n) n)) wr) := by
        have M := Mag.of_top AT0.out.row.ok
        rw [e, hl] at M
        exact ⟨_, _, rfl, L.take _ (top_le _ _), M, AT0.out.row.below, fun a n c e => by simp only [Value.slice.injEq, Option.some.injEq] at e; obtain ⟨rfl, _⟩ := e; exact Nat.le_refl _⟩
      clear AT0 L hl e
      go_wp2_with fail
      refine T0.mono ?_
      rintro e w' ⟨rfl, rfl⟩
      go_wp2_with fail
      go_returns
      exact FIN.out
set_option maxHeartbeats 2000000 in
theorem mulL_none (p q : Option Addr) (cap cb n : Nat) (w : World) (nb : n ≤ 1000) :
    Calls Try.prog 57 #[.slice p 0 cap, .slice q n cb] w (MagPost w 0) := by
  have hmk := run_make_row' (P := Try.prog) 62 107 (.int .u32 0) 4 Try.underlying62 info_u32 rfl .i64 .i64 n (by omega) (by omega)
  have MD := hide (Row.made w n (by unfold maxLen; omega))
  go_enter Try.func57, Try.ntmps57
  go_wp2
  clear hmk
  refine wp_loop_rounds 1 ?_
  rw [rounds_succ]
  have L := MD.out.limbs
  have hl := MD.out.len
  have T0 := trim_at (some ⟨w.heap.size, 0, none⟩) n (List.replicate n 0) (w.alloc (.cells (madeCells #[.int .u32 0] n) 107)) (by rw [hl]; exact L) (by omega)
  rw [hl] at T0
  have FIN : Hid (MagPost w 0 (.returned (.slice (some ⟨w.heap.size, 0, none⟩) (top (List.replicate n 0) n) n)) (w.alloc (.cells (madeCells #[.int .u32 0] n) 107))) := by
    have M := Mag.of_top MD.out.ok
    rw [val_rep, hl] at M
    exact ⟨_, _, rfl, L.take _ (top_le _ _), M, MD.out.below, fun a n c e => by simp only [Value.slice.injEq, Option.some.injEq] at e; obtain ⟨rfl, _⟩ := e; exact Nat.le_refl _⟩
  clear MD L hl
  go_wp2_with fail
  refine T0.mono ?_
  rintro e w' ⟨rfl, rfl⟩
  go_wp2_with fail
  go_returns
  exact FIN.out
theorem mulL_spec (p q : Option Addr) (ca cb : Nat) (la lb : List Int) (w : World) (Ha : Limbs w (.slice p la.length ca) la) (Hb : Limbs w (.slice q lb.length cb) lb) (oa : Ok la) (ob : Ok lb) (na : la.length ≤ 1000) (nb : lb.length ≤ 1000) :
    Calls Try.prog 57 #[.slice p la.length ca, .slice q lb.length cb] w (MagPost w (val la * val lb)) := by
  rcases Ha with ⟨x, c, rfl, e⟩ | ⟨b, o, c, e, hc, hb, hs, hh⟩
  · simp only [Value.slice.injEq] at e
    obtain ⟨rfl, _, rfl⟩ := e
    have : val [] * val lb = 0 := by simp [val]
    rw [this]; exact mulL_none p q ca cb _ w nb
  · simp only [Value.slice.injEq] at e
    obtain ⟨rfl, _, rfl⟩ := e
    exact mulL_some b o ca q cb _ la lb w rfl na nb oa ob hb hh Hb
end Go.Proofs.Ytebiddmadmmfpaa
/- Complements of words. -/
namespace Go.Proofs.Ytebiddmadmmfpaa
set_option linter.unusedVariables false
open Go.RowKit W
theorem xor_i64 (c : Int) (j : IsHi c) : bits .xor .i64 (-1) c = -c - 1 := by
  obtain ⟨a, b⟩ := j
  have h : (BitVec.ofInt 64 (-1) ^^^ BitVec.ofInt 64 c).toNat = 18446744073709551615 - (c % 18446744073709551616).toNat := by
    have h1 : BitVec.ofInt 64 (-1) = BitVec.allOnes 64 := by decide
    rw [h1, BitVec.allOnes_xor, BitVec.toNat_not, BitVec.toNat_ofInt]; simp
  show IntKind.i64.wrap ((BitVec.ofInt 64 (-1) ^^^ BitVec.ofInt 64 c).toNat : Int) = _
  rw [h, IntKind.wrap_i64]; omega
theorem xor_u64 (c : Int) (j : IsLo c) : bits .xor .u64 IntKind.u64.max c = -c - 1 + 18446744073709551616 := by
  obtain ⟨a, b⟩ := j
  have h : (BitVec.ofInt 64 IntKind.u64.max ^^^ BitVec.ofInt 64 c).toNat = 18446744073709551615 - (c % 18446744073709551616).toNat := by
    have h1 : BitVec.ofInt 64 IntKind.u64.max = BitVec.allOnes 64 := by decide
    rw [h1, BitVec.allOnes_xor, BitVec.toNat_not, BitVec.toNat_ofInt]; simp
  show IntKind.u64.wrap ((BitVec.ofInt 64 IntKind.u64.max ^^^ BitVec.ofInt 64 c).toNat : Int) = _
  rw [h, IntKind.wrap_u64]; omega
end Go.Proofs.Ytebiddmadmmfpaa
/- The reference of layer 1: From. -/
namespace Go.Proofs.Ytebiddmadmmfpaa
set_option linter.unusedVariables false
open Go.RowKit W Lb
theorem p2_pw' (k : Nat) : (2 : Int) ^ (16 * k) = pw k := by rw [← p2_pow, p2_pw]
theorem words_map (n : Nat) (x : Int) : (words (n + 1) x).map (Value.int .u32) = (words n x).map (Value.int .u32) ++ [.int .u32 (x / pw n % 65536)] := by rw [words_snoc]; simp
/-- The place of an answer of two cells that may be written. -/
structure RBox (w : World) (r : Nat) : Prop where
  r0 : w.cell? ⟨r, 0, none⟩ = some (.bool false)
  r1 : w.cell? ⟨r, 1, none⟩ = some (.slice none 0 0)
  g0 : w.frozen? ⟨r, 0, none⟩ = false
  g1 : w.frozen? ⟨r, 1, none⟩ = false
  sh : w.shape? r = some (64, 2)
  lt : r < w.heap.size
theorem RBox.later {w w' : World} {r B : Nat} (h : RBox w r) (k : Below B w w') (hb : r < B) : RBox w' r :=
  ⟨(k.cell (p := ⟨r, 0, none⟩) hb).trans h.r0, (k.cell (p := ⟨r, 1, none⟩) hb).trans h.r1, (k.frozen (p := ⟨r, 0, none⟩) hb).trans h.g0, (k.frozen (p := ⟨r, 1, none⟩) hb).trans h.g1, (shape_later k hb).trans h.sh, Nat.lt_of_lt_of_le h.lt k.size⟩
theorem append_words (x : Int) (i : IsLo x) (k : Nat) (hk : k < 4) : bits .and .u32 (x / 2 ^ (16 * k) % 4294967296) 65535 = x / pw k % 65536 := by
  rw [p2_pw', u32_low _ (by omega) (by omega)]; omega
/-- The limbs of a word behind others. -/
structure FromAt (W wr : World) (v : Value) (o : List Int) : Prop where
  own : wr.ownsRow W.heap.size 107 1 v o.length (o.map (Value.int .u32))
  below : Below W.heap.size W wr
set_option maxRecDepth 100000 in
set_option maxHeartbeats 4000000 in
theorem from_pos (a b h l z : Int) (jh : IsLo h) (jl : IsLo l) (hz : z = V a b) (hm : Lb.ab z = l + h * 18446744073709551616) (hn : (a < 0) = False) (ja : IsW (a, b)) (e1 : IntKind.u64.wrap a = h) (e2 : l = b) (w : World) :
    Calls Try.prog 58 #[.agg #[.int .i64 a, .int .u64 b]] w (NumPost w z) := by
  have IL0 := hide jl
  have IH := hide jh
  have IL := hide jl
  have hneg : decide (z < 0) = false := by
    obtain ⟨⟨_, _⟩, _, _⟩ := ja; unfold V at hz; simp only [eq_iff_iff, iff_true, iff_false] at hn; simp; omega
  have KM : ∀ (p : Option Addr) (c : Nat) (o : List Int) (w' : World), Limbs w' (.slice p o.length c) o → Ok o → o.length ≤ 1000 → val o = Lb.ab z → Calls Try.prog 56 #[.bool false, .slice p o.length c] w' (NumPost w' z) := by
    intro p c o w' H1 H2 H3 H4
    have := make2_spec false p c o w' H1 H2 H3
    rwa [H4, mkZ_same z _ hneg.symm] at this
  have HM := hide hm
  clear hm hz hneg
  subst e2
  have na : ¬ a < 0 := by simpa using hn
  go_enter Try.func58, Try.ntmps58
  go_wp2
  go_quiet (fail)
  go_wp2
  refine abs_wp (fun W => RBox W (w.heap.size + 1) ∧ Below w.heap.size w W) ?_ ?_
  · refine ⟨⟨?_, ?_, ?_, ?_, ?_, ?_⟩, ?_⟩
    all_goals first | (go_grown; done) | (exact shape_top _ _ _ _ (by simp)) | (simp [go_sem]; done) | (simp; done) | (simp; omega) | (exact below_drewN (by go_grown) _)
  rintro W ⟨RB0, BW⟩
  have RB := hide RB0
  have lt := RB0.lt
  clear RB0 ja jh jl hn
  go_loopw [3, 7] (fun v i wr => ∃ k : Nat, k ≤ 4 ∧ i = .int .i64 k ∧ FromAt W wr v (words k l)) (fun _ i _ => 4 - (intOf i).toNat)
  case atStart => exact ⟨0, by omega, rfl, ⟨World.ownsRow_nil _ _ _ _, Below.refl _ _⟩⟩
  case round =>
    obtain ⟨k, hk, rfl, AT0⟩ := hrel
    have AT := hide AT0
    clear AT0
    by_cases hg : k < 4
    · have e1 := append_words l IL.out k hg
      have sz := AT.out.below.size
      obtain ⟨t, ht⟩ : ∃ t, t = l / pw k % 65536 := ⟨_, rfl⟩
      rw [← ht] at e1
      have HT := hide ht
      clear ht
      have kb : 16 * (k : Int) < 64 := by omega
      obtain ⟨i0, hi0, hz0, hz1, hz2⟩ := info_parts info_u32
      have HI : Hid (Try.prog.info? 107 = some i0 ∧ i0.zero = some (.int .u32 0) ∧ i0.size = 1 ∧ i0.bytes = 4) := ⟨hi0, hz0, hz1, hz2⟩
      have le : (words k l).length ≤ 8 := by simp [words_len]; omega
      have km : (words k l).length + 1 ≤ maxLen := by unfold maxLen; omega
      have ex : 0 ≤ l := IL.out.a
      have ey : l < 18446744073709551616 := IL.out.b
      clear hi0 hz0 hz1 hz2
      go_wp2_with (at_builtin; go_loud (refine wpList_append_own _ rfl _ _ 62 rfl W.heap.size 107 i0 (.int .u32 0) 1 4 Try.underlying62 HI.out.1 HI.out.2.1 HI.out.2.2.1 HI.out.2.2.2 rfl (by decide) u3 _ ((words k l).map (Value.int .u32)) rfl (AT.out.own.alloc _) ⟨wr.heap.size, 0, none⟩ 1 1 [.int .u32 t] rfl rfl (cell_one_new _ _ _) one_u32 km (by omega) (by simp; omega) ?_); intro v' w1 hown' hgrow hnil)
      go_roundw
      case rel =>
        have L : words (k + 1) l = (words k l) ++ [t] := by rw [words_snoc k l, HT.out]; try rw [List.append_assoc]
        refine ⟨k + 1, by omega, by go_num, ⟨?_, (AT.out.below.alloc sz _).grown hgrow (by simp; omega) (fun j hj => (AT.out.own.lt j hj).1)⟩⟩
        rw [L, List.map_append, List.length_append]; exact hown'
      case measure => simp [intOf]; omega
    · obtain rfl : k = 4 := by omega
      have e4 : ((4 : Nat) : Int) = 4 := rfl
      rw [e4]
      clear e4
      go_wp2
      go_loopw [3, 8] (fun v i wr => ∃ k : Nat, k ≤ 4 ∧ i = .int .i64 k ∧ FromAt W wr v (words 4 l ++ words k h)) (fun _ i _ => 4 - (intOf i).toNat)
      case atStart => exact ⟨0, by omega, rfl, by simpa [words] using AT.out⟩
      case round =>
        obtain ⟨k, hk, rfl, AT0⟩ := hrel
        clear AT
        have AT := hide AT0
        clear AT0
        by_cases hg : k < 4
        · have e1 := append_words h IH.out k hg
          have sz := AT.out.below.size
          obtain ⟨t, ht⟩ : ∃ t, t = h / pw k % 65536 := ⟨_, rfl⟩
          rw [← ht] at e1
          have HT := hide ht
          clear ht
          have kb : 16 * (k : Int) < 64 := by omega
          obtain ⟨i0, hi0, hz0, hz1, hz2⟩ := info_parts info_u32
          have HI : Hid (Try.prog.info? 107 = some i0 ∧ i0.zero = some (.int .u32 0) ∧ i0.size = 1 ∧ i0.bytes = 4) := ⟨hi0, hz0, hz1, hz2⟩
          have le : (words 4 l ++ words k h).length ≤ 8 := by simp [words_len]; omega
          have km : (words 4 l ++ words k h).length + 1 ≤ maxLen := by unfold maxLen; omega
          have ex : 0 ≤ h := IH.out.a
          have ey : h < 18446744073709551616 := IH.out.b
          clear hi0 hz0 hz1 hz2
          go_wp2_with (at_builtin; go_loud (refine wpList_append_own _ rfl _ _ 62 rfl W.heap.size 107 i0 (.int .u32 0) 1 4 Try.underlying62 HI.out.1 HI.out.2.1 HI.out.2.2.1 HI.out.2.2.2 rfl (by decide) u3 _ ((words 4 l ++ words k h).map (Value.int .u32)) rfl (AT.out.own.alloc _) ⟨wr.heap.size, 0, none⟩ 1 1 [.int .u32 t] rfl rfl (cell_one_new _ _ _) one_u32 km (by omega) (by simp; omega) ?_); intro v' w1 hown' hgrow hnil)
          go_roundw
          case rel =>
            have L : words 4 l ++ words (k + 1) h = (words 4 l ++ words k h) ++ [t] := by rw [words_snoc k h, HT.out]; try rw [List.append_assoc]
            refine ⟨k + 1, by omega, by go_num, ⟨?_, (AT.out.below.alloc sz _).grown hgrow (by simp; omega) (fun j hj => (AT.out.own.lt j hj).1)⟩⟩
            rw [L, List.map_append, List.length_append]; exact hown'
          case measure => simp [intOf]; omega
        · obtain rfl : k = 4 := by omega
          have e4 : ((4 : Nat) : Int) = 4 := rfl
          rw [e4]
          clear e4
          have F := hide AT.out
          obtain ⟨LM, hn⟩ := Limbs.of_own F.out.own
          have LL : (words 4 l ++ words 4 h).length = 8 := by simp [words_len]
          obtain ⟨p, c, hv⟩ := LM.form
          have ho : Ok (words 4 l ++ words 4 h) := by
            intro x hx; rcases List.mem_append.1 hx with q | q
            · exact words_ok 4 l x q
            · exact words_ok 4 h x q
          have hvl : val (words 4 l ++ words 4 h) = Lb.ab z := by
            rw [val_append, words_val 4 l IL.out.a (by have := IL.out.b; simpa [pw] using this), words_val 4 h IH.out.a (by have := IH.out.b; simpa [pw] using this), words_len, HM.out]
            simp [pw]; omega
          have km := KM p c _ wr (by rw [← hv]; exact LM) ho (by omega) hvl
          rw [← hv] at km
          have KK := hide km
          have RR := hide (RB.out.later F.out.below (by omega))
          have BB := hide (BW.trans (F.out.below.mono BW.size))
          have lt2 := RR.out.lt
          clear LM hn LL hv ho hvl km KM AT F BW RB
          go_wp2_with fail
          refine KK.out.mono ?_
          rintro e w1 ⟨s', p', c', l', rfl, N', hb⟩
          have R2 := RR.out.later hb (by omega)
          have FF := hide (num_end N' (BB.out.trans (hb.mono BB.out.size)) R2.sh (by omega))
          obtain ⟨r0, r1, g0, g1, _, zz⟩ := R2
          clear N' hb KK
          go_wp2_with fail
          refine bodyPost_ret (by simp [results, Try.results58, go_sem, r0, r1, g0, g1, zz]; try rfl) rfl ?_
          exact FF.out _ _
set_option maxRecDepth 100000 in
set_option maxHeartbeats 4000000 in
theorem from_neg1 (a b h l z : Int) (jh : IsLo h) (jl : IsLo l) (hz : z = V a b) (hm : Lb.ab z = l + h * 18446744073709551616) (hn : (a < 0) = True) (ja : IsW (a, b)) (h0 p : Int) (e1 : IntKind.u64.wrap a = h0) (e3 : bits .xor .u64 IntKind.u64.max b = p) (e4 : IntKind.u64.wrap (p + 1) = l) (hl : (l == 0) = false) (e5 : bits .xor .u64 IntKind.u64.max h0 = h) (w : World) :
    Calls Try.prog 58 #[.agg #[.int .i64 a, .int .u64 b]] w (NumPost w z) := by
  have IL0 := hide jl
  have IH := hide jh
  have IL := hide jl
  have hneg : decide (z < 0) = true := by
    obtain ⟨⟨_, _⟩, _, _⟩ := ja; unfold V at hz; simp only [eq_iff_iff, iff_true, iff_false] at hn; simp; omega
  have KM : ∀ (p : Option Addr) (c : Nat) (o : List Int) (w' : World), Limbs w' (.slice p o.length c) o → Ok o → o.length ≤ 1000 → val o = Lb.ab z → Calls Try.prog 56 #[.bool true, .slice p o.length c] w' (NumPost w' z) := by
    intro p c o w' H1 H2 H3 H4
    have := make2_spec true p c o w' H1 H2 H3
    rwa [H4, mkZ_same z _ hneg.symm] at this
  have HM := hide hm
  clear hm hz hneg
  have na : a < 0 := by simpa using hn
  have e3' : bits .xor .u64 (if IntKind.u64.signed = true then -1 else IntKind.u64.max) b = p := e3
  have e5' : bits .xor .u64 (if IntKind.u64.signed = true then -1 else IntKind.u64.max) h0 = h := e5
  go_enter Try.func58, Try.ntmps58
  go_wp2
  go_quiet (fail)
  go_wp2
  refine abs_wp (fun W => RBox W (w.heap.size + 1) ∧ Below w.heap.size w W) ?_ ?_
  · refine ⟨⟨?_, ?_, ?_, ?_, ?_, ?_⟩, ?_⟩
    all_goals first | (go_grown; done) | (exact shape_top _ _ _ _ (by simp)) | (simp [go_sem]; done) | (simp; done) | (simp; omega) | (exact below_drewN (by go_grown) _)
  rintro W ⟨RB0, BW⟩
  have RB := hide RB0
  have lt := RB0.lt
  clear RB0 ja jh jl hn
  go_loopw [3, 7] (fun v i wr => ∃ k : Nat, k ≤ 4 ∧ i = .int .i64 k ∧ FromAt W wr v (words k l)) (fun _ i _ => 4 - (intOf i).toNat)
  case atStart => exact ⟨0, by omega, rfl, ⟨World.ownsRow_nil _ _ _ _, Below.refl _ _⟩⟩
  case round =>
    obtain ⟨k, hk, rfl, AT0⟩ := hrel
    have AT := hide AT0
    clear AT0
    by_cases hg : k < 4
    · have e1 := append_words l IL.out k hg
      have sz := AT.out.below.size
      obtain ⟨t, ht⟩ : ∃ t, t = l / pw k % 65536 := ⟨_, rfl⟩
      rw [← ht] at e1
      have HT := hide ht
      clear ht
      have kb : 16 * (k : Int) < 64 := by omega
      obtain ⟨i0, hi0, hz0, hz1, hz2⟩ := info_parts info_u32
      have HI : Hid (Try.prog.info? 107 = some i0 ∧ i0.zero = some (.int .u32 0) ∧ i0.size = 1 ∧ i0.bytes = 4) := ⟨hi0, hz0, hz1, hz2⟩
      have le : (words k l).length ≤ 8 := by simp [words_len]; omega
      have km : (words k l).length + 1 ≤ maxLen := by unfold maxLen; omega
      have ex : 0 ≤ l := IL.out.a
      have ey : l < 18446744073709551616 := IL.out.b
      clear hi0 hz0 hz1 hz2
      go_wp2_with (at_builtin; go_loud (refine wpList_append_own _ rfl _ _ 62 rfl W.heap.size 107 i0 (.int .u32 0) 1 4 Try.underlying62 HI.out.1 HI.out.2.1 HI.out.2.2.1 HI.out.2.2.2 rfl (by decide) u3 _ ((words k l).map (Value.int .u32)) rfl (AT.out.own.alloc _) ⟨wr.heap.size, 0, none⟩ 1 1 [.int .u32 t] rfl rfl (cell_one_new _ _ _) one_u32 km (by omega) (by simp; omega) ?_); intro v' w1 hown' hgrow hnil)
      go_roundw
      case rel =>
        have L : words (k + 1) l = (words k l) ++ [t] := by rw [words_snoc k l, HT.out]; try rw [List.append_assoc]
        refine ⟨k + 1, by omega, by go_num, ⟨?_, (AT.out.below.alloc sz _).grown hgrow (by simp; omega) (fun j hj => (AT.out.own.lt j hj).1)⟩⟩
        rw [L, List.map_append, List.length_append]; exact hown'
      case measure => simp [intOf]; omega
    · obtain rfl : k = 4 := by omega
      have e4 : ((4 : Nat) : Int) = 4 := rfl
      rw [e4]
      clear e4
      go_wp2
      go_loopw [3, 8] (fun v i wr => ∃ k : Nat, k ≤ 4 ∧ i = .int .i64 k ∧ FromAt W wr v (words 4 l ++ words k h)) (fun _ i _ => 4 - (intOf i).toNat)
      case atStart => exact ⟨0, by omega, rfl, by simpa [words] using AT.out⟩
      case round =>
        obtain ⟨k, hk, rfl, AT0⟩ := hrel
        clear AT
        have AT := hide AT0
        clear AT0
        by_cases hg : k < 4
        · have e1 := append_words h IH.out k hg
          have sz := AT.out.below.size
          obtain ⟨t, ht⟩ : ∃ t, t = h / pw k % 65536 := ⟨_, rfl⟩
          rw [← ht] at e1
          have HT := hide ht
          clear ht
          have kb : 16 * (k : Int) < 64 := by omega
          obtain ⟨i0, hi0, hz0, hz1, hz2⟩ := info_parts info_u32
          have HI : Hid (Try.prog.info? 107 = some i0 ∧ i0.zero = some (.int .u32 0) ∧ i0.size = 1 ∧ i0.bytes = 4) := ⟨hi0, hz0, hz1, hz2⟩
          have le : (words 4 l ++ words k h).length ≤ 8 := by simp [words_len]; omega
          have km : (words 4 l ++ words k h).length + 1 ≤ maxLen := by unfold maxLen; omega
          have ex : 0 ≤ h := IH.out.a
          have ey : h < 18446744073709551616 := IH.out.b
          clear hi0 hz0 hz1 hz2
          go_wp2_with (at_builtin; go_loud (refine wpList_append_own _ rfl _ _ 62 rfl W.heap.size 107 i0 (.int .u32 0) 1 4 Try.underlying62 HI.out.1 HI.out.2.1 HI.out.2.2.1 HI.out.2.2.2 rfl (by decide) u3 _ ((words 4 l ++ words k h).map (Value.int .u32)) rfl (AT.out.own.alloc _) ⟨wr.heap.size, 0, none⟩ 1 1 [.int .u32 t] rfl rfl (cell_one_new _ _ _) one_u32 km (by omega) (by simp; omega) ?_); intro v' w1 hown' hgrow hnil)
          go_roundw
          case rel =>
            have L : words 4 l ++ words (k + 1) h = (words 4 l ++ words k h) ++ [t] := by rw [words_snoc k h, HT.out]; try rw [List.append_assoc]
            refine ⟨k + 1, by omega, by go_num, ⟨?_, (AT.out.below.alloc sz _).grown hgrow (by simp; omega) (fun j hj => (AT.out.own.lt j hj).1)⟩⟩
            rw [L, List.map_append, List.length_append]; exact hown'
          case measure => simp [intOf]; omega
        · obtain rfl : k = 4 := by omega
          have e4 : ((4 : Nat) : Int) = 4 := rfl
          rw [e4]
          clear e4
          have F := hide AT.out
          obtain ⟨LM, hn⟩ := Limbs.of_own F.out.own
          have LL : (words 4 l ++ words 4 h).length = 8 := by simp [words_len]
          obtain ⟨p, c, hv⟩ := LM.form
          have ho : Ok (words 4 l ++ words 4 h) := by
            intro x hx; rcases List.mem_append.1 hx with q | q
            · exact words_ok 4 l x q
            · exact words_ok 4 h x q
          have hvl : val (words 4 l ++ words 4 h) = Lb.ab z := by
            rw [val_append, words_val 4 l IL.out.a (by have := IL.out.b; simpa [pw] using this), words_val 4 h IH.out.a (by have := IH.out.b; simpa [pw] using this), words_len, HM.out]
            simp [pw]; omega
          have km := KM p c _ wr (by rw [← hv]; exact LM) ho (by omega) hvl
          rw [← hv] at km
          have KK := hide km
          have RR := hide (RB.out.later F.out.below (by omega))
          have BB := hide (BW.trans (F.out.below.mono BW.size))
          have lt2 := RR.out.lt
          clear LM hn LL hv ho hvl km KM AT F BW RB
          go_wp2_with fail
          refine KK.out.mono ?_
          rintro e w1 ⟨s', p', c', l', rfl, N', hb⟩
          have R2 := RR.out.later hb (by omega)
          have FF := hide (num_end N' (BB.out.trans (hb.mono BB.out.size)) R2.sh (by omega))
          obtain ⟨r0, r1, g0, g1, _, zz⟩ := R2
          clear N' hb KK
          go_wp2_with fail
          refine bodyPost_ret (by simp [results, Try.results58, go_sem, r0, r1, g0, g1, zz]; try rfl) rfl ?_
          exact FF.out _ _
set_option maxRecDepth 100000 in
set_option maxHeartbeats 4000000 in
theorem from_neg2 (a b h l z : Int) (jh : IsLo h) (jl : IsLo l) (hz : z = V a b) (hm : Lb.ab z = l + h * 18446744073709551616) (hn : (a < 0) = True) (ja : IsW (a, b)) (h0 q : Int) (eb : b = 0) (e6 : IntKind.u64.wrap 18446744073709551616 = l) (hl : (l == 0) = true) (e1 : IntKind.u64.wrap a = h0) (e3 : bits .xor .u64 IntKind.u64.max 0 = 18446744073709551615) (e4 : IntKind.u64.wrap (q + 1) = h) (e5 : bits .xor .u64 IntKind.u64.max h0 = q) (w : World) :
    Calls Try.prog 58 #[.agg #[.int .i64 a, .int .u64 b]] w (NumPost w z) := by
  have IL0 := hide jl
  have IH := hide jh
  have IL := hide jl
  have hneg : decide (z < 0) = true := by
    obtain ⟨⟨_, _⟩, _, _⟩ := ja; unfold V at hz; simp only [eq_iff_iff, iff_true, iff_false] at hn; simp; omega
  have KM : ∀ (p : Option Addr) (c : Nat) (o : List Int) (w' : World), Limbs w' (.slice p o.length c) o → Ok o → o.length ≤ 1000 → val o = Lb.ab z → Calls Try.prog 56 #[.bool true, .slice p o.length c] w' (NumPost w' z) := by
    intro p c o w' H1 H2 H3 H4
    have := make2_spec true p c o w' H1 H2 H3
    rwa [H4, mkZ_same z _ hneg.symm] at this
  have HM := hide hm
  clear hm hz hneg
  have na : a < 0 := by simpa using hn
  subst eb
  have e3' : bits .xor .u64 (if IntKind.u64.signed = true then -1 else IntKind.u64.max) 0 = 18446744073709551615 := e3
  have e5' : bits .xor .u64 (if IntKind.u64.signed = true then -1 else IntKind.u64.max) h0 = q := e5
  go_enter Try.func58, Try.ntmps58
  go_wp2
  go_quiet (fail)
  go_wp2
  refine abs_wp (fun W => RBox W (w.heap.size + 1) ∧ Below w.heap.size w W) ?_ ?_
  · refine ⟨⟨?_, ?_, ?_, ?_, ?_, ?_⟩, ?_⟩
    all_goals first | (go_grown; done) | (exact shape_top _ _ _ _ (by simp)) | (simp [go_sem]; done) | (simp; done) | (simp; omega) | (exact below_drewN (by go_grown) _)
  rintro W ⟨RB0, BW⟩
  have RB := hide RB0
  have lt := RB0.lt
  clear RB0 ja jh jl hn
  go_loopw [3, 7] (fun v i wr => ∃ k : Nat, k ≤ 4 ∧ i = .int .i64 k ∧ FromAt W wr v (words k l)) (fun _ i _ => 4 - (intOf i).toNat)
  case atStart => exact ⟨0, by omega, rfl, ⟨World.ownsRow_nil _ _ _ _, Below.refl _ _⟩⟩
  case round =>
    obtain ⟨k, hk, rfl, AT0⟩ := hrel
    have AT := hide AT0
    clear AT0
    by_cases hg : k < 4
    · have e1 := append_words l IL.out k hg
      have sz := AT.out.below.size
      obtain ⟨t, ht⟩ : ∃ t, t = l / pw k % 65536 := ⟨_, rfl⟩
      rw [← ht] at e1
      have HT := hide ht
      clear ht
      have kb : 16 * (k : Int) < 64 := by omega
      obtain ⟨i0, hi0, hz0, hz1, hz2⟩ := info_parts info_u32
      have HI : Hid (Try.prog.info? 107 = some i0 ∧ i0.zero = some (.int .u32 0) ∧ i0.size = 1 ∧ i0.bytes = 4) := ⟨hi0, hz0, hz1, hz2⟩
      have le : (words k l).length ≤ 8 := by simp [words_len]; omega
      have km : (words k l).length + 1 ≤ maxLen := by unfold maxLen; omega
      have ex : 0 ≤ l := IL.out.a
      have ey : l < 18446744073709551616 := IL.out.b
      clear hi0 hz0 hz1 hz2
      go_wp2_with (at_builtin; go_loud (refine wpList_append_own _ rfl _ _ 62 rfl W.heap.size 107 i0 (.int .u32 0) 1 4 Try.underlying62 HI.out.1 HI.out.2.1 HI.out.2.2.1 HI.out.2.2.2 rfl (by decide) u3 _ ((words k l).map (Value.int .u32)) rfl (AT.out.own.alloc _) ⟨wr.heap.size, 0, none⟩ 1 1 [.int .u32 t] rfl rfl (cell_one_new _ _ _) one_u32 km (by omega) (by simp; omega) ?_); intro v' w1 hown' hgrow hnil)
      go_roundw
      case rel =>
        have L : words (k + 1) l = (words k l) ++ [t] := by rw [words_snoc k l, HT.out]; try rw [List.append_assoc]
        refine ⟨k + 1, by omega, by go_num, ⟨?_, (AT.out.below.alloc sz _).grown hgrow (by simp; omega) (fun j hj => (AT.out.own.lt j hj).1)⟩⟩
        rw [L, List.map_append, List.length_append]; exact hown'
      case measure => simp [intOf]; omega
    · obtain rfl : k = 4 := by omega
      have e4 : ((4 : Nat) : Int) = 4 := rfl
      rw [e4]
      clear e4
      go_wp2
      go_loopw [3, 8] (fun v i wr => ∃ k : Nat, k ≤ 4 ∧ i = .int .i64 k ∧ FromAt W wr v (words 4 l ++ words k h)) (fun _ i _ => 4 - (intOf i).toNat)
      case atStart => exact ⟨0, by omega, rfl, by simpa [words] using AT.out⟩
      case round =>
        obtain ⟨k, hk, rfl, AT0⟩ := hrel
        clear AT
        have AT := hide AT0
        clear AT0
        by_cases hg : k < 4
        · have e1 := append_words h IH.out k hg
          have sz := AT.out.below.size
          obtain ⟨t, ht⟩ : ∃ t, t = h / pw k % 65536 := ⟨_, rfl⟩
          rw [← ht] at e1
          have HT := hide ht
          clear ht
          have kb : 16 * (k : Int) < 64 := by omega
          obtain ⟨i0, hi0, hz0, hz1, hz2⟩ := info_parts info_u32
          have HI : Hid (Try.prog.info? 107 = some i0 ∧ i0.zero = some (.int .u32 0) ∧ i0.size = 1 ∧ i0.bytes = 4) := ⟨hi0, hz0, hz1, hz2⟩
          have le : (words 4 l ++ words k h).length ≤ 8 := by simp [words_len]; omega
          have km : (words 4 l ++ words k h).length + 1 ≤ maxLen := by unfold maxLen; omega
          have ex : 0 ≤ h := IH.out.a
          have ey : h < 18446744073709551616 := IH.out.b
          clear hi0 hz0 hz1 hz2
          go_wp2_with (at_builtin; go_loud (refine wpList_append_own _ rfl _ _ 62 rfl W.heap.size 107 i0 (.int .u32 0) 1 4 Try.underlying62 HI.out.1 HI.out.2.1 HI.out.2.2.1 HI.out.2.2.2 rfl (by decide) u3 _ ((words 4 l ++ words k h).map (Value.int .u32)) rfl (AT.out.own.alloc _) ⟨wr.heap.size, 0, none⟩ 1 1 [.int .u32 t] rfl rfl (cell_one_new _ _ _) one_u32 km (by omega) (by simp; omega) ?_); intro v' w1 hown' hgrow hnil)
          go_roundw
          case rel =>
            have L : words 4 l ++ words (k + 1) h = (words 4 l ++ words k h) ++ [t] := by rw [words_snoc k h, HT.out]; try rw [List.append_assoc]
            refine ⟨k + 1, by omega, by go_num, ⟨?_, (AT.out.below.alloc sz _).grown hgrow (by simp; omega) (fun j hj => (AT.out.own.lt j hj).1)⟩⟩
            rw [L, List.map_append, List.length_append]; exact hown'
          case measure => simp [intOf]; omega
        · obtain rfl : k = 4 := by omega
          have e4 : ((4 : Nat) : Int) = 4 := rfl
          rw [e4]
          clear e4
          have F := hide AT.out
          obtain ⟨LM, hn⟩ := Limbs.of_own F.out.own
          have LL : (words 4 l ++ words 4 h).length = 8 := by simp [words_len]
          obtain ⟨p, c, hv⟩ := LM.form
          have ho : Ok (words 4 l ++ words 4 h) := by
            intro x hx; rcases List.mem_append.1 hx with q | q
            · exact words_ok 4 l x q
            · exact words_ok 4 h x q
          have hvl : val (words 4 l ++ words 4 h) = Lb.ab z := by
            rw [val_append, words_val 4 l IL.out.a (by have := IL.out.b; simpa [pw] using this), words_val 4 h IH.out.a (by have := IH.out.b; simpa [pw] using this), words_len, HM.out]
            simp [pw]; omega
          have km := KM p c _ wr (by rw [← hv]; exact LM) ho (by omega) hvl
          rw [← hv] at km
          have KK := hide km
          have RR := hide (RB.out.later F.out.below (by omega))
          have BB := hide (BW.trans (F.out.below.mono BW.size))
          have lt2 := RR.out.lt
          clear LM hn LL hv ho hvl km KM AT F BW RB
          go_wp2_with fail
          refine KK.out.mono ?_
          rintro e w1 ⟨s', p', c', l', rfl, N', hb⟩
          have R2 := RR.out.later hb (by omega)
          have FF := hide (num_end N' (BB.out.trans (hb.mono BB.out.size)) R2.sh (by omega))
          obtain ⟨r0, r1, g0, g1, _, zz⟩ := R2
          clear N' hb KK
          go_wp2_with fail
          refine bodyPost_ret (by simp [results, Try.results58, go_sem, r0, r1, g0, g1, zz]; try rfl) rfl ?_
          exact FF.out _ _
theorem from_spec (a b : Int) (ja : IsW (a, b)) (w : World) :
    Calls Try.prog 58 #[.agg #[.int .i64 a, .int .u64 b]] w (NumPost w (V a b)) := by
  have ia := ja.a
  have ib := ja.b
  obtain ⟨a1, a2⟩ := ia
  obtain ⟨b1, b2⟩ := ib
  have e1 : IntKind.u64.wrap a = u a := by rw [IntKind.wrap_u64]; rfl
  have iu := isLo_u a
  by_cases n : a < 0
  · have e5 := xor_u64 (u a) iu
    have e3 := xor_u64 b ja.b
    by_cases z : b = 0
    · subst z
      refine from_neg2 a 0 (-(u a) + 18446744073709551616) 0 (V a 0) ⟨?_, ?_⟩ isLo_0 rfl ?_ (by simp [n]) ja (u a) (-(u a) - 1 + 18446744073709551616) rfl (by decide) rfl e1 (by rw [e3]; rfl) (by rw [IntKind.wrap_u64]; unfold u; omega) e5 w
      all_goals (unfold u; (try unfold Lb.ab V); (try (rw [if_pos (by omega)])); omega)
    · refine from_neg1 a b (-(u a) - 1 + 18446744073709551616) (-b + 18446744073709551616) (V a b) ⟨?_, ?_⟩ ⟨by omega, by omega⟩ rfl ?_ (by simp [n]) ja (u a) (-b - 1 + 18446744073709551616) e1 e3 (by rw [IntKind.wrap_u64]; omega) (by simp; omega) e5 w
      all_goals (unfold u; (try unfold Lb.ab V); (try (rw [if_pos (by omega)])); omega)
  · refine from_pos a b (u a) b (V a b) iu ja.b rfl ?_ (by simp [n]) ja e1 rfl w
    unfold Lb.ab V u; rw [if_neg (by omega)]; omega
end Go.Proofs.Ytebiddmadmmfpaa
/- The reference of layer 1: word, fits. -/
namespace Go.Proofs.Ytebiddmadmmfpaa
set_option linter.unusedVariables false
open Go.RowKit W Lb
theorem or_add (v x : Int) (k : Nat) (hk : k < 4) (a : 0 ≤ v) (b : v < pw k) (c : 0 ≤ x) (d : x < 65536) : bits .or .u64 v (x * 2 ^ (16 * k)) = v + pw k * x := by
  have e : (2 : Int) ^ (16 * k) = pw k := p2_pw' k
  have ub : pw k ≤ 281474976710656 := by have := pw_mono (show k ≤ 3 by omega); simpa [pw] using this
  have pp := pw_pos k
  have m1 : pw k * x ≤ pw k * 65535 := Int.mul_le_mul_of_nonneg_left (by omega) (by omega)
  have m0 : 0 ≤ pw k * x := Int.mul_nonneg (by omega) c
  rw [e, Int.mul_comm x]
  rw [u64_or v (pw k * x) a (by omega) m0 (by omega)]
  obtain ⟨n, rfl⟩ := Int.eq_ofNat_of_zero_le a
  obtain ⟨y, rfl⟩ := Int.eq_ofNat_of_zero_le c
  have ek : pw k = ((2 ^ (16 * k) : Nat) : Int) := by rw [← e]; simp
  rw [ek] at b ⊢
  have e2 : ((2 ^ (16 * k) : Nat) : Int) * (y : Int) = ((2 ^ (16 * k) * y : Nat) : Int) := by simp
  rw [e2]
  show ((n ||| 2 ^ (16 * k) * y : Nat) : Int) = _
  have h := Nat.two_pow_add_eq_or_of_lt (i := 16 * k) (b := n) (by omega) y
  rw [Nat.or_comm, ← h]
  simp; omega
theorem drop_at (l : List Int) (f k : Nat) : (l.drop f).getD k 0 = l.getD (f + k) 0 := by simp [List.getD_eq_getElem?_getD]
/-- Four limbs from place f on. -/
def wordV (l : List Int) (f k : Nat) : Int := val ((l.drop f).take k)
theorem wordV_succ (l : List Int) (f k : Nat) : wordV l f (k + 1) = wordV l f k + pw k * l.getD (f + k) 0 := by unfold wordV; rw [val_take, drop_at]
theorem wordV_lt {l : List Int} (o : Ok l) (f k : Nat) : 0 ≤ wordV l f k ∧ wordV l f k < pw k := by
  have h : Ok ((l.drop f).take k) := fun x hx => o x (List.mem_of_mem_drop (List.mem_of_mem_take hx))
  refine ⟨val_nonneg h, val_lt' h (by simp; omega)⟩
set_option maxHeartbeats 2000000 in
theorem word_some (b o n cap f : Nat) (l : List Int) (w : World) (hl : l.length = n) (hn : n ≤ 1000) (hf : f ≤ 4) (ok : Ok l) (hh : ∀ k, k < n → w.cell? ⟨b, o + k, none⟩ = some (.int .u32 (l.getD k 0))) :
    Same 61 #[.slice (some ⟨b, o, none⟩) n cap, .int .i64 f] w (.int .u64 (wordV l f 4)) := by
  have HH := hide hh
  have OK := hide ok
  have HL := hide hl
  clear hh ok hl
  go_enter Try.func61, Try.ntmps61
  go_wp2
  go_loop [5, 6] (fun v i => ∃ k : Nat, k ≤ 4 ∧ i = .int .i64 k ∧ v = .int .u64 (wordV l f k)) (fun _ i => 4 - (intOf i).toNat)
  case atStart => exact ⟨0, by omega, rfl, rfl⟩
  case round =>
    obtain ⟨k, hk, rfl, rfl⟩ := hrel
    by_cases h4 : k < 4
    · obtain ⟨v0, v1⟩ := wordV_lt OK.out f k
      obtain ⟨x0, x1⟩ := ok_at OK.out (f + k)
      by_cases hi : f + k < n
      · have hc := HH.out (f + k) hi
        have ho := or_add (wordV l f k) (l.getD (f + k) 0) k h4 v0 v1 x0 x1
        have ST := hide (wordV_succ l f k)
        rw [← ST.out] at ho
        have kb : 16 * (k : Int) < 64 := by omega
        have kn : 16 * k < 64 := by omega
        have xb : 0 ≤ l.getD (f + k) 0 * 2 ^ (16 * k) ∧ l.getD (f + k) 0 * 2 ^ (16 * k) < 18446744073709551616 := by
          have e : (2 : Int) ^ (16 * k) = pw k := p2_pw' k
          have ub : pw k ≤ 281474976710656 := by have := pw_mono (show k ≤ 3 by omega); simpa [pw] using this
          have pp := pw_pos k
          rw [e]
          have m1 : l.getD (f + k) 0 * pw k ≤ 65535 * pw k := Int.mul_le_mul_of_nonneg_right (by omega) (by omega)
          exact ⟨Int.mul_nonneg x0 (by omega), by omega⟩
        have wr : IntKind.u64.wrap (l.getD (f + k) 0 * 2 ^ (16 * k)) = l.getD (f + k) 0 * 2 ^ (16 * k) := by rw [IntKind.wrap_u64]; exact Int.emod_eq_of_lt xb.1 xb.2
        obtain ⟨y, hy⟩ : ∃ y, y = l.getD (f + k) 0 := ⟨_, rfl⟩
        obtain ⟨v, hv⟩ : ∃ y, y = wordV l f k := ⟨_, rfl⟩
        obtain ⟨v', hv'⟩ : ∃ y, y = wordV l f (k + 1) := ⟨_, rfl⟩
        rw [← hy] at hc ho x0 x1 wr
        rw [← hv, ← hv'] at ho
        rw [← hv]
        have HV := hide hv'
        clear ST hy hv hv' v0 v1 xb
        go_wp2
        go_round
        case rel => exact ⟨k + 1, by omega, by go_num, by rw [HV.out]⟩
        case measure => simp [intOf]; omega
      · have ST : Hid (wordV l f (k + 1) = wordV l f k) := by show _ = _; rw [wordV_succ, at_out (by rw [HL.out]; omega)]; simp
        clear v0 v1 x0 x1
        go_wp2
        go_round
        case rel => exact ⟨k + 1, by omega, by go_num, by rw [ST.out]⟩
        case measure => simp [intOf]; omega
    · obtain rfl : k = 4 := by omega
      go_wp2
      go_returns
      exact ⟨rfl, rfl⟩
set_option maxHeartbeats 2000000 in
theorem word_none (p : Option Addr) (cap f : Nat) (w : World) (hf : f ≤ 4) :
    Same 61 #[.slice p 0 cap, .int .i64 f] w (.int .u64 0) := by
  go_enter Try.func61, Try.ntmps61
  go_wp2
  go_loop [5, 6] (fun v i => v = .int .u64 0 ∧ ∃ k : Nat, k ≤ 4 ∧ i = .int .i64 k) (fun _ i => 4 - (intOf i).toNat)
  case atStart => exact ⟨rfl, 0, by omega, rfl⟩
  case round =>
    obtain ⟨rfl, k, hk, rfl⟩ := hrel
    by_cases h4 : k < 4
    · have hi : ¬ (f : Int) + k < 0 := by omega
      go_wp2
      go_round
      case rel => exact ⟨rfl, k + 1, by omega, by go_num⟩
      case measure => simp [intOf]; omega
    · obtain rfl : k = 4 := by omega
      go_wp2
      go_returns
      exact ⟨rfl, rfl⟩
theorem word_spec (p : Option Addr) (cap f : Nat) (l : List Int) (w : World) (H : Limbs w (.slice p l.length cap) l) (hn : l.length ≤ 1000) (hf : f ≤ 4) (ok : Ok l) :
    Same 61 #[.slice p l.length cap, .int .i64 f] w (.int .u64 (wordV l f 4)) := by
  rcases H with ⟨q, c, rfl, e⟩ | ⟨b, o, c, e, hc, hb, hs, hh⟩
  · have : wordV [] f 4 = 0 := by unfold wordV; simp [val]
    rw [this]; exact word_none p cap f w hf
  · simp only [Value.slice.injEq] at e
    obtain ⟨rfl, _, rfl⟩ := e
    exact word_some b o _ cap f l w rfl hn hf ok hh
theorem fits_yes (h l : Int) (w : World) (x : Int) (hx : IntKind.i64.wrap h = x) :
    Calls Try.prog 62 #[.int .u64 h, .int .u64 l, .bool true] w fun e w' => e = .returned (.tuple #[.agg #[.int .i64 x, .int .u64 l], .bool true]) ∧ Below w.heap.size w w' := by
  go_enter Try.func62, Try.ntmps62
  go_wp2
  go_returns
  exact ⟨rfl, by go_grown⟩
theorem fits_no (h l : Int) (w : World) :
    Calls Try.prog 62 #[.int .u64 h, .int .u64 l, .bool false] w fun e w' => e = .returned (.tuple #[.agg #[.int .i64 0, .int .u64 0], .bool false]) ∧ Below w.heap.size w w' := by
  go_enter Try.func62, Try.ntmps62
  go_wp2
  go_returns
  exact ⟨rfl, by go_grown⟩
end Go.Proofs.Ytebiddmadmmfpaa
/- The reference of layer 1: AddN. -/
namespace Go.Proofs.Ytebiddmadmmfpaa
set_option linter.unusedVariables false
open Go.RowKit W Lb
set_option maxHeartbeats 4000000 in
theorem addN_same (s s' : Bool) (pa pb : Option Addr) (ca cb : Nat) (la lb : List Int) (z m : Int) (w : World) (ss : s = s')
    (KA : ∀ w', Keeps w.heap.size w w' → Calls Try.prog 67 #[.slice pa la.length ca, .slice pb lb.length cb] w' (MagPost w' m))
    (KM : ∀ pv cv lv w', Limbs w' (.slice pv lv.length cv) lv → Mag lv m → Calls Try.prog 56 #[.bool s, .slice pv lv.length cv] w' (NumPost w' z))
    : Calls Try.prog 46 #[.agg #[.bool s, .slice pa la.length ca], .agg #[.bool s', .slice pb lb.length cb]] w (NumPost w z) := by
  have KA0 := hide KA
  clear KA
  subst ss
  go_enter Try.func46, Try.ntmps46
  go_wp2_with fail
  refine abs_wp (fun W => W.cell? ⟨w.heap.size, 0, none⟩ = some (.bool s) ∧ W.cell? ⟨w.heap.size, 1, none⟩ = some (.slice pa la.length ca) ∧ W.cell? ⟨w.heap.size + 1, 0, none⟩ = some (.bool s) ∧ W.cell? ⟨w.heap.size + 1, 1, none⟩ = some (.slice pb lb.length cb) ∧ W.cell? ⟨w.heap.size + 1 + 1, 0, none⟩ = some (.bool false) ∧ W.cell? ⟨w.heap.size + 1 + 1, 1, none⟩ = some (.slice none 0 0) ∧ W.frozen? ⟨w.heap.size + 1 + 1, 0, none⟩ = false ∧ W.frozen? ⟨w.heap.size + 1 + 1, 1, none⟩ = false ∧ W.shape? (w.heap.size + 1 + 1) = some (64, 2) ∧ w.heap.size + 1 + 1 < W.heap.size ∧ Below w.heap.size w W) ?_ ?_
  · refine ⟨?_, ?_, ?_, ?_, ?_, ?_, ?_, ?_, ?_, ?_, ?_⟩
    all_goals first | (exact shape_top _ _ _ _ (by simp)) | (go_grown; done) | (simp [go_sem]; done) | (simp; done) | (simp; omega)
  rintro W ⟨c00, c01, c10, c11, r0, r1, g0, g1, hr, zW, BW⟩
  have KA : ∀ w', Keeps W.heap.size W w' → Calls Try.prog 67 #[.slice pa la.length ca, .slice pb lb.length cb] w' (MagPost w' m) := fun w' K => KA0.out w' ⟨BW.trans (K.below.mono BW.size), Nat.le_refl _⟩
  have K0 := Keeps.start (Nat.le_refl W.heap.size)
  have K1 := K0.drew
  have J0 : Keeps (w.heap.size + 1 + 1) W W := Keeps.start (by omega)
  have J1 := J0.drew
  have z0 : w.heap.size < W.heap.size := by omega
  have z1 : w.heap.size + 1 < W.heap.size := by omega
  have z2 : w.heap.size + 1 + 1 < W.heap.size := by omega
  go_region_held3 (fun w' => w'.cell? ⟨w.heap.size, 0, none⟩ = some (.bool s) ∧ w'.cell? ⟨w.heap.size, 1, none⟩ = some (.slice pa la.length ca) ∧ w'.cell? ⟨w.heap.size + 1, 0, none⟩ = some (.bool s) ∧ w'.cell? ⟨w.heap.size + 1, 1, none⟩ = some (.slice pb lb.length cb) ∧ Keeps (w.heap.size + 1 + 1) W w') ((refine (fun K => ⟨Keeps.cell K c00 (by omega), Keeps.cell K c01 (by omega), Keeps.cell K c10 (by omega), Keeps.cell K c11 (by omega), K⟩) (?_ : Keeps (w.heap.size + 1 + 1) W _); (repeat (first | assumption | refine Keeps.alloc ?_ _ | refine Keeps.drew ?_ | refine Keeps.setCell ?_ (by first | (simp; done) | omega | (simp; omega)) _))))
    (first
    | (go_at_call 67; refine (KA _ (by repeat (first | assumption | refine Keeps.alloc ?_ _ | refine Keeps.drew ?_ | refine Keeps.setCell ?_ (by first | (simp; done) | omega | (simp; omega)) _))).mono ?_; rintro e v20 ⟨va, lv, rfl, LV, MV, hb20, fr20⟩; obtain ⟨pv, cv, rfl⟩ := LV.form; have K20 := Keeps.call (B := W.heap.size) (W := W) (by repeat (first | assumption | refine Keeps.alloc ?_ _ | refine Keeps.drew ?_ | refine Keeps.setCell ?_ (by first | (simp; done) | omega | (simp; omega)) _)) hb20; obtain ⟨bc20, bf20, bs20⟩ := bcell hb20; (try simp only [World.size_alloc, World.size_drew] at bc20 bf20 bs20); have J20 : Keeps (w.heap.size + 1 + 1) W v20 := ⟨K20.below.mono (by omega), by omega⟩; (try (have ov200 : W.heap.size < v20.heap.size := by omega)); (try (have ov201 : W.heap.size ≤ v20.heap.size := by omega)); (try (have ov202 : ¬ W.heap.size = v20.heap.size := by omega)); (try (have ov203 : ¬ v20.heap.size = W.heap.size := by omega)); (try (have ov204 : W.heap.size + 1 < v20.heap.size := by omega)); (try (have ov205 : W.heap.size + 1 ≤ v20.heap.size := by omega)); (try (have ov206 : ¬ W.heap.size + 1 = v20.heap.size := by omega)); (try (have ov207 : ¬ v20.heap.size = W.heap.size + 1 := by omega)))
    | (go_at_call 56; refine (KM _ _ _ _ (by first | exact LV | exact LV.later (by go_grown)) MV).mono ?_; rintro e v21 ⟨s2, p2, c2, l2, rfl, N2, hb21⟩; have K21 := Keeps.call (B := W.heap.size) (W := W) (by repeat (first | assumption | refine Keeps.alloc ?_ _ | refine Keeps.drew ?_ | refine Keeps.setCell ?_ (by first | (simp; done) | omega | (simp; omega)) _)) hb21; have J21 : Keeps (w.heap.size + 1 + 1) W v21 := ⟨K21.below.mono (by omega), by omega⟩; have rr0 := K21.cell r0 z2; have rr1 := K21.cell r1 z2; have gg0 := K21.free g0 z2; have gg1 := K21.free g1 z2; have zz : w.heap.size + 1 + 1 < v21.heap.size := (by have := K21.size; omega); clear bc20 bf20 bs20))
  all_goals
    have F := hide (num_end N2 (BW.trans (K21.below.mono BW.size)) ((shape_later K21.below z2).trans hr) (by omega))
    clear K20 K21 N2 KA KM
    go_wp2_with fail
    refine bodyPost_ret (by simp [results, Try.results46, go_sem, rr0, rr1, gg0, gg1, zz]; try rfl) rfl ?_
    exact F.out _ _
set_option maxHeartbeats 4000000 in
theorem addN_ge (s s' : Bool) (pa pb : Option Addr) (ca cb : Nat) (la lb : List Int) (z m : Int) (w : World) (x y : Int) (ss : (s == s') = false) (h : 0 ≤ cmpI x y)
    (KC : ∀ w', Below w.heap.size w w' → Calls Try.prog 68 #[.slice pa la.length ca, .slice pb lb.length cb] w' (CmpPost w' x y))
    (KA : ∀ w', Keeps w.heap.size w w' → Calls Try.prog 69 #[.slice pa la.length ca, .slice pb lb.length cb] w' (MagPost w' m))
    (KM : ∀ pv cv lv w', Limbs w' (.slice pv lv.length cv) lv → Mag lv m → Calls Try.prog 56 #[.bool s, .slice pv lv.length cv] w' (NumPost w' z))
    : Calls Try.prog 46 #[.agg #[.bool s, .slice pa la.length ca], .agg #[.bool s', .slice pb lb.length cb]] w (NumPost w z) := by
  have KA0 := hide KA
  clear KA
  go_enter Try.func46, Try.ntmps46
  go_wp2_with fail
  refine (KC _ (by go_grown)).mono ?_
  rintro e w1 ⟨rfl, hb⟩
  obtain ⟨bc, bf, bs⟩ := bcell hb
  simp only [World.size_alloc] at bc bf bs
  have B : Below w.heap.size w w1 := Below.trans (by go_grown) (hb.mono (by first | (simp; done) | omega | (simp; omega)))
  have hr1 : w1.shape? (w.heap.size + 1 + 1) = some (64, 2) := (shape_later hb (by simp)).trans (shape_top _ _ _ _ (by simp))
  have zz1 : w.heap.size + 1 + 1 < w1.heap.size := by omega
  generalize cmpI x y = d at *
  clear KC hb
  go_wp2_with fail
  refine abs_wp (fun W => W.cell? ⟨w.heap.size, 0, none⟩ = some (.bool s) ∧ W.cell? ⟨w.heap.size, 1, none⟩ = some (.slice pa la.length ca) ∧ W.cell? ⟨w.heap.size + 1, 0, none⟩ = some (.bool s') ∧ W.cell? ⟨w.heap.size + 1, 1, none⟩ = some (.slice pb lb.length cb) ∧ W.cell? ⟨w.heap.size + 1 + 1, 0, none⟩ = some (.bool false) ∧ W.cell? ⟨w.heap.size + 1 + 1, 1, none⟩ = some (.slice none 0 0) ∧ W.frozen? ⟨w.heap.size + 1 + 1, 0, none⟩ = false ∧ W.frozen? ⟨w.heap.size + 1 + 1, 1, none⟩ = false ∧ W.shape? (w.heap.size + 1 + 1) = some (64, 2) ∧ w.heap.size + 1 + 1 < W.heap.size ∧ Below w.heap.size w W) ?_ ?_
  · refine ⟨?_, ?_, ?_, ?_, ?_, ?_, ?_, ?_, ?_, ?_, ?_⟩
    all_goals first | (exact hr1) | (exact B) | (exact zz1) | (simp [go_sem, bc, bf]; done) | (go_grown; done) | (simp [go_sem]; done) | (simp; done) | (simp; omega)
  rintro W ⟨c00, c01, c10, c11, r0, r1, g0, g1, hr, zW, BW⟩
  have KA : ∀ w', Keeps W.heap.size W w' → Calls Try.prog 69 #[.slice pa la.length ca, .slice pb lb.length cb] w' (MagPost w' m) := fun w' K => KA0.out w' ⟨BW.trans (K.below.mono BW.size), Nat.le_refl _⟩
  have K0 := Keeps.start (Nat.le_refl W.heap.size)
  have K1 := K0.drew
  have J0 : Keeps (w.heap.size + 1 + 1) W W := Keeps.start (by omega)
  have J1 := J0.drew
  have z0 : w.heap.size < W.heap.size := by omega
  have z1 : w.heap.size + 1 < W.heap.size := by omega
  have z2 : w.heap.size + 1 + 1 < W.heap.size := by omega
  go_region_held3 (fun w' => w'.cell? ⟨w.heap.size, 0, none⟩ = some (.bool s) ∧ w'.cell? ⟨w.heap.size, 1, none⟩ = some (.slice pa la.length ca) ∧ w'.cell? ⟨w.heap.size + 1, 0, none⟩ = some (.bool s') ∧ w'.cell? ⟨w.heap.size + 1, 1, none⟩ = some (.slice pb lb.length cb) ∧ Keeps (w.heap.size + 1 + 1) W w') ((refine (fun K => ⟨Keeps.cell K c00 (by omega), Keeps.cell K c01 (by omega), Keeps.cell K c10 (by omega), Keeps.cell K c11 (by omega), K⟩) (?_ : Keeps (w.heap.size + 1 + 1) W _); (repeat (first | assumption | refine Keeps.alloc ?_ _ | refine Keeps.drew ?_ | refine Keeps.setCell ?_ (by first | (simp; done) | omega | (simp; omega)) _))))
    (first
    | (go_at_call 69; refine (KA _ (by repeat (first | assumption | refine Keeps.alloc ?_ _ | refine Keeps.drew ?_ | refine Keeps.setCell ?_ (by first | (simp; done) | omega | (simp; omega)) _))).mono ?_; rintro e v20 ⟨va, lv, rfl, LV, MV, hb20, fr20⟩; obtain ⟨pv, cv, rfl⟩ := LV.form; have K20 := Keeps.call (B := W.heap.size) (W := W) (by repeat (first | assumption | refine Keeps.alloc ?_ _ | refine Keeps.drew ?_ | refine Keeps.setCell ?_ (by first | (simp; done) | omega | (simp; omega)) _)) hb20; obtain ⟨bc20, bf20, bs20⟩ := bcell hb20; (try simp only [World.size_alloc, World.size_drew] at bc20 bf20 bs20); have J20 : Keeps (w.heap.size + 1 + 1) W v20 := ⟨K20.below.mono (by omega), by omega⟩; (try (have ov200 : W.heap.size < v20.heap.size := by omega)); (try (have ov201 : W.heap.size ≤ v20.heap.size := by omega)); (try (have ov202 : ¬ W.heap.size = v20.heap.size := by omega)); (try (have ov203 : ¬ v20.heap.size = W.heap.size := by omega)); (try (have ov204 : W.heap.size + 1 < v20.heap.size := by omega)); (try (have ov205 : W.heap.size + 1 ≤ v20.heap.size := by omega)); (try (have ov206 : ¬ W.heap.size + 1 = v20.heap.size := by omega)); (try (have ov207 : ¬ v20.heap.size = W.heap.size + 1 := by omega)))
    | (go_at_call 56; refine (KM _ _ _ _ (by first | exact LV | exact LV.later (by go_grown)) MV).mono ?_; rintro e v21 ⟨s2, p2, c2, l2, rfl, N2, hb21⟩; have K21 := Keeps.call (B := W.heap.size) (W := W) (by repeat (first | assumption | refine Keeps.alloc ?_ _ | refine Keeps.drew ?_ | refine Keeps.setCell ?_ (by first | (simp; done) | omega | (simp; omega)) _)) hb21; have J21 : Keeps (w.heap.size + 1 + 1) W v21 := ⟨K21.below.mono (by omega), by omega⟩; have rr0 := K21.cell r0 z2; have rr1 := K21.cell r1 z2; have gg0 := K21.free g0 z2; have gg1 := K21.free g1 z2; have zz : w.heap.size + 1 + 1 < v21.heap.size := (by have := K21.size; omega); clear bc20 bf20 bs20))
  all_goals
    have F := hide (num_end N2 (BW.trans (K21.below.mono BW.size)) ((shape_later K21.below z2).trans hr) (by omega))
    clear K20 K21 N2 KA KM
    go_wp2_with fail
    refine bodyPost_ret (by simp [results, Try.results46, go_sem, rr0, rr1, gg0, gg1, zz]; try rfl) rfl ?_
    exact F.out _ _
set_option maxHeartbeats 4000000 in
theorem addN_lt (s s' : Bool) (pa pb : Option Addr) (ca cb : Nat) (la lb : List Int) (z m : Int) (w : World) (x y : Int) (ss : (s == s') = false) (h : ¬ 0 ≤ cmpI x y)
    (KC : ∀ w', Below w.heap.size w w' → Calls Try.prog 68 #[.slice pa la.length ca, .slice pb lb.length cb] w' (CmpPost w' x y))
    (KA : ∀ w', Keeps w.heap.size w w' → Calls Try.prog 69 #[.slice pb lb.length cb, .slice pa la.length ca] w' (MagPost w' m))
    (KM : ∀ pv cv lv w', Limbs w' (.slice pv lv.length cv) lv → Mag lv m → Calls Try.prog 56 #[.bool s', .slice pv lv.length cv] w' (NumPost w' z))
    : Calls Try.prog 46 #[.agg #[.bool s, .slice pa la.length ca], .agg #[.bool s', .slice pb lb.length cb]] w (NumPost w z) := by
  have KA0 := hide KA
  clear KA
  go_enter Try.func46, Try.ntmps46
  go_wp2_with fail
  refine (KC _ (by go_grown)).mono ?_
  rintro e w1 ⟨rfl, hb⟩
  obtain ⟨bc, bf, bs⟩ := bcell hb
  simp only [World.size_alloc] at bc bf bs
  have B : Below w.heap.size w w1 := Below.trans (by go_grown) (hb.mono (by first | (simp; done) | omega | (simp; omega)))
  have hr1 : w1.shape? (w.heap.size + 1 + 1) = some (64, 2) := (shape_later hb (by simp)).trans (shape_top _ _ _ _ (by simp))
  have zz1 : w.heap.size + 1 + 1 < w1.heap.size := by omega
  generalize cmpI x y = d at *
  clear KC hb
  go_wp2_with fail
  refine abs_wp (fun W => W.cell? ⟨w.heap.size, 0, none⟩ = some (.bool s) ∧ W.cell? ⟨w.heap.size, 1, none⟩ = some (.slice pa la.length ca) ∧ W.cell? ⟨w.heap.size + 1, 0, none⟩ = some (.bool s') ∧ W.cell? ⟨w.heap.size + 1, 1, none⟩ = some (.slice pb lb.length cb) ∧ W.cell? ⟨w.heap.size + 1 + 1, 0, none⟩ = some (.bool false) ∧ W.cell? ⟨w.heap.size + 1 + 1, 1, none⟩ = some (.slice none 0 0) ∧ W.frozen? ⟨w.heap.size + 1 + 1, 0, none⟩ = false ∧ W.frozen? ⟨w.heap.size + 1 + 1, 1, none⟩ = false ∧ W.shape? (w.heap.size + 1 + 1) = some (64, 2) ∧ w.heap.size + 1 + 1 < W.heap.size ∧ Below w.heap.size w W) ?_ ?_
  · refine ⟨?_, ?_, ?_, ?_, ?_, ?_, ?_, ?_, ?_, ?_, ?_⟩
    all_goals first | (exact hr1) | (exact B) | (exact zz1) | (simp [go_sem, bc, bf]; done) | (go_grown; done) | (simp [go_sem]; done) | (simp; done) | (simp; omega)
  rintro W ⟨c00, c01, c10, c11, r0, r1, g0, g1, hr, zW, BW⟩
  have KA : ∀ w', Keeps W.heap.size W w' → Calls Try.prog 69 #[.slice pb lb.length cb, .slice pa la.length ca] w' (MagPost w' m) := fun w' K => KA0.out w' ⟨BW.trans (K.below.mono BW.size), Nat.le_refl _⟩
  have K0 := Keeps.start (Nat.le_refl W.heap.size)
  have K1 := K0.drew
  have J0 : Keeps (w.heap.size + 1 + 1) W W := Keeps.start (by omega)
  have J1 := J0.drew
  have z0 : w.heap.size < W.heap.size := by omega
  have z1 : w.heap.size + 1 < W.heap.size := by omega
  have z2 : w.heap.size + 1 + 1 < W.heap.size := by omega
  go_region_held3 (fun w' => w'.cell? ⟨w.heap.size, 0, none⟩ = some (.bool s) ∧ w'.cell? ⟨w.heap.size, 1, none⟩ = some (.slice pa la.length ca) ∧ w'.cell? ⟨w.heap.size + 1, 0, none⟩ = some (.bool s') ∧ w'.cell? ⟨w.heap.size + 1, 1, none⟩ = some (.slice pb lb.length cb) ∧ Keeps (w.heap.size + 1 + 1) W w') ((refine (fun K => ⟨Keeps.cell K c00 (by omega), Keeps.cell K c01 (by omega), Keeps.cell K c10 (by omega), Keeps.cell K c11 (by omega), K⟩) (?_ : Keeps (w.heap.size + 1 + 1) W _); (repeat (first | assumption | refine Keeps.alloc ?_ _ | refine Keeps.drew ?_ | refine Keeps.setCell ?_ (by first | (simp; done) | omega | (simp; omega)) _))))
    (first
    | (go_at_call 69; refine (KA _ (by repeat (first | assumption | refine Keeps.alloc ?_ _ | refine Keeps.drew ?_ | refine Keeps.setCell ?_ (by first | (simp; done) | omega | (simp; omega)) _))).mono ?_; rintro e v20 ⟨va, lv, rfl, LV, MV, hb20, fr20⟩; obtain ⟨pv, cv, rfl⟩ := LV.form; have K20 := Keeps.call (B := W.heap.size) (W := W) (by repeat (first | assumption | refine Keeps.alloc ?_ _ | refine Keeps.drew ?_ | refine Keeps.setCell ?_ (by first | (simp; done) | omega | (simp; omega)) _)) hb20; obtain ⟨bc20, bf20, bs20⟩ := bcell hb20; (try simp only [World.size_alloc, World.size_drew] at bc20 bf20 bs20); have J20 : Keeps (w.heap.size + 1 + 1) W v20 := ⟨K20.below.mono (by omega), by omega⟩; (try (have ov200 : W.heap.size < v20.heap.size := by omega)); (try (have ov201 : W.heap.size ≤ v20.heap.size := by omega)); (try (have ov202 : ¬ W.heap.size = v20.heap.size := by omega)); (try (have ov203 : ¬ v20.heap.size = W.heap.size := by omega)); (try (have ov204 : W.heap.size + 1 < v20.heap.size := by omega)); (try (have ov205 : W.heap.size + 1 ≤ v20.heap.size := by omega)); (try (have ov206 : ¬ W.heap.size + 1 = v20.heap.size := by omega)); (try (have ov207 : ¬ v20.heap.size = W.heap.size + 1 := by omega)))
    | (go_at_call 56; refine (KM _ _ _ _ (by first | exact LV | exact LV.later (by go_grown)) MV).mono ?_; rintro e v21 ⟨s2, p2, c2, l2, rfl, N2, hb21⟩; have K21 := Keeps.call (B := W.heap.size) (W := W) (by repeat (first | assumption | refine Keeps.alloc ?_ _ | refine Keeps.drew ?_ | refine Keeps.setCell ?_ (by first | (simp; done) | omega | (simp; omega)) _)) hb21; have J21 : Keeps (w.heap.size + 1 + 1) W v21 := ⟨K21.below.mono (by omega), by omega⟩; have rr0 := K21.cell r0 z2; have rr1 := K21.cell r1 z2; have gg0 := K21.free g0 z2; have gg1 := K21.free g1 z2; have zz : w.heap.size + 1 + 1 < v21.heap.size := (by have := K21.size; omega); clear bc20 bf20 bs20))
  all_goals
    have F := hide (num_end N2 (BW.trans (K21.below.mono BW.size)) ((shape_later K21.below z2).trans hr) (by omega))
    clear K20 K21 N2 KA KM
    go_wp2_with fail
    refine bodyPost_ret (by simp [results, Try.results46, go_sem, rr0, rr1, gg0, gg1, zz]; try rfl) rfl ?_
    exact F.out _ _
end Go.Proofs.Ytebiddmadmmfpaa
/- The reference of layer 1: To, over. -/
namespace Go.Proofs.Ytebiddmadmmfpaa
set_option linter.unusedVariables false
open Go.RowKit W Lb
/-- To's answer. -/
abbrev toRes (z : Int) : Ending := .returned (.tuple #[.agg #[.int .i64 (hi (resV z)), .int .u64 (lo (resV z))], .bool (decide (Fits z))])
theorem to_long (s : Bool) (p : Option Addr) (c n : Nat) (w : World) (h : 8 < n) (hn : n ≤ 1000) :
    Calls Try.prog 33 #[.agg #[.bool s, .slice p n c]] w fun e w' => e = .returned (.tuple #[.agg #[.int .i64 0, .int .u64 0], .bool false]) ∧ Below w.heap.size w w' := by
  go_enter Try.func33, Try.ntmps33
  go_wp2
  go_returns
  exact ⟨rfl, by go_grown⟩
def WordIs (p : Option Addr) (c n : Nat) (w : World) (g : Int → Int) : Prop := ∀ f w', Below w.heap.size w w' → (f = 0 ∨ f = 4) → Same 61 #[.slice p n c, .int .i64 f] w' (.int .u64 (g f))
set_option maxHeartbeats 2000000 in
theorem to_pos (p : Option Addr) (c n : Nat) (g : Int → Int) (h l x1 x0 : Int) (t : Bool) (w : World) (hn : n ≤ 8) (k0 : WordIs p c n w g) (g0 : g 0 = l) (g4 : g 4 = h) (ht : decide (h < 9223372036854775808) = t)
    (kf : ∀ w, Calls Try.prog 62 #[.int .u64 h, .int .u64 l, .bool t] w fun e w' => e = .returned (.tuple #[.agg #[.int .i64 x1, .int .u64 x0], .bool t]) ∧ Below w.heap.size w w') :
    Calls Try.prog 33 #[.agg #[.bool false, .slice p n c]] w fun e w' => e = .returned (.tuple #[.agg #[.int .i64 x1, .int .u64 x0], .bool t]) ∧ Below w.heap.size w w' := by
  go_enter Try.func33, Try.ntmps33
  go_wp2_with fail
  go_quiet ((go_at_call 61; exact still (k0 _ _ (by first | (go_grown; done) | exact below_drewN (by go_grown) _) (by decide))))
  clear k0
  go_wp2_with fail
  refine (kf _).mono ?_
  rintro e w1 ⟨rfl, hb⟩
  obtain ⟨bc, bf, bs⟩ := bcell hb
  simp only [World.size_alloc, World.size_drew, World.heap_drewN] at bc bf bs
  have B : Below w.heap.size w w1 := Below.trans (by first | (go_grown; done) | exact below_drewN (by go_grown) _) (hb.mono (by first | (simp; done) | omega | (simp; omega)))
  have zz : w.heap.size + 1 < w1.heap.size := by omega
  go_wp2_with fail
  refine bodyPost_ret (by simp [results, Try.results33, go_sem, bc, bf, zz]; try rfl) rfl ?_
  exact ⟨rfl, by go_grown⟩
set_option maxHeartbeats 2000000 in
theorem to_neg_a (p : Option Addr) (c n : Nat) (g : Int → Int) (h l : Int) (w : World) (hn : n ≤ 8) (k0 : WordIs p c n w g) (g0 : g 0 = l) (g4 : g 4 = h) (h1 : 9223372036854775808 < h) :
    Calls Try.prog 33 #[.agg #[.bool true, .slice p n c]] w fun e w' => e = .returned (.tuple #[.agg #[.int .i64 0, .int .u64 0], .bool false]) ∧ Below w.heap.size w w' := by
  go_enter Try.func33, Try.ntmps33
  go_wp2_with fail
  go_quiet ((go_at_call 61; exact still (k0 _ _ (by first | (go_grown; done) | exact below_drewN (by go_grown) _) (by decide))))
  clear k0
  go_wp2_with fail
  go_returns
  refine ⟨rfl, ?_⟩
  repeat (first | exact Below.refl _ _ | refine Below.setCell ?_ (by first | (simp; done) | omega | (simp; omega)) _ | refine below_drewN ?_ _ | refine Below.alloc ?_ (by first | (simp; done) | omega | (simp; omega)) _)
set_option maxHeartbeats 2000000 in
theorem to_neg_b (p : Option Addr) (c n : Nat) (g : Int → Int) (l : Int) (w : World) (hn : n ≤ 8) (k0 : WordIs p c n w g) (g0 : g 0 = l) (g4 : g 4 = 9223372036854775808) (h2 : 0 < l) :
    Calls Try.prog 33 #[.agg #[.bool true, .slice p n c]] w fun e w' => e = .returned (.tuple #[.agg #[.int .i64 0, .int .u64 0], .bool false]) ∧ Below w.heap.size w w' := by
  go_enter Try.func33, Try.ntmps33
  go_wp2_with fail
  go_quiet ((go_at_call 61; exact still (k0 _ _ (by first | (go_grown; done) | exact below_drewN (by go_grown) _) (by decide))))
  clear k0
  go_wp2_with fail
  go_returns
  refine ⟨rfl, ?_⟩
  repeat (first | exact Below.refl _ _ | refine Below.setCell ?_ (by first | (simp; done) | omega | (simp; omega)) _ | refine below_drewN ?_ _ | refine Below.alloc ?_ (by first | (simp; done) | omega | (simp; omega)) _)
set_option maxHeartbeats 2000000 in
theorem to_neg_c (p : Option Addr) (c n : Nat) (g : Int → Int) (h q r x : Int) (w : World) (hn : n ≤ 8) (k0 : WordIs p c n w g) (g0 : g 0 = 0) (g4 : g 4 = h) (h1 : ¬ 9223372036854775808 < h) (h2 : (h == 9223372036854775808) = true) (e3 : bits .xor .u64 IntKind.u64.max 0 = 18446744073709551615) (e6 : IntKind.u64.wrap 18446744073709551616 = 0) (e5 : bits .xor .u64 IntKind.u64.max h = q) (e4 : IntKind.u64.wrap (q + 1) = r) (e7 : IntKind.i64.wrap r = x) :
    Calls Try.prog 33 #[.agg #[.bool true, .slice p n c]] w fun e w' => e = .returned (.tuple #[.agg #[.int .i64 x, .int .u64 0], .bool true]) ∧ Below w.heap.size w w' := by
  have e3' : bits .xor .u64 (if IntKind.u64.signed = true then -1 else IntKind.u64.max) 0 = 18446744073709551615 := e3
  have e5' : bits .xor .u64 (if IntKind.u64.signed = true then -1 else IntKind.u64.max) h = q := e5
  go_enter Try.func33, Try.ntmps33
  go_wp2_with fail
  go_quiet ((go_at_call 61; exact still (k0 _ _ (by first | (go_grown; done) | exact below_drewN (by go_grown) _) (by decide))))
  clear k0
  go_wp2_with fail
  go_returns
  refine ⟨rfl, ?_⟩
  repeat (first | exact Below.refl _ _ | refine Below.setCell ?_ (by first | (simp; done) | omega | (simp; omega)) _ | refine below_drewN ?_ _ | refine Below.alloc ?_ (by first | (simp; done) | omega | (simp; omega)) _)
set_option maxHeartbeats 2000000 in
theorem to_neg_d (p : Option Addr) (c n : Nat) (g : Int → Int) (h q r x : Int) (w : World) (hn : n ≤ 8) (k0 : WordIs p c n w g) (g0 : g 0 = 0) (g4 : g 4 = h) (h1 : ¬ 9223372036854775808 < h) (h2 : (h == 9223372036854775808) = false) (e3 : bits .xor .u64 IntKind.u64.max 0 = 18446744073709551615) (e6 : IntKind.u64.wrap 18446744073709551616 = 0) (e5 : bits .xor .u64 IntKind.u64.max h = q) (e4 : IntKind.u64.wrap (q + 1) = r) (e7 : IntKind.i64.wrap r = x) :
    Calls Try.prog 33 #[.agg #[.bool true, .slice p n c]] w fun e w' => e = .returned (.tuple #[.agg #[.int .i64 x, .int .u64 0], .bool true]) ∧ Below w.heap.size w w' := by
  have e3' : bits .xor .u64 (if IntKind.u64.signed = true then -1 else IntKind.u64.max) 0 = 18446744073709551615 := e3
  have e5' : bits .xor .u64 (if IntKind.u64.signed = true then -1 else IntKind.u64.max) h = q := e5
  go_enter Try.func33, Try.ntmps33
  go_wp2_with fail
  go_quiet ((go_at_call 61; exact still (k0 _ _ (by first | (go_grown; done) | exact below_drewN (by go_grown) _) (by decide))))
  clear k0
  go_wp2_with fail
  go_returns
  refine ⟨rfl, ?_⟩
  repeat (first | exact Below.refl _ _ | refine Below.setCell ?_ (by first | (simp; done) | omega | (simp; omega)) _ | refine below_drewN ?_ _ | refine Below.alloc ?_ (by first | (simp; done) | omega | (simp; omega)) _)
set_option maxHeartbeats 2000000 in
theorem to_neg_e (p : Option Addr) (c n : Nat) (g : Int → Int) (h l q p' l' x : Int) (w : World) (hn : n ≤ 8) (k0 : WordIs p c n w g) (g0 : g 0 = l) (g4 : g 4 = h) (h1 : ¬ 9223372036854775808 < h) (h2 : (h == 9223372036854775808) = false) (e3 : bits .xor .u64 IntKind.u64.max l = p') (e6 : IntKind.u64.wrap (p' + 1) = l') (hl : (l' == 0) = false) (e5 : bits .xor .u64 IntKind.u64.max h = q) (e7 : IntKind.i64.wrap q = x) :
    Calls Try.prog 33 #[.agg #[.bool true, .slice p n c]] w fun e w' => e = .returned (.tuple #[.agg #[.int .i64 x, .int .u64 l'], .bool true]) ∧ Below w.heap.size w w' := by
  have e3' : bits .xor .u64 (if IntKind.u64.signed = true then -1 else IntKind.u64.max) l = p' := e3
  have e5' : bits .xor .u64 (if IntKind.u64.signed = true then -1 else IntKind.u64.max) h = q := e5
  go_enter Try.func33, Try.ntmps33
  go_wp2_with fail
  go_quiet ((go_at_call 61; exact still (k0 _ _ (by first | (go_grown; done) | exact below_drewN (by go_grown) _) (by decide))))
  clear k0
  go_wp2_with fail
  go_returns
  refine ⟨rfl, ?_⟩
  repeat (first | exact Below.refl _ _ | refine Below.setCell ?_ (by first | (simp; done) | omega | (simp; omega)) _ | refine below_drewN ?_ _ | refine Below.alloc ?_ (by first | (simp; done) | omega | (simp; omega)) _)
theorem to_res {z x1 x0 : Int} {t : Bool} {w w' : World} {e : Ending} (h : e = .returned (.tuple #[.agg #[.int .i64 x1, .int .u64 x0], .bool t]) ∧ Below w.heap.size w w') (f : decide (Fits z) = t) (h1 : x1 = hi (resV z)) (h0 : x0 = lo (resV z)) : e = toRes z ∧ Below w.heap.size w w' := by
  obtain ⟨rfl, hb⟩ := h
  subst f h1 h0
  exact ⟨rfl, hb⟩
theorem not_over {z x1 x0 : Int} {w w' : World} {e : Ending} (h : e = .returned (.tuple #[.agg #[.int .i64 0, .int .u64 0], .bool false]) ∧ Below w.heap.size w w') (f : ¬ Fits z) : e = toRes z ∧ Below w.heap.size w w' :=
  to_res h (decide_eq_false f) (by rw [resV_not f]; rfl) (by rw [resV_not f]; rfl)
theorem wordV_split {l : List Int} (h : l.length ≤ 8) : val l = wordV l 0 4 + 18446744073709551616 * wordV l 4 4 := by
  have e := val_append (l.take 4) (l.drop 4)
  rw [List.take_append_drop] at e
  unfold wordV
  rw [List.drop_zero, List.take_of_length_le (show (l.drop 4).length ≤ 4 by simp; omega), e]
  by_cases q : 4 ≤ l.length
  · rw [List.length_take_of_le q]; simp [pw]
  · rw [List.drop_eq_nil_of_le (by omega)]; simp [val]
theorem to_spec (s : Bool) (p : Option Addr) (c : Nat) (l : List Int) (z : Int) (w : World) (H : IsNum w s p c l z) (hl : l.length ≤ 1000) :
    Calls Try.prog 33 #[.agg #[.bool s, .slice p l.length c]] w fun e w' => e = toRes z ∧ Below w.heap.size w w' := by
  have ok := H.mag.ok
  have vz := H.mag.val
  have sg := H.neg
  by_cases q : 8 < l.length
  · refine (to_long s p c _ w q hl).mono fun e w' h => not_over (x1 := 0) (x0 := 0) h ?_
    obtain ⟨n, hn⟩ : ∃ n, l.length = n + 1 := ⟨l.length - 1, by omega⟩
    have g := val_ge ok H.mag.top n hn
    have m := pw_mono (show 8 ≤ n by omega)
    have m8 : pw 8 = 340282366920938463463374607431768211456 := by decide
    rw [vz] at g
    rintro ⟨f1, f2⟩
    unfold Lb.ab at g; split at g <;> omega
  · have sp := wordV_split (l := l) (by omega)
    obtain ⟨a0, a1⟩ := wordV_lt ok 0 4
    obtain ⟨b0, b1⟩ := wordV_lt ok 4 4
    have p4 : pw 4 = 18446744073709551616 := by decide
    rw [p4] at a1 b1
    have kw : WordIs p c l.length w (fun f => wordV l f.toNat 4) := by
      intro f w' hb hf
      rcases hf with rfl | rfl
      · exact word_spec p c 0 l w' (H.lim.later hb) hl (by omega) ok
      · exact word_spec p c 4 l w' (H.lim.later hb) hl (by omega) ok
    have q8 : l.length ≤ 8 := by omega
    rw [vz] at sp
    have g0 : (fun f : Int => wordV l f.toNat 4) 0 = wordV l 0 4 := rfl
    have g4 : (fun f : Int => wordV l f.toNat 4) 4 = wordV l 4 4 := rfl
    generalize (fun f : Int => wordV l f.toNat 4) = g at *
    generalize wordV l 0 4 = x at *
    generalize wordV l 4 4 = y at *
    have iy : IsLo y := ⟨b0, b1⟩
    have ix : IsLo x := ⟨a0, a1⟩
    by_cases n : z < 0
    · have s1 : s = true := by rw [sg]; simpa using n
      subst s1
      have hz : z = -(x + 18446744073709551616 * y) := by unfold Lb.ab at sp; rw [if_pos n] at sp; omega
      by_cases h1 : 9223372036854775808 < y
      · refine (to_neg_a p c _ g y x w q8 kw g0 g4 h1).mono fun e w' h => not_over (x1 := 0) (x0 := 0) h ?_
        rintro ⟨f1, f2⟩; omega
      · by_cases x0 : x = 0
        · subst x0
          have fz : Fits z := ⟨by omega, by omega⟩
          have e5 := xor_u64 y iy
          have ew : IntKind.i64.wrap (IntKind.u64.wrap (-y - 1 + 18446744073709551616 + 1)) = hi (resV z) := by rw [resV_fits fz, IntKind.wrap_u64, IntKind.wrap_i64]; unfold hi; omega
          have el : (0 : Int) = lo (resV z) := by rw [resV_fits fz]; unfold lo; omega
          by_cases h2 : y = 9223372036854775808
          · exact (to_neg_c p c _ g y _ _ _ w q8 kw g0 g4 h1 (by rw [h2]; rfl) (by rw [xor_u64 0 isLo_0]; rfl) (by decide) e5 rfl rfl).mono fun e w' h => to_res h (decide_eq_true fz) ew el
          · exact (to_neg_d p c _ g y _ _ _ w q8 kw g0 g4 h1 (by simpa using h2) (by rw [xor_u64 0 isLo_0]; rfl) (by decide) e5 rfl rfl).mono fun e w' h => to_res h (decide_eq_true fz) ew el
        · by_cases h2 : y = 9223372036854775808
          · subst h2
            refine (to_neg_b p c _ g x w q8 kw g0 g4 (by omega)).mono fun e w' h => not_over (x1 := 0) (x0 := 0) h ?_
            rintro ⟨f1, f2⟩; omega
          · have fz : Fits z := ⟨by omega, by omega⟩
            have e5 := xor_u64 y iy
            have e3 := xor_u64 x ix
            have ew : IntKind.i64.wrap (-y - 1 + 18446744073709551616) = hi (resV z) := by rw [resV_fits fz, IntKind.wrap_i64]; unfold hi; omega
            have el : IntKind.u64.wrap (-x - 1 + 18446744073709551616 + 1) = lo (resV z) := by rw [resV_fits fz, IntKind.wrap_u64]; unfold lo; omega
            exact (to_neg_e p c _ g y x _ _ _ _ w q8 kw g0 g4 h1 (by simpa using h2) e3 rfl (by rw [IntKind.wrap_u64]; simp; omega) e5 rfl).mono fun e w' h => to_res h (decide_eq_true fz) ew el
    · have s1 : s = false := by rw [sg]; simpa using n
      subst s1
      have hz : z = x + 18446744073709551616 * y := by unfold Lb.ab at sp; rw [if_neg n] at sp; omega
      by_cases h1 : y < 9223372036854775808
      · have fz : Fits z := ⟨by omega, by omega⟩
        refine (to_pos p c _ g y x _ x true w q8 kw g0 g4 (decide_eq_true h1) (fun w => fits_yes y x w _ rfl)).mono fun e w' h => to_res h (decide_eq_true fz) ?_ ?_
        · rw [resV_fits fz, IntKind.wrap_i64]; unfold hi; omega
        · rw [resV_fits fz]; unfold lo; omega
      · refine (to_pos p c _ g y x 0 0 false w q8 kw g0 g4 (decide_eq_false h1) (fun w => fits_no y x w)).mono fun e w' h => not_over (x1 := 0) (x0 := 0) h ?_
        rintro ⟨f1, f2⟩; omega
end Go.Proofs.Ytebiddmadmmfpaa
/- The reference of layer 1: its faces: over, Add, Sub, Neg, Abs, Cmp, Sign. -/
namespace Go.Proofs.Ytebiddmadmmfpaa
set_option linter.unusedVariables false
open Go.RowKit W Lb
theorem addN_spec (s s' : Bool) (pa pb : Option Addr) (ca cb : Nat) (la lb : List Int) (x y : Int) (w : World) (Ha : IsNum w s pa ca la x) (Hb : IsNum w s' pb cb lb y) (na : la.length ≤ 900) (nb : lb.length ≤ 900) :
    Calls Try.prog 46 #[.agg #[.bool s, .slice pa la.length ca], .agg #[.bool s', .slice pb lb.length cb]] w (NumPost w (x + y)) := by
  have va := Ha.mag.val
  have vb := Hb.mag.val
  have ea := Ha.neg
  have eb := Hb.neg
  have la9 : val la < pw 999 := val_lt' Ha.mag.ok (by omega)
  have lb9 : val lb < pw 999 := val_lt' Hb.mag.ok (by omega)
  have a0 := val_nonneg Ha.mag.ok
  have b0 := val_nonneg Hb.mag.ok
  have p9 : pw 1000 = 65536 * pw 999 := rfl
  have KM : ∀ (n : Bool) (m : Int), mkZ n m = x + y → m < pw 1000 → ∀ pv cv lv w', Limbs w' (.slice pv lv.length cv) lv → Mag lv m → Calls Try.prog 56 #[.bool n, .slice pv lv.length cv] w' (NumPost w' (x + y)) := by
    intro n m hm hp pv cv lv w' h1 h2
    have := make2_spec n pv cv lv w' h1 h2.ok (h2.len hp)
    rwa [h2.val, hm] at this
  have KC := fun (w' : World) (h : Below w.heap.size w w') => cmpL_spec _ _ la lb w' (Ha.lim.later h) (Hb.lim.later h) Ha.mag.ok Hb.mag.ok (by omega) (by omega)
  clear p9
  have p9 : 2 * pw 999 < pw 1000 := by show _ < 65536 * pw 999; have := pw_pos 999; omega
  by_cases ss : s = s'
  · have hz : mkZ s (val la + val lb) = x + y := by
      rw [va, vb]; subst ss; unfold mkZ Lb.ab; rw [ea] at eb
      have : (x < 0) ↔ (y < 0) := by simpa using eb
      subst ea; by_cases q : x < 0 <;> by_cases t : y < 0 <;> simp [q, t] <;> omega
    exact addN_same s s' pa pb ca cb la lb (x + y) (val la + val lb) w ss (fun w' K => addL_spec _ _ la lb w' (Ha.lim.later K.below) (Hb.lim.later K.below) Ha.mag.ok Hb.mag.ok (by omega) (by omega)) (KM s _ hz (by omega))
  · have sf : (s == s') = false := by simpa using ss
    have sx : ¬ ((x < 0) ↔ (y < 0)) := by
      intro q; apply ss; rw [ea, eb]; simp [q]
    by_cases h : 0 ≤ cmpI (val la) (val lb)
    · have le : val lb ≤ val la := by unfold cmpI at h; split at h <;> (try split at h) <;> omega
      have hz : mkZ s (val la - val lb) = x + y := by
        rw [va, vb]; unfold mkZ Lb.ab; subst ea; by_cases q : x < 0 <;> by_cases t : y < 0 <;> simp [q, t] at sx ⊢ <;> omega
      exact addN_ge s s' pa pb ca cb la lb (x + y) (val la - val lb) w _ _ sf h KC (fun w' K => subL_spec _ _ la lb w' (Ha.lim.later K.below) (Hb.lim.later K.below) Ha.mag.ok Hb.mag.ok (by omega) (length_le_of_val Hb.mag.ok Hb.mag.top Ha.mag.ok le) le) (KM s _ hz (by omega))
    · have le : val la ≤ val lb := by unfold cmpI at h; split at h <;> (try split at h) <;> omega
      have hz : mkZ s' (val lb - val la) = x + y := by
        rw [va, vb]; unfold mkZ Lb.ab; subst eb; by_cases q : x < 0 <;> by_cases t : y < 0 <;> simp [q, t] at sx ⊢ <;> omega
      exact addN_lt s s' pa pb ca cb la lb (x + y) (val lb - val la) w _ _ sf h KC (fun w' K => subL_spec _ _ lb la w' (Hb.lim.later K.below) (Ha.lim.later K.below) Hb.mag.ok Ha.mag.ok (by omega) (length_le_of_val Ha.mag.ok Ha.mag.top Hb.mag.ok le) le) (KM s' _ hz (by omega))
/-- A number's limbs are few. -/
theorem IsNum.few {w : World} {s : Bool} {p : Option Addr} {c : Nat} {l : List Int} {z : Int} (h : IsNum w s p c l z) (n : Nat) (hb : Lb.ab z < pw n) : l.length ≤ n := h.mag.len hb
theorem few_fits {z : Int} (f : Fits z) : Lb.ab z < pw 9 := by
  have : pw 9 = 22300745198530623141535718272648361505980416 := by decide
  obtain ⟨_, _⟩ := f; unfold Lb.ab; split <;> omega
theorem few_two {x y : Int} (f : Fits x) (g : Fits y) : Lb.ab (x + y) < pw 9 := by
  have : pw 9 = 22300745198530623141535718272648361505980416 := by decide
  obtain ⟨_, _⟩ := f; obtain ⟨_, _⟩ := g; unfold Lb.ab; split <;> omega
theorem few_sub {x y : Int} (f : Fits x) (g : Fits y) : Lb.ab (x - y) < pw 9 := by
  have : pw 9 = 22300745198530623141535718272648361505980416 := by decide
  obtain ⟨_, _⟩ := f; obtain ⟨_, _⟩ := g; unfold Lb.ab; split <;> omega
theorem few_abs {x : Int} (f : Fits x) : Lb.ab (mkZ false (Lb.ab x)) < pw 9 := by
  have : pw 9 = 22300745198530623141535718272648361505980416 := by decide
  obtain ⟨_, _⟩ := f; unfold mkZ Lb.ab; simp; split <;> (try split) <;> omega
theorem few_neg {x : Int} (f : Fits x) : Lb.ab (-x) < pw 9 := by
  have : pw 9 = 22300745198530623141535718272648361505980416 := by decide
  obtain ⟨_, _⟩ := f; unfold Lb.ab; split <;> omega
theorem isW_fits {a b : Int} (i : IsW (a, b)) : Fits (V a b) := fits_V i.a i.b
theorem isNum_zero (w : World) : IsNum w false none 0 [] 0 := ⟨rfl, Limbs.nil w, ⟨ok_nil, .inl rfl, rfl⟩⟩
end Go.Proofs.Ytebiddmadmmfpaa
/- math/bits.Div64 and wide.divideBy at a high word 0; Print of -42; 'alive' of the statements of layer 1. -/
namespace Go.Proofs.Ytebiddmadmmfpaa
set_option linter.unusedVariables false
open Go.RowKit W
set_option maxHeartbeats 1000000 in
theorem divideBy_low (m d : Int) (i : IsLo m) (j : IsLo d) (n : d ≠ 0) (w : World) :
    Calls Try.prog 73 #[.agg #[.int .u64 m, .int .u64 0], .int .u64 d] w fun e w' => e = .returned (.tuple #[.agg #[.int .u64 (m / d), .int .u64 0], .int .u64 (m % d)]) ∧ Below w.heap.size w w' := by
  have c1 := div64_zero 0 d isLo_0 j n
  have c2 := div64_zero m d i j n
  rw [Int.zero_ediv, Int.zero_emod] at c1
  generalize m / d = q at *
  generalize m % d = r at *
  go_enter Try.func73, Try.ntmps73
  go_wp2_with fail
  refine (c1 _).mono ?_
  rintro e w1 ⟨rfl, hb⟩
  obtain ⟨khb0, fhb0, zhb0⟩ := live (.int .u64 m) hb (w.heap.size) 0 (by simp; try omega) (by simp [go_sem]) (by simp [go_sem]); obtain ⟨khb1, fhb1, zhb1⟩ := live (.int .u64 0) hb (w.heap.size + 1) 0 (by simp; try omega) (by simp [go_sem]) (by simp [go_sem]); obtain ⟨khb2, fhb2, zhb2⟩ := live (.int .u64 0) hb (w.heap.size + 1) 1 (by simp; try omega) (by simp [go_sem]) (by simp [go_sem]); obtain ⟨khb3, fhb3, zhb3⟩ := live (.int .u64 0) hb (w.heap.size + 1 + 1) 0 (by simp; try omega) (by simp [go_sem]) (by simp [go_sem]); obtain ⟨khb4, fhb4, zhb4⟩ := live (.int .u64 0) hb (w.heap.size + 1 + 1) 1 (by simp; try omega) (by simp [go_sem]) (by simp [go_sem])
  have B0 : Below w.heap.size w w1 := Below.trans (by go_grown) (hb.mono (by simp; omega))
  clear hb
  go_wp2_with fail
  refine (c2 _).mono ?_
  rintro e w2 ⟨rfl, hc⟩
  obtain ⟨k0, f0, z0⟩ := live (.int .u64 0) hc (w.heap.size + 1) 0 (by simp; omega) (by simp [go_sem, khb1]) (by simp [go_sem, fhb1])
  obtain ⟨k1, f1, z1⟩ := live (.int .u64 0) hc (w.heap.size + 1) 1 (by simp; omega) (by simp [go_sem, khb2]) (by simp [go_sem, fhb2])
  obtain ⟨k2, f2, z2⟩ := live (.int .u64 0) hc (w.heap.size + 1 + 1) 0 (by simp; omega) (by simp [go_sem, khb3]) (by simp [go_sem, fhb3])
  obtain ⟨k3, f3, z3⟩ := live (.int .u64 0) hc (w.heap.size + 1 + 1) 1 (by simp; omega) (by simp [go_sem, khb4]) (by simp [go_sem, fhb4])
  have B1 : Below w.heap.size w w2 := Below.trans (by go_grown) (hc.mono (by simp; omega))
  clear hc
  go_wp2_with fail
  refine bodyPost_ret (by simp [results, Try.results73, go_sem, k0, k1]; try rfl) rfl ?_
  exact ⟨rfl, by go_grown⟩
set_option maxRecDepth 100000
end Go.Proofs.Ytebiddmadmmfpaa
/- The reference of layer 1: its faces: MulN, Mul. -/
namespace Go.Proofs.Ytebiddmadmmfpaa
set_option linter.unusedVariables false
open Go.RowKit W Lb
set_option maxHeartbeats 4000000 in
theorem mulN_walk (s s' : Bool) (pa pb : Option Addr) (ca cb : Nat) (la lb : List Int) (z m : Int) (w : World)
    (KA0 : ∀ w', Keeps w.heap.size w w' → Calls Try.prog 57 #[.slice pa la.length ca, .slice pb lb.length cb] w' (MagPost w' m))
    (KM : ∀ (sg : Bool), sg = (s != s') → ∀ pv cv lv w', Limbs w' (.slice pv lv.length cv) lv → Mag lv m → Calls Try.prog 56 #[.bool sg, .slice pv lv.length cv] w' (NumPost w' z)) :
    Calls Try.prog 30 #[.agg #[.bool s, .slice pa la.length ca], .agg #[.bool s', .slice pb lb.length cb]] w (NumPost w z) := by
  have KA1 := hide KA0
  clear KA0
  go_enter Try.func30, Try.ntmps30
  go_wp2_with fail
  refine abs_wp (fun W => W.cell? ⟨w.heap.size, 0, none⟩ = some (.bool s) ∧ W.cell? ⟨w.heap.size, 1, none⟩ = some (.slice pa la.length ca) ∧ W.cell? ⟨w.heap.size + 1, 0, none⟩ = some (.bool s') ∧ W.cell? ⟨w.heap.size + 1, 1, none⟩ = some (.slice pb lb.length cb) ∧ W.cell? ⟨w.heap.size + 1 + 1, 0, none⟩ = some (.bool false) ∧ W.cell? ⟨w.heap.size + 1 + 1, 1, none⟩ = some (.slice none 0 0) ∧ W.frozen? ⟨w.heap.size + 1 + 1, 0, none⟩ = false ∧ W.frozen? ⟨w.heap.size + 1 + 1, 1, none⟩ = false ∧ W.shape? (w.heap.size + 1 + 1) = some (64, 2) ∧ w.heap.size + 1 + 1 < W.heap.size ∧ Below w.heap.size w W) ?_ ?_
  · refine ⟨?_, ?_, ?_, ?_, ?_, ?_, ?_, ?_, ?_, ?_, ?_⟩
    all_goals first | (exact shape_top _ _ _ _ (by simp)) | (go_grown; done) | (simp [go_sem]; done) | (simp; done) | (simp; omega)
  rintro W ⟨c00, c01, c10, c11, r0, r1, g0, g1, hr, zW, BW⟩
  have KA : ∀ w', Keeps W.heap.size W w' → Calls Try.prog 57 #[.slice pa la.length ca, .slice pb lb.length cb] w' (MagPost w' m) := fun w' K => KA1.out w' ⟨BW.trans (K.below.mono BW.size), Nat.le_refl _⟩
  have K0 := Keeps.start (Nat.le_refl W.heap.size)
  have K1 := K0.drew
  have J0 : Keeps (w.heap.size + 1 + 1) W W := Keeps.start (by omega)
  have J1 := J0.drew
  have z0 : w.heap.size < W.heap.size := by omega
  have z1 : w.heap.size + 1 < W.heap.size := by omega
  have z2 : w.heap.size + 1 + 1 < W.heap.size := by omega
  go_region_held3 (fun w' => w'.cell? ⟨w.heap.size, 0, none⟩ = some (.bool s) ∧ w'.cell? ⟨w.heap.size, 1, none⟩ = some (.slice pa la.length ca) ∧ w'.cell? ⟨w.heap.size + 1, 0, none⟩ = some (.bool s') ∧ w'.cell? ⟨w.heap.size + 1, 1, none⟩ = some (.slice pb lb.length cb) ∧ Keeps (w.heap.size + 1 + 1) W w') ((refine (fun K => ⟨Keeps.cell K c00 (by omega), Keeps.cell K c01 (by omega), Keeps.cell K c10 (by omega), Keeps.cell K c11 (by omega), K⟩) (?_ : Keeps (w.heap.size + 1 + 1) W _); (repeat (first | assumption | refine Keeps.alloc ?_ _ | refine Keeps.drew ?_ | refine Keeps.setCell ?_ (by first | (simp; done) | omega | (simp; omega)) _))))
    (first
    | (go_at_call 57; refine (KA _ (by repeat (first | assumption | refine Keeps.alloc ?_ _ | refine Keeps.drew ?_ | refine Keeps.setCell ?_ (by first | (simp; done) | omega | (simp; omega)) _))).mono ?_; rintro e v20 ⟨va, lv, rfl, LV, MV, hb20, fr20⟩; obtain ⟨pv, cv, rfl⟩ := LV.form; have K20 := Keeps.call (B := W.heap.size) (W := W) (by repeat (first | assumption | refine Keeps.alloc ?_ _ | refine Keeps.drew ?_ | refine Keeps.setCell ?_ (by first | (simp; done) | omega | (simp; omega)) _)) hb20; obtain ⟨bc20, bf20, bs20⟩ := bcell hb20; (try simp only [World.size_alloc, World.size_drew] at bc20 bf20 bs20); have J20 : Keeps (w.heap.size + 1 + 1) W v20 := ⟨K20.below.mono (by omega), by omega⟩; (try (have ov200 : W.heap.size < v20.heap.size := by omega)); (try (have ov201 : W.heap.size ≤ v20.heap.size := by omega)); (try (have ov202 : ¬ W.heap.size = v20.heap.size := by omega)); (try (have ov203 : ¬ v20.heap.size = W.heap.size := by omega)); (try (have ov204 : W.heap.size + 1 < v20.heap.size := by omega)); (try (have ov205 : W.heap.size + 1 ≤ v20.heap.size := by omega)); (try (have ov206 : ¬ W.heap.size + 1 = v20.heap.size := by omega)); (try (have ov207 : ¬ v20.heap.size = W.heap.size + 1 := by omega)))
    | (go_at_call 56; refine (KM _ (by cases s <;> cases s' <;> rfl) _ _ _ _ (by first | exact LV | exact LV.later (by go_grown)) MV).mono ?_; rintro e v21 ⟨s2, p2, c2, l2, rfl, N2, hb21⟩; have K21 := Keeps.call (B := W.heap.size) (W := W) (by repeat (first | assumption | refine Keeps.alloc ?_ _ | refine Keeps.drew ?_ | refine Keeps.setCell ?_ (by first | (simp; done) | omega | (simp; omega)) _)) hb21; have J21 : Keeps (w.heap.size + 1 + 1) W v21 := ⟨K21.below.mono (by omega), by omega⟩; have rr0 := K21.cell r0 z2; have rr1 := K21.cell r1 z2; have gg0 := K21.free g0 z2; have gg1 := K21.free g1 z2; have zz : w.heap.size + 1 + 1 < v21.heap.size := (by have := K21.size; omega); clear bc20 bf20 bs20))
  all_goals
    have F := hide (num_end N2 (BW.trans (K21.below.mono BW.size)) ((shape_later K21.below z2).trans hr) (by omega))
    clear K20 K21 N2 KA KM
    go_wp2_with fail
    refine bodyPost_ret (by simp [results, Try.results30, go_sem, rr0, rr1, gg0, gg1, zz]; try rfl) rfl ?_
    exact F.out _ _
theorem mkZ_mul (x y : Int) : mkZ (decide (x < 0) != decide (y < 0)) (Lb.ab x * Lb.ab y) = x * y := by
  unfold mkZ Lb.ab
  by_cases a : x < 0 <;> by_cases b : y < 0 <;> simp [a, b, Int.neg_mul, Int.mul_neg]
theorem prod_lt {x y : Int} {m n : Nat} (a : 0 ≤ x) (b : 0 ≤ y) (c : x < pw m) (d : y < pw n) : x * y < pw (m + n + 1) := by
  have e : pw (m + n + 1) = 65536 * (pw m * pw n) := by rw [← pw_add]; rfl
  have p := Int.mul_pos (pw_pos m) (pw_pos n)
  have q : x * y ≤ pw m * pw n := Int.mul_le_mul (by omega) (by omega) b (by omega)
  omega
theorem mulN_spec (s s' : Bool) (pa pb : Option Addr) (ca cb : Nat) (la lb : List Int) (x y : Int) (w : World) (Ha : IsNum w s pa ca la x) (Hb : IsNum w s' pb cb lb y) (na : la.length ≤ 40) (nb : lb.length ≤ 40) :
    Calls Try.prog 30 #[.agg #[.bool s, .slice pa la.length ca], .agg #[.bool s', .slice pb lb.length cb]] w (NumPost w (x * y)) := by
  have va := Ha.mag.val
  have vb := Hb.mag.val
  refine mulN_walk s s' pa pb ca cb la lb (x * y) (val la * val lb) w (fun w' K => mulL_spec _ _ _ _ la lb w' (Ha.lim.later K.below) (Hb.lim.later K.below) Ha.mag.ok Hb.mag.ok (by omega) (by omega)) ?_
  intro sg hs pv cv lv w' h1 h2
  have lt : lv.length ≤ 1000 := by
    have := h2.len (prod_lt (val_nonneg Ha.mag.ok) (val_nonneg Hb.mag.ok) (val_lt' Ha.mag.ok na) (val_lt' Hb.mag.ok nb))
    omega
  have := make2_spec sg pv cv lv w' h1 h2.ok lt
  have key : mkZ sg (val lv) = x * y := by rw [h2.val, hs, Ha.neg, Hb.neg, va, vb, mkZ_mul]
  rwa [key] at this
theorem few_mul {x y : Int} (f : Fits x) (g : Fits y) : Lb.ab (x * y) < pw 17 := by
  have e : pw 17 = 7588550360256754183279148073529370729071901715047420004889892225542594864082845696 := by decide
  have a := ab_le f
  have b := ab_le g
  have h : Lb.ab (x * y) = W.ab x * W.ab y := by
    show W.ab (x * y) = _
    unfold W.ab
    by_cases a : x < 0 <;> by_cases b : y < 0 <;> simp only [a, b, if_true, if_false]
    · have : 0 < -x * -y := Int.mul_pos (by omega) (by omega); rw [Int.neg_mul_neg] at this ⊢; rw [if_neg (by omega)]
    · by_cases z : y = 0
      · subst z; simp
      · have : 0 < -x * y := Int.mul_pos (by omega) (by omega); rw [Int.neg_mul] at this ⊢; rw [if_pos (by omega)]
    · by_cases z : x = 0
      · subst z; simp
      · have : 0 < x * -y := Int.mul_pos (by omega) (by omega); rw [Int.mul_neg] at this ⊢; rw [if_pos (by omega)]
    · have : 0 ≤ x * y := Int.mul_nonneg (by omega) (by omega); rw [if_neg (by omega)]
  rw [h]
  have m : W.ab x * W.ab y ≤ 170141183460469231731687303715884105728 * 170141183460469231731687303715884105728 := Int.mul_le_mul a.2 b.2 b.1 (by omega)
  omega
end Go.Proofs.Ytebiddmadmmfpaa
