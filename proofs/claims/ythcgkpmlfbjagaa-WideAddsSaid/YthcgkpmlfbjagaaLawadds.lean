/- WideAdds, WideMuls: the laws over the contracts. (gen_lawadds.py) -/
import Derived.Test.YthcgkpmlfbjagaaLwrap
import Derived.Test.YthcgkpmlfbjagaaWneg
import Derived.Test.YthcgkpmlfbjagaaWalive
namespace Go.Proofs.Ythcgkpmlfbjagaa
set_option linter.unusedVariables false
open Go.RowKit W
set_option maxHeartbeats 4000000 in
theorem adds_walk (a b c d x1 x0 er t1 t0 f : Int)
    (k0 : ∀ w, Calls Try.prog 25 #[] w fun e w' => e = .returned (.bool true) ∧ Below w.heap.size w w')
    (k1 : ∀ w, Calls Try.prog 26 #[.agg #[.int .i64 a, .int .u64 b], .agg #[.int .i64 c, .int .u64 d]] w fun e w' => e = .returned (.tuple #[.agg #[.int .i64 x1, .int .u64 x0], .int .i64 er]) ∧ Below w.heap.size w w')
    (k2 : ∀ w, Calls Try.prog 27 #[.agg #[.int .i64 a, .int .u64 b], .agg #[.int .i64 c, .int .u64 d]] w fun e w' => e = .returned (.tuple #[.agg #[.int .i64 x1, .int .u64 x0], .int .i64 er]) ∧ Below w.heap.size w w')
    (k3 : ∀ w, Calls Try.prog 28 #[.agg #[.int .i64 a, .int .u64 b], .agg #[.int .i64 c, .int .u64 d]] w fun e w' => e = .returned (.tuple #[.agg #[.int .i64 t1, .int .u64 t0], .int .i64 f]) ∧ Below w.heap.size w w')
    (k4 : ∀ w, Calls Try.prog 29 #[.agg #[.int .i64 a, .int .u64 b], .agg #[.int .i64 c, .int .u64 d]] w fun e w' => e = .returned (.tuple #[.agg #[.int .i64 t1, .int .u64 t0], .int .i64 f]) ∧ Below w.heap.size w w')
    (w : World) : Calls Try.prog 4 #[.agg #[.int .i64 a, .int .u64 b], .agg #[.int .i64 c, .int .u64 d]] w fun e w' => e = .returned (.bool true) ∧ Below w.heap.size w w' := by
  go_enter Try.func4, Try.ntmps4
  go_wp2_with fail
  refine (k1 _).mono ?_
  rintro e w1 ⟨rfl, h1⟩
  have B1 : Below w.heap.size w w1 := Below.trans (by go_grown) (h1.mono (by first | (simp; done) | omega | (simp; omega)))
  have y1 := B1.size
  have A0 := box2 h1 (w.heap.size) (.int .i64 a) (.int .u64 b) (by first | assumption | (simp [go_sem]; done) | (simp [go_sem]; done)) (by first | assumption | (simp [go_sem]; done) | (simp [go_sem]; done)) (by first | assumption | (simp [go_sem]; done) | (simp [go_sem]; done)) (by first | assumption | (simp [go_sem]; done) | (simp [go_sem]; done)) (by first | assumption | omega | (simp; done) | (simp; omega))
  have A1 := box2 h1 (w.heap.size + 1) (.int .i64 c) (.int .u64 d) (by first | assumption | (simp [go_sem]; done) | (simp [go_sem]; done)) (by first | assumption | (simp [go_sem]; done) | (simp [go_sem]; done)) (by first | assumption | (simp [go_sem]; done) | (simp [go_sem]; done)) (by first | assumption | (simp [go_sem]; done) | (simp [go_sem]; done)) (by first | assumption | omega | (simp; done) | (simp; omega))
  obtain ⟨A0c0, A0c1, A0f0, A0f1, A0z⟩ := A0
  obtain ⟨A1c0, A1c1, A1f0, A1f1, A1z⟩ := A1
  clear h1 k1
  go_wp2_with fail
  refine (k2 _).mono ?_
  rintro e w2 ⟨rfl, h2⟩
  have B2 : Below w.heap.size w w2 := Below.trans (by go_grown) (h2.mono (by first | (simp; done) | omega | (simp; omega)))
  have y2 := B2.size
  have B0 := box2 h2 (w.heap.size) (.int .i64 a) (.int .u64 b) (by first | assumption | (refine (Below.cell ?_ A0z).trans A0c0; go_grown; done) | (simp [go_sem, A0c0]; done) | (simp [go_sem, A0c0, A0z]; done) | (simp [go_sem, A0c0, A0c1, A0f0, A0f1, A0z, A1c0, A1c1, A1f0, A1f1, A1z]; done)) (by first | assumption | (refine (Below.cell ?_ A0z).trans A0c1; go_grown; done) | (simp [go_sem, A0c1]; done) | (simp [go_sem, A0c1, A0z]; done) | (simp [go_sem, A0c0, A0c1, A0f0, A0f1, A0z, A1c0, A1c1, A1f0, A1f1, A1z]; done)) (by first | assumption | (refine (Below.frozen ?_ A0z).trans A0f0; go_grown; done) | (simp [go_sem, A0f0]; done) | (simp [go_sem, A0f0, A0z]; done) | (simp [go_sem, A0c0, A0c1, A0f0, A0f1, A0z, A1c0, A1c1, A1f0, A1f1, A1z]; done)) (by first | assumption | (refine (Below.frozen ?_ A0z).trans A0f1; go_grown; done) | (simp [go_sem, A0f1]; done) | (simp [go_sem, A0f1, A0z]; done) | (simp [go_sem, A0c0, A0c1, A0f0, A0f1, A0z, A1c0, A1c1, A1f0, A1f1, A1z]; done)) (by first | assumption | omega | (simp; done) | (simp; omega))
  have B1 := box2 h2 (w.heap.size + 1) (.int .i64 c) (.int .u64 d) (by first | assumption | (refine (Below.cell ?_ A1z).trans A1c0; go_grown; done) | (simp [go_sem, A1c0]; done) | (simp [go_sem, A1c0, A1z]; done) | (simp [go_sem, A0c0, A0c1, A0f0, A0f1, A0z, A1c0, A1c1, A1f0, A1f1, A1z]; done)) (by first | assumption | (refine (Below.cell ?_ A1z).trans A1c1; go_grown; done) | (simp [go_sem, A1c1]; done) | (simp [go_sem, A1c1, A1z]; done) | (simp [go_sem, A0c0, A0c1, A0f0, A0f1, A0z, A1c0, A1c1, A1f0, A1f1, A1z]; done)) (by first | assumption | (refine (Below.frozen ?_ A1z).trans A1f0; go_grown; done) | (simp [go_sem, A1f0]; done) | (simp [go_sem, A1f0, A1z]; done) | (simp [go_sem, A0c0, A0c1, A0f0, A0f1, A0z, A1c0, A1c1, A1f0, A1f1, A1z]; done)) (by first | assumption | (refine (Below.frozen ?_ A1z).trans A1f1; go_grown; done) | (simp [go_sem, A1f1]; done) | (simp [go_sem, A1f1, A1z]; done) | (simp [go_sem, A0c0, A0c1, A0f0, A0f1, A0z, A1c0, A1c1, A1f0, A1f1, A1z]; done)) (by first | assumption | omega | (simp; done) | (simp; omega))
  have B2 := box2 h2 (w1.heap.size) (.int .i64 x1) (.int .u64 x0) (by first | assumption | (simp [go_sem]; done) | (simp [go_sem, A0c0, A0c1, A0f0, A0f1, A0z, A1c0, A1c1, A1f0, A1f1, A1z]; done)) (by first | assumption | (simp [go_sem]; done) | (simp [go_sem, A0c0, A0c1, A0f0, A0f1, A0z, A1c0, A1c1, A1f0, A1f1, A1z]; done)) (by first | assumption | (simp [go_sem]; done) | (simp [go_sem, A0c0, A0c1, A0f0, A0f1, A0z, A1c0, A1c1, A1f0, A1f1, A1z]; done)) (by first | assumption | (simp [go_sem]; done) | (simp [go_sem, A0c0, A0c1, A0f0, A0f1, A0z, A1c0, A1c1, A1f0, A1f1, A1z]; done)) (by first | assumption | omega | (simp; done) | (simp; omega))
  clear A0c0 A0c1 A0f0 A0f1 A0z A1c0 A1c1 A1f0 A1f1 A1z
  obtain ⟨B0c0, B0c1, B0f0, B0f1, B0z⟩ := B0
  obtain ⟨B1c0, B1c1, B1f0, B1f1, B1z⟩ := B1
  obtain ⟨B2c0, B2c1, B2f0, B2f1, B2z⟩ := B2
  clear h2 k2 B1
  go_wp2_with fail
  refine (k3 _).mono ?_
  rintro e w3 ⟨rfl, h3⟩
  have B3 : Below w.heap.size w w3 := Below.trans (by go_grown) (h3.mono (by first | (simp; done) | omega | (simp; omega)))
  have y3 := B3.size
  have C0 := box2 h3 (w.heap.size) (.int .i64 a) (.int .u64 b) (by first | assumption | (refine (Below.cell ?_ B0z).trans B0c0; go_grown; done) | (simp [go_sem, B0c0]; done) | (simp [go_sem, B0c0, B0z]; done) | (simp [go_sem, B0c0, B0c1, B0f0, B0f1, B0z, B1c0, B1c1, B1f0, B1f1, B1z, B2c0, B2c1, B2f0, B2f1, B2z]; done)) (by first | assumption | (refine (Below.cell ?_ B0z).trans B0c1; go_grown; done) | (simp [go_sem, B0c1]; done) | (simp [go_sem, B0c1, B0z]; done) | (simp [go_sem, B0c0, B0c1, B0f0, B0f1, B0z, B1c0, B1c1, B1f0, B1f1, B1z, B2c0, B2c1, B2f0, B2f1, B2z]; done)) (by first | assumption | (refine (Below.frozen ?_ B0z).trans B0f0; go_grown; done) | (simp [go_sem, B0f0]; done) | (simp [go_sem, B0f0, B0z]; done) | (simp [go_sem, B0c0, B0c1, B0f0, B0f1, B0z, B1c0, B1c1, B1f0, B1f1, B1z, B2c0, B2c1, B2f0, B2f1, B2z]; done)) (by first | assumption | (refine (Below.frozen ?_ B0z).trans B0f1; go_grown; done) | (simp [go_sem, B0f1]; done) | (simp [go_sem, B0f1, B0z]; done) | (simp [go_sem, B0c0, B0c1, B0f0, B0f1, B0z, B1c0, B1c1, B1f0, B1f1, B1z, B2c0, B2c1, B2f0, B2f1, B2z]; done)) (by first | assumption | omega | (simp; done) | (simp; omega))
  have C1 := box2 h3 (w.heap.size + 1) (.int .i64 c) (.int .u64 d) (by first | assumption | (refine (Below.cell ?_ B1z).trans B1c0; go_grown; done) | (simp [go_sem, B1c0]; done) | (simp [go_sem, B1c0, B1z]; done) | (simp [go_sem, B0c0, B0c1, B0f0, B0f1, B0z, B1c0, B1c1, B1f0, B1f1, B1z, B2c0, B2c1, B2f0, B2f1, B2z]; done)) (by first | assumption | (refine (Below.cell ?_ B1z).trans B1c1; go_grown; done) | (simp [go_sem, B1c1]; done) | (simp [go_sem, B1c1, B1z]; done) | (simp [go_sem, B0c0, B0c1, B0f0, B0f1, B0z, B1c0, B1c1, B1f0, B1f1, B1z, B2c0, B2c1, B2f0, B2f1, B2z]; done)) (by first | assumption | (refine (Below.frozen ?_ B1z).trans B1f0; go_grown; done) | (simp [go_sem, B1f0]; done) | (simp [go_sem, B1f0, B1z]; done) | (simp [go_sem, B0c0, B0c1, B0f0, B0f1, B0z, B1c0, B1c1, B1f0, B1f1, B1z, B2c0, B2c1, B2f0, B2f1, B2z]; done)) (by first | assumption | (refine (Below.frozen ?_ B1z).trans B1f1; go_grown; done) | (simp [go_sem, B1f1]; done) | (simp [go_sem, B1f1, B1z]; done) | (simp [go_sem, B0c0, B0c1, B0f0, B0f1, B0z, B1c0, B1c1, B1f0, B1f1, B1z, B2c0, B2c1, B2f0, B2f1, B2z]; done)) (by first | assumption | omega | (simp; done) | (simp; omega))
  have C2 := box2 h3 (w1.heap.size) (.int .i64 x1) (.int .u64 x0) (by first | assumption | (refine (Below.cell ?_ B2z).trans B2c0; go_grown; done) | (simp [go_sem, B2c0]; done) | (simp [go_sem, B2c0, B2z]; done) | (simp [go_sem, B0c0, B0c1, B0f0, B0f1, B0z, B1c0, B1c1, B1f0, B1f1, B1z, B2c0, B2c1, B2f0, B2f1, B2z]; done)) (by first | assumption | (refine (Below.cell ?_ B2z).trans B2c1; go_grown; done) | (simp [go_sem, B2c1]; done) | (simp [go_sem, B2c1, B2z]; done) | (simp [go_sem, B0c0, B0c1, B0f0, B0f1, B0z, B1c0, B1c1, B1f0, B1f1, B1z, B2c0, B2c1, B2f0, B2f1, B2z]; done)) (by first | assumption | (refine (Below.frozen ?_ B2z).trans B2f0; go_grown; done) | (simp [go_sem, B2f0]; done) | (simp [go_sem, B2f0, B2z]; done) | (simp [go_sem, B0c0, B0c1, B0f0, B0f1, B0z, B1c0, B1c1, B1f0, B1f1, B1z, B2c0, B2c1, B2f0, B2f1, B2z]; done)) (by first | assumption | (refine (Below.frozen ?_ B2z).trans B2f1; go_grown; done) | (simp [go_sem, B2f1]; done) | (simp [go_sem, B2f1, B2z]; done) | (simp [go_sem, B0c0, B0c1, B0f0, B0f1, B0z, B1c0, B1c1, B1f0, B1f1, B1z, B2c0, B2c1, B2f0, B2f1, B2z]; done)) (by first | assumption | omega | (simp; done) | (simp; omega))
  have C3 := box2 h3 (w2.heap.size) (.int .i64 x1) (.int .u64 x0) (by first | assumption | (simp [go_sem]; done) | (simp [go_sem, B0c0, B0c1, B0f0, B0f1, B0z, B1c0, B1c1, B1f0, B1f1, B1z, B2c0, B2c1, B2f0, B2f1, B2z]; done)) (by first | assumption | (simp [go_sem]; done) | (simp [go_sem, B0c0, B0c1, B0f0, B0f1, B0z, B1c0, B1c1, B1f0, B1f1, B1z, B2c0, B2c1, B2f0, B2f1, B2z]; done)) (by first | assumption | (simp [go_sem]; done) | (simp [go_sem, B0c0, B0c1, B0f0, B0f1, B0z, B1c0, B1c1, B1f0, B1f1, B1z, B2c0, B2c1, B2f0, B2f1, B2z]; done)) (by first | assumption | (simp [go_sem]; done) | (simp [go_sem, B0c0, B0c1, B0f0, B0f1, B0z, B1c0, B1c1, B1f0, B1f1, B1z, B2c0, B2c1, B2f0, B2f1, B2z]; done)) (by first | assumption | omega | (simp; done) | (simp; omega))
  clear B0c0 B0c1 B0f0 B0f1 B0z B1c0 B1c1 B1f0 B1f1 B1z B2c0 B2c1 B2f0 B2f1 B2z
  obtain ⟨C0c0, C0c1, C0f0, C0f1, C0z⟩ := C0
  obtain ⟨C1c0, C1c1, C1f0, C1f1, C1z⟩ := C1
  obtain ⟨C2c0, C2c1, C2f0, C2f1, C2z⟩ := C2
  obtain ⟨C3c0, C3c1, C3f0, C3f1, C3z⟩ := C3
  clear h3 k3 B2
  go_wp2_with fail
  refine (k4 _).mono ?_
  rintro e w4 ⟨rfl, h4⟩
  have B4 : Below w.heap.size w w4 := Below.trans (by go_grown) (h4.mono (by first | (simp; done) | omega | (simp; omega)))
  have y4 := B4.size
  have D0 := box2 h4 (w1.heap.size) (.int .i64 x1) (.int .u64 x0) (by first | assumption | (refine (Below.cell ?_ C2z).trans C2c0; go_grown; done) | (simp [go_sem, C2c0]; done) | (simp [go_sem, C2c0, C2z]; done) | (simp [go_sem, C0c0, C0c1, C0f0, C0f1, C0z, C1c0, C1c1, C1f0, C1f1, C1z, C2c0, C2c1, C2f0, C2f1, C2z, C3c0, C3c1, C3f0, C3f1, C3z]; done)) (by first | assumption | (refine (Below.cell ?_ C2z).trans C2c1; go_grown; done) | (simp [go_sem, C2c1]; done) | (simp [go_sem, C2c1, C2z]; done) | (simp [go_sem, C0c0, C0c1, C0f0, C0f1, C0z, C1c0, C1c1, C1f0, C1f1, C1z, C2c0, C2c1, C2f0, C2f1, C2z, C3c0, C3c1, C3f0, C3f1, C3z]; done)) (by first | assumption | (refine (Below.frozen ?_ C2z).trans C2f0; go_grown; done) | (simp [go_sem, C2f0]; done) | (simp [go_sem, C2f0, C2z]; done) | (simp [go_sem, C0c0, C0c1, C0f0, C0f1, C0z, C1c0, C1c1, C1f0, C1f1, C1z, C2c0, C2c1, C2f0, C2f1, C2z, C3c0, C3c1, C3f0, C3f1, C3z]; done)) (by first | assumption | (refine (Below.frozen ?_ C2z).trans C2f1; go_grown; done) | (simp [go_sem, C2f1]; done) | (simp [go_sem, C2f1, C2z]; done) | (simp [go_sem, C0c0, C0c1, C0f0, C0f1, C0z, C1c0, C1c1, C1f0, C1f1, C1z, C2c0, C2c1, C2f0, C2f1, C2z, C3c0, C3c1, C3f0, C3f1, C3z]; done)) (by first | assumption | omega | (simp; done) | (simp; omega))
  have D1 := box2 h4 (w2.heap.size) (.int .i64 x1) (.int .u64 x0) (by first | assumption | (refine (Below.cell ?_ C3z).trans C3c0; go_grown; done) | (simp [go_sem, C3c0]; done) | (simp [go_sem, C3c0, C3z]; done) | (simp [go_sem, C0c0, C0c1, C0f0, C0f1, C0z, C1c0, C1c1, C1f0, C1f1, C1z, C2c0, C2c1, C2f0, C2f1, C2z, C3c0, C3c1, C3f0, C3f1, C3z]; done)) (by first | assumption | (refine (Below.cell ?_ C3z).trans C3c1; go_grown; done) | (simp [go_sem, C3c1]; done) | (simp [go_sem, C3c1, C3z]; done) | (simp [go_sem, C0c0, C0c1, C0f0, C0f1, C0z, C1c0, C1c1, C1f0, C1f1, C1z, C2c0, C2c1, C2f0, C2f1, C2z, C3c0, C3c1, C3f0, C3f1, C3z]; done)) (by first | assumption | (refine (Below.frozen ?_ C3z).trans C3f0; go_grown; done) | (simp [go_sem, C3f0]; done) | (simp [go_sem, C3f0, C3z]; done) | (simp [go_sem, C0c0, C0c1, C0f0, C0f1, C0z, C1c0, C1c1, C1f0, C1f1, C1z, C2c0, C2c1, C2f0, C2f1, C2z, C3c0, C3c1, C3f0, C3f1, C3z]; done)) (by first | assumption | (refine (Below.frozen ?_ C3z).trans C3f1; go_grown; done) | (simp [go_sem, C3f1]; done) | (simp [go_sem, C3f1, C3z]; done) | (simp [go_sem, C0c0, C0c1, C0f0, C0f1, C0z, C1c0, C1c1, C1f0, C1f1, C1z, C2c0, C2c1, C2f0, C2f1, C2z, C3c0, C3c1, C3f0, C3f1, C3z]; done)) (by first | assumption | omega | (simp; done) | (simp; omega))
  have D2 := box2 h4 (w3.heap.size) (.int .i64 t1) (.int .u64 t0) (by first | assumption | (simp [go_sem]; done) | (simp [go_sem, C0c0, C0c1, C0f0, C0f1, C0z, C1c0, C1c1, C1f0, C1f1, C1z, C2c0, C2c1, C2f0, C2f1, C2z, C3c0, C3c1, C3f0, C3f1, C3z]; done)) (by first | assumption | (simp [go_sem]; done) | (simp [go_sem, C0c0, C0c1, C0f0, C0f1, C0z, C1c0, C1c1, C1f0, C1f1, C1z, C2c0, C2c1, C2f0, C2f1, C2z, C3c0, C3c1, C3f0, C3f1, C3z]; done)) (by first | assumption | (simp [go_sem]; done) | (simp [go_sem, C0c0, C0c1, C0f0, C0f1, C0z, C1c0, C1c1, C1f0, C1f1, C1z, C2c0, C2c1, C2f0, C2f1, C2z, C3c0, C3c1, C3f0, C3f1, C3z]; done)) (by first | assumption | (simp [go_sem]; done) | (simp [go_sem, C0c0, C0c1, C0f0, C0f1, C0z, C1c0, C1c1, C1f0, C1f1, C1z, C2c0, C2c1, C2f0, C2f1, C2z, C3c0, C3c1, C3f0, C3f1, C3z]; done)) (by first | assumption | omega | (simp; done) | (simp; omega))
  clear C0c0 C0c1 C0f0 C0f1 C0z C1c0 C1c1 C1f0 C1f1 C1z C2c0 C2c1 C2f0 C2f1 C2z C3c0 C3c1 C3f0 C3f1 C3z
  obtain ⟨D0c0, D0c1, D0f0, D0f1, D0z⟩ := D0
  obtain ⟨D1c0, D1c1, D1f0, D1f1, D1z⟩ := D1
  obtain ⟨D2c0, D2c1, D2f0, D2f1, D2z⟩ := D2
  clear h4 k4 B3
  go_wp2_with fail
  refine (k0 _).mono ?_
  rintro e w5 ⟨rfl, h5⟩
  have B5 : Below w.heap.size w w5 := Below.trans (by go_grown) (h5.mono (by first | (simp; done) | omega | (simp; omega)))
  have y5 := B5.size
  clear D0c0 D0c1 D0f0 D0f1 D0z D1c0 D1c1 D1f0 D1f1 D1z D2c0 D2c1 D2f0 D2f1 D2z
  clear h5 k0 B4
  go_wp2_with fail
  go_returns
  exact ⟨rfl, by go_grown⟩
theorem law_WideAdds (a0 b0 a1 b1 : Int) (wa0 : (Lit.int .i64 a0).wf = true) (wb0 : (Lit.int .u64 b0).wf = true) (wa1 : (Lit.int .i64 a1).wf = true) (wb1 : (Lit.int .u64 b1).wf = true) (w : World) :
    Calls Try.prog 4 #[.agg #[.int .i64 a0, .int .u64 b0], .agg #[.int .i64 a1, .int .u64 b1]] w fun e w' => e = .returned (.bool true) ∧ Below w.heap.size w w' := by
  have i : IsW (a0, b0) := ⟨hi_of_wf wa0, lo_of_wf wb0⟩
  have j : IsW (a1, b1) := ⟨hi_of_wf wa1, lo_of_wf wb1⟩
  exact adds_walk a0 b0 a1 b1 _ _ _ _ _ _ alive_ok (add_spec a0 b0 a1 b1 i j) (radd_spec a0 b0 a1 b1 i j) (sub_spec a0 b0 a1 b1 i j) (rsub_spec a0 b0 a1 b1 i j) w
end Go.Proofs.Ythcgkpmlfbjagaa
