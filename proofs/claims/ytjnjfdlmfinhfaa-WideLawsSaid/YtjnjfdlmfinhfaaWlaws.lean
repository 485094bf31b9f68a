/- WideLaws: sums and products in any order; a product with a sum. -/
import Derived.Test.YtjnjfdlmfinhfaaWalive
namespace Go.Proofs.Ytjnjfdlmfinhfaa
set_option linter.unusedVariables false
open Go.RowKit W
set_option maxHeartbeats 8000000 in
theorem laws_00 (a1 a0 b1 b0 c1 c0 x1 x0 p1 p0 s1 s0 t1 t0 r1 r0 u1 u0 z1 z0 ee g i j kk l m : Int) (k0 : ∀ w, Calls Try.prog 27 #[] w fun e w' => e = .returned (.bool true) ∧ Below w.heap.size w w')
    (k1 : ∀ w, Calls Try.prog 28 #[.agg #[.int .i64 a1, .int .u64 a0], .agg #[.int .i64 b1, .int .u64 b0]] w fun e w' => e = .returned (.tuple #[.agg #[.int .i64 x1, .int .u64 x0], .int .i64 ee]) ∧ Below w.heap.size w w')
    (k2 : ∀ w, Calls Try.prog 28 #[.agg #[.int .i64 b1, .int .u64 b0], .agg #[.int .i64 a1, .int .u64 a0]] w fun e w' => e = .returned (.tuple #[.agg #[.int .i64 x1, .int .u64 x0], .int .i64 ee]) ∧ Below w.heap.size w w')
    (k3 : ∀ w, Calls Try.prog 32 #[.agg #[.int .i64 a1, .int .u64 a0], .agg #[.int .i64 b1, .int .u64 b0]] w fun e w' => e = .returned (.tuple #[.agg #[.int .i64 p1, .int .u64 p0], .int .i64 g]) ∧ Below w.heap.size w w')
    (k4 : ∀ w, Calls Try.prog 32 #[.agg #[.int .i64 b1, .int .u64 b0], .agg #[.int .i64 a1, .int .u64 a0]] w fun e w' => e = .returned (.tuple #[.agg #[.int .i64 p1, .int .u64 p0], .int .i64 g]) ∧ Below w.heap.size w w')
    (k5 : ∀ w, Calls Try.prog 28 #[.agg #[.int .i64 b1, .int .u64 b0], .agg #[.int .i64 c1, .int .u64 c0]] w fun e w' => e = .returned (.tuple #[.agg #[.int .i64 s1, .int .u64 s0], .int .i64 i]) ∧ Below w.heap.size w w')
    (k6 : ∀ w, Calls Try.prog 32 #[.agg #[.int .i64 a1, .int .u64 a0], .agg #[.int .i64 s1, .int .u64 s0]] w fun e w' => e = .returned (.tuple #[.agg #[.int .i64 t1, .int .u64 t0], .int .i64 j]) ∧ Below w.heap.size w w')
    (k7 : ∀ w, Calls Try.prog 32 #[.agg #[.int .i64 a1, .int .u64 a0], .agg #[.int .i64 c1, .int .u64 c0]] w fun e w' => e = .returned (.tuple #[.agg #[.int .i64 r1, .int .u64 r0], .int .i64 kk]) ∧ Below w.heap.size w w')
    (k8 : ∀ w, Calls Try.prog 28 #[.agg #[.int .i64 p1, .int .u64 p0], .agg #[.int .i64 r1, .int .u64 r0]] w fun e w' => e = .returned (.tuple #[.agg #[.int .i64 u1, .int .u64 u0], .int .i64 l]) ∧ Below w.heap.size w w')
    (k9 : ∀ w, Calls Try.prog 30 #[.agg #[.int .i64 x1, .int .u64 x0], .agg #[.int .i64 b1, .int .u64 b0]] w fun e w' => e = .returned (.tuple #[.agg #[.int .i64 z1, .int .u64 z0], .int .i64 m]) ∧ Below w.heap.size w w')
    (n1 : ¬ ee = 0) (n2 : ¬ (i = 0 ∧ j = 0 ∧ g = 0 ∧ kk = 0)) (w : World) :
    Calls Try.prog 12 #[.agg #[.int .i64 a1, .int .u64 a0], .agg #[.int .i64 b1, .int .u64 b0], .agg #[.int .i64 c1, .int .u64 c0]] w fun e w' => e = .returned (.bool true) ∧ Below w.heap.size w w' := by
  go_enter Try.func12, Try.ntmps12
  go_wp2_with fail
  refine (k0 _).mono ?_
  rintro e w1 ⟨rfl, h1⟩
  obtain ⟨kA0, fA0, zA0⟩ := live (.int .i64 a1) h1 (w.heap.size) 0 (by first | assumption | (simp; done) | omega | (simp; omega)) (by first | assumption | simp [go_sem]) (by first | assumption | simp [go_sem])
  obtain ⟨kA1, fA1, zA1⟩ := live (.int .u64 a0) h1 (w.heap.size) 1 (by first | assumption | (simp; done) | omega | (simp; omega)) (by first | assumption | simp [go_sem]) (by first | assumption | simp [go_sem])
  obtain ⟨kA2, fA2, zA2⟩ := live (.int .i64 b1) h1 (w.heap.size + 1) 0 (by first | assumption | (simp; done) | omega | (simp; omega)) (by first | assumption | simp [go_sem]) (by first | assumption | simp [go_sem])
  obtain ⟨kA3, fA3, zA3⟩ := live (.int .u64 b0) h1 (w.heap.size + 1) 1 (by first | assumption | (simp; done) | omega | (simp; omega)) (by first | assumption | simp [go_sem]) (by first | assumption | simp [go_sem])
  obtain ⟨kA4, fA4, zA4⟩ := live (.int .i64 c1) h1 (w.heap.size + 1 + 1) 0 (by first | assumption | (simp; done) | omega | (simp; omega)) (by first | assumption | simp [go_sem]) (by first | assumption | simp [go_sem])
  obtain ⟨kA5, fA5, zA5⟩ := live (.int .u64 c0) h1 (w.heap.size + 1 + 1) 1 (by first | assumption | (simp; done) | omega | (simp; omega)) (by first | assumption | simp [go_sem]) (by first | assumption | simp [go_sem])
  have B1 : Below w.heap.size w w1 := Below.trans (by go_grown) (h1.mono (by simp; try omega))
  have y1 := B1.size
  clear h1
  go_wp2_with fail
  refine (k1 _).mono ?_
  rintro e w2 ⟨rfl, h2⟩
  obtain ⟨kB0, fB0, zB0⟩ := live (.int .i64 a1) h2 (w.heap.size) 0 (by first | assumption | (simp; done) | omega | (simp; omega)) (by first | assumption | simp [go_sem, kA0, zA0]) (by first | assumption | simp [go_sem, fA0, zA0])
  obtain ⟨kB1, fB1, zB1⟩ := live (.int .u64 a0) h2 (w.heap.size) 1 (by first | assumption | (simp; done) | omega | (simp; omega)) (by first | assumption | simp [go_sem, kA1, zA1]) (by first | assumption | simp [go_sem, fA1, zA1])
  obtain ⟨kB2, fB2, zB2⟩ := live (.int .i64 b1) h2 (w.heap.size + 1) 0 (by first | assumption | (simp; done) | omega | (simp; omega)) (by first | assumption | simp [go_sem, kA2, zA2]) (by first | assumption | simp [go_sem, fA2, zA2])
  obtain ⟨kB3, fB3, zB3⟩ := live (.int .u64 b0) h2 (w.heap.size + 1) 1 (by first | assumption | (simp; done) | omega | (simp; omega)) (by first | assumption | simp [go_sem, kA3, zA3]) (by first | assumption | simp [go_sem, fA3, zA3])
  obtain ⟨kB4, fB4, zB4⟩ := live (.int .i64 c1) h2 (w.heap.size + 1 + 1) 0 (by first | assumption | (simp; done) | omega | (simp; omega)) (by first | assumption | simp [go_sem, kA4, zA4]) (by first | assumption | simp [go_sem, fA4, zA4])
  obtain ⟨kB5, fB5, zB5⟩ := live (.int .u64 c0) h2 (w.heap.size + 1 + 1) 1 (by first | assumption | (simp; done) | omega | (simp; omega)) (by first | assumption | simp [go_sem, kA5, zA5]) (by first | assumption | simp [go_sem, fA5, zA5])
  have B2 : Below w.heap.size w w2 := Below.trans (by go_grown) (h2.mono (by first | (simp; done) | omega | (simp; omega)))
  have y2 := B2.size
  clear h2 B1 kA0 kA1 fA0 fA1 kA2 kA3 fA2 fA3 kA4 kA5 fA4 fA5
  go_wp2_with fail
  refine (k2 _).mono ?_
  rintro e w3 ⟨rfl, h3⟩
  obtain ⟨kC0, fC0, zC0⟩ := live (.int .i64 a1) h3 (w.heap.size) 0 (by first | assumption | (simp; done) | omega | (simp; omega)) (by first | assumption | simp [go_sem, kB0, zB0]) (by first | assumption | simp [go_sem, fB0, zB0])
  obtain ⟨kC1, fC1, zC1⟩ := live (.int .u64 a0) h3 (w.heap.size) 1 (by first | assumption | (simp; done) | omega | (simp; omega)) (by first | assumption | simp [go_sem, kB1, zB1]) (by first | assumption | simp [go_sem, fB1, zB1])
  obtain ⟨kC2, fC2, zC2⟩ := live (.int .i64 b1) h3 (w.heap.size + 1) 0 (by first | assumption | (simp; done) | omega | (simp; omega)) (by first | assumption | simp [go_sem, kB2, zB2]) (by first | assumption | simp [go_sem, fB2, zB2])
  obtain ⟨kC3, fC3, zC3⟩ := live (.int .u64 b0) h3 (w.heap.size + 1) 1 (by first | assumption | (simp; done) | omega | (simp; omega)) (by first | assumption | simp [go_sem, kB3, zB3]) (by first | assumption | simp [go_sem, fB3, zB3])
  obtain ⟨kC4, fC4, zC4⟩ := live (.int .i64 c1) h3 (w.heap.size + 1 + 1) 0 (by first | assumption | (simp; done) | omega | (simp; omega)) (by first | assumption | simp [go_sem, kB4, zB4]) (by first | assumption | simp [go_sem, fB4, zB4])
  obtain ⟨kC5, fC5, zC5⟩ := live (.int .u64 c0) h3 (w.heap.size + 1 + 1) 1 (by first | assumption | (simp; done) | omega | (simp; omega)) (by first | assumption | simp [go_sem, kB5, zB5]) (by first | assumption | simp [go_sem, fB5, zB5])
  obtain ⟨kC6, fC6, zC6⟩ := live (.int .i64 x1) h3 (w2.heap.size) 0 (by first | assumption | (simp; done) | omega | (simp; omega)) (by first | assumption | simp [go_sem]) (by first | assumption | simp [go_sem])
  obtain ⟨kC7, fC7, zC7⟩ := live (.int .u64 x0) h3 (w2.heap.size) 1 (by first | assumption | (simp; done) | omega | (simp; omega)) (by first | assumption | simp [go_sem]) (by first | assumption | simp [go_sem])
  have B3 : Below w.heap.size w w3 := Below.trans (by go_grown) (h3.mono (by first | (simp; done) | omega | (simp; omega)))
  have y3 := B3.size
  clear h3 B2 kB0 kB1 fB0 fB1 kB2 kB3 fB2 fB3 kB4 kB5 fB4 fB5
  go_wp2_with fail
  refine (k3 _).mono ?_
  rintro e w4 ⟨rfl, h4⟩
  obtain ⟨kD0, fD0, zD0⟩ := live (.int .i64 a1) h4 (w.heap.size) 0 (by first | assumption | (simp; done) | omega | (simp; omega)) (by first | assumption | simp [go_sem, kC0, zC0]) (by first | assumption | simp [go_sem, fC0, zC0])
  obtain ⟨kD1, fD1, zD1⟩ := live (.int .u64 a0) h4 (w.heap.size) 1 (by first | assumption | (simp; done) | omega | (simp; omega)) (by first | assumption | simp [go_sem, kC1, zC1]) (by first | assumption | simp [go_sem, fC1, zC1])
  obtain ⟨kD2, fD2, zD2⟩ := live (.int .i64 b1) h4 (w.heap.size + 1) 0 (by first | assumption | (simp; done) | omega | (simp; omega)) (by first | assumption | simp [go_sem, kC2, zC2]) (by first | assumption | simp [go_sem, fC2, zC2])
  obtain ⟨kD3, fD3, zD3⟩ := live (.int .u64 b0) h4 (w.heap.size + 1) 1 (by first | assumption | (simp; done) | omega | (simp; omega)) (by first | assumption | simp [go_sem, kC3, zC3]) (by first | assumption | simp [go_sem, fC3, zC3])
  obtain ⟨kD4, fD4, zD4⟩ := live (.int .i64 c1) h4 (w.heap.size + 1 + 1) 0 (by first | assumption | (simp; done) | omega | (simp; omega)) (by first | assumption | simp [go_sem, kC4, zC4]) (by first | assumption | simp [go_sem, fC4, zC4])
  obtain ⟨kD5, fD5, zD5⟩ := live (.int .u64 c0) h4 (w.heap.size + 1 + 1) 1 (by first | assumption | (simp; done) | omega | (simp; omega)) (by first | assumption | simp [go_sem, kC5, zC5]) (by first | assumption | simp [go_sem, fC5, zC5])
  obtain ⟨kD6, fD6, zD6⟩ := live (.int .i64 x1) h4 (w2.heap.size) 0 (by first | assumption | (simp; done) | omega | (simp; omega)) (by first | assumption | simp [go_sem, kC6, zC6]) (by first | assumption | simp [go_sem, fC6, zC6])
  obtain ⟨kD7, fD7, zD7⟩ := live (.int .u64 x0) h4 (w2.heap.size) 1 (by first | assumption | (simp; done) | omega | (simp; omega)) (by first | assumption | simp [go_sem, kC7, zC7]) (by first | assumption | simp [go_sem, fC7, zC7])
  obtain ⟨kD8, fD8, zD8⟩ := live (.int .i64 x1) h4 (w3.heap.size) 0 (by first | assumption | (simp; done) | omega | (simp; omega)) (by first | assumption | simp [go_sem]) (by first | assumption | simp [go_sem])
  obtain ⟨kD9, fD9, zD9⟩ := live (.int .u64 x0) h4 (w3.heap.size) 1 (by first | assumption | (simp; done) | omega | (simp; omega)) (by first | assumption | simp [go_sem]) (by first | assumption | simp [go_sem])
  have B4 : Below w.heap.size w w4 := Below.trans (by go_grown) (h4.mono (by first | (simp; done) | omega | (simp; omega)))
  have y4 := B4.size
  clear h4 B3 kC0 kC1 fC0 fC1 kC2 kC3 fC2 fC3 kC4 kC5 fC4 fC5 kC6 kC7 fC6 fC7
  go_wp2_with fail
  refine (k4 _).mono ?_
  rintro e w5 ⟨rfl, h5⟩
  obtain ⟨kE0, fE0, zE0⟩ := live (.int .i64 a1) h5 (w.heap.size) 0 (by first | assumption | (simp; done) | omega | (simp; omega)) (by first | assumption | simp [go_sem, kD0, zD0]) (by first | assumption | simp [go_sem, fD0, zD0])
  obtain ⟨kE1, fE1, zE1⟩ := live (.int .u64 a0) h5 (w.heap.size) 1 (by first | assumption | (simp; done) | omega | (simp; omega)) (by first | assumption | simp [go_sem, kD1, zD1]) (by first | assumption | simp [go_sem, fD1, zD1])
  obtain ⟨kE2, fE2, zE2⟩ := live (.int .i64 b1) h5 (w.heap.size + 1) 0 (by first | assumption | (simp; done) | omega | (simp; omega)) (by first | assumption | simp [go_sem, kD2, zD2]) (by first | assumption | simp [go_sem, fD2, zD2])
  obtain ⟨kE3, fE3, zE3⟩ := live (.int .u64 b0) h5 (w.heap.size + 1) 1 (by first | assumption | (simp; done) | omega | (simp; omega)) (by first | assumption | simp [go_sem, kD3, zD3]) (by first | assumption | simp [go_sem, fD3, zD3])
  obtain ⟨kE4, fE4, zE4⟩ := live (.int .i64 c1) h5 (w.heap.size + 1 + 1) 0 (by first | assumption | (simp; done) | omega | (simp; omega)) (by first | assumption | simp [go_sem, kD4, zD4]) (by first | assumption | simp [go_sem, fD4, zD4])
  obtain ⟨kE5, fE5, zE5⟩ := live (.int .u64 c0) h5 (w.heap.size + 1 + 1) 1 (by first | assumption | (simp; done) | omega | (simp; omega)) (by first | assumption | simp [go_sem, kD5, zD5]) (by first | assumption | simp [go_sem, fD5, zD5])
  obtain ⟨kE6, fE6, zE6⟩ := live (.int .i64 x1) h5 (w2.heap.size) 0 (by first | assumption | (simp; done) | omega | (simp; omega)) (by first | assumption | simp [go_sem, kD6, zD6]) (by first | assumption | simp [go_sem, fD6, zD6])
  obtain ⟨kE7, fE7, zE7⟩ := live (.int .u64 x0) h5 (w2.heap.size) 1 (by first | assumption | (simp; done) | omega | (simp; omega)) (by first | assumption | simp [go_sem, kD7, zD7]) (by first | assumption | simp [go_sem, fD7, zD7])
  obtain ⟨kE8, fE8, zE8⟩ := live (.int .i64 x1) h5 (w3.heap.size) 0 (by first | assumption | (simp; done) | omega | (simp; omega)) (by first | assumption | simp [go_sem, kD8, zD8]) (by first | assumption | simp [go_sem, fD8, zD8])
  obtain ⟨kE9, fE9, zE9⟩ := live (.int .u64 x0) h5 (w3.heap.size) 1 (by first | assumption | (simp; done) | omega | (simp; omega)) (by first | assumption | simp [go_sem, kD9, zD9]) (by first | assumption | simp [go_sem, fD9, zD9])
  obtain ⟨kE10, fE10, zE10⟩ := live (.int .i64 p1) h5 (w4.heap.size) 0 (by first | assumption | (simp; done) | omega | (simp; omega)) (by first | assumption | simp [go_sem]) (by first | assumption | simp [go_sem])
  obtain ⟨kE11, fE11, zE11⟩ := live (.int .u64 p0) h5 (w4.heap.size) 1 (by first | assumption | (simp; done) | omega | (simp; omega)) (by first | assumption | simp [go_sem]) (by first | assumption | simp [go_sem])
  have B5 : Below w.heap.size w w5 := Below.trans (by go_grown) (h5.mono (by first | (simp; done) | omega | (simp; omega)))
  have y5 := B5.size
  clear h5 B4 kD0 kD1 fD0 fD1 kD2 kD3 fD2 fD3 kD4 kD5 fD4 fD5 kD6 kD7 fD6 fD7 kD8 kD9 fD8 fD9
  go_wp2_with fail
  refine (k5 _).mono ?_
  rintro e w6 ⟨rfl, h6⟩
  obtain ⟨kF0, fF0, zF0⟩ := live (.int .i64 a1) h6 (w.heap.size) 0 (by first | assumption | (simp; done) | omega | (simp; omega)) (by first | assumption | simp [go_sem, kE0, zE0]) (by first | assumption | simp [go_sem, fE0, zE0])
  obtain ⟨kF1, fF1, zF1⟩ := live (.int .u64 a0) h6 (w.heap.size) 1 (by first | assumption | (simp; done) | omega | (simp; omega)) (by first | assumption | simp [go_sem, kE1, zE1]) (by first | assumption | simp [go_sem, fE1, zE1])
  obtain ⟨kF2, fF2, zF2⟩ := live (.int .i64 b1) h6 (w.heap.size + 1) 0 (by first | assumption | (simp; done) | omega | (simp; omega)) (by first | assumption | simp [go_sem, kE2, zE2]) (by first | assumption | simp [go_sem, fE2, zE2])
  obtain ⟨kF3, fF3, zF3⟩ := live (.int .u64 b0) h6 (w.heap.size + 1) 1 (by first | assumption | (simp; done) | omega | (simp; omega)) (by first | assumption | simp [go_sem, kE3, zE3]) (by first | assumption | simp [go_sem, fE3, zE3])
  obtain ⟨kF4, fF4, zF4⟩ := live (.int .i64 c1) h6 (w.heap.size + 1 + 1) 0 (by first | assumption | (simp; done) | omega | (simp; omega)) (by first | assumption | simp [go_sem, kE4, zE4]) (by first | assumption | simp [go_sem, fE4, zE4])
  obtain ⟨kF5, fF5, zF5⟩ := live (.int .u64 c0) h6 (w.heap.size + 1 + 1) 1 (by first | assumption | (simp; done) | omega | (simp; omega)) (by first | assumption | simp [go_sem, kE5, zE5]) (by first | assumption | simp [go_sem, fE5, zE5])
  obtain ⟨kF6, fF6, zF6⟩ := live (.int .i64 x1) h6 (w2.heap.size) 0 (by first | assumption | (simp; done) | omega | (simp; omega)) (by first | assumption | simp [go_sem, kE6, zE6]) (by first | assumption | simp [go_sem, fE6, zE6])
  obtain ⟨kF7, fF7, zF7⟩ := live (.int .u64 x0) h6 (w2.heap.size) 1 (by first | assumption | (simp; done) | omega | (simp; omega)) (by first | assumption | simp [go_sem, kE7, zE7]) (by first | assumption | simp [go_sem, fE7, zE7])
  obtain ⟨kF8, fF8, zF8⟩ := live (.int .i64 p1) h6 (w4.heap.size) 0 (by first | assumption | (simp; done) | omega | (simp; omega)) (by first | assumption | simp [go_sem, kE10, zE10]) (by first | assumption | simp [go_sem, fE10, zE10])
  obtain ⟨kF9, fF9, zF9⟩ := live (.int .u64 p0) h6 (w4.heap.size) 1 (by first | assumption | (simp; done) | omega | (simp; omega)) (by first | assumption | simp [go_sem, kE11, zE11]) (by first | assumption | simp [go_sem, fE11, zE11])
  have B6 : Below w.heap.size w w6 := Below.trans (by go_grown) (h6.mono (by first | (simp; done) | omega | (simp; omega)))
  have y6 := B6.size
  clear h6 B5 kE0 kE1 fE0 fE1 kE2 kE3 fE2 fE3 kE4 kE5 fE4 fE5 kE6 kE7 fE6 fE7 kE8 kE9 fE8 fE9 kE10 kE11 fE10 fE11
  go_wp2_with fail
  refine (k6 _).mono ?_
  rintro e w7 ⟨rfl, h7⟩
  obtain ⟨kG0, fG0, zG0⟩ := live (.int .i64 a1) h7 (w.heap.size) 0 (by first | assumption | (simp; done) | omega | (simp; omega)) (by first | assumption | simp [go_sem, kF0, zF0]) (by first | assumption | simp [go_sem, fF0, zF0])
  obtain ⟨kG1, fG1, zG1⟩ := live (.int .u64 a0) h7 (w.heap.size) 1 (by first | assumption | (simp; done) | omega | (simp; omega)) (by first | assumption | simp [go_sem, kF1, zF1]) (by first | assumption | simp [go_sem, fF1, zF1])
  obtain ⟨kG2, fG2, zG2⟩ := live (.int .i64 b1) h7 (w.heap.size + 1) 0 (by first | assumption | (simp; done) | omega | (simp; omega)) (by first | assumption | simp [go_sem, kF2, zF2]) (by first | assumption | simp [go_sem, fF2, zF2])
  obtain ⟨kG3, fG3, zG3⟩ := live (.int .u64 b0) h7 (w.heap.size + 1) 1 (by first | assumption | (simp; done) | omega | (simp; omega)) (by first | assumption | simp [go_sem, kF3, zF3]) (by first | assumption | simp [go_sem, fF3, zF3])
  obtain ⟨kG4, fG4, zG4⟩ := live (.int .i64 c1) h7 (w.heap.size + 1 + 1) 0 (by first | assumption | (simp; done) | omega | (simp; omega)) (by first | assumption | simp [go_sem, kF4, zF4]) (by first | assumption | simp [go_sem, fF4, zF4])
  obtain ⟨kG5, fG5, zG5⟩ := live (.int .u64 c0) h7 (w.heap.size + 1 + 1) 1 (by first | assumption | (simp; done) | omega | (simp; omega)) (by first | assumption | simp [go_sem, kF5, zF5]) (by first | assumption | simp [go_sem, fF5, zF5])
  obtain ⟨kG6, fG6, zG6⟩ := live (.int .i64 x1) h7 (w2.heap.size) 0 (by first | assumption | (simp; done) | omega | (simp; omega)) (by first | assumption | simp [go_sem, kF6, zF6]) (by first | assumption | simp [go_sem, fF6, zF6])
  obtain ⟨kG7, fG7, zG7⟩ := live (.int .u64 x0) h7 (w2.heap.size) 1 (by first | assumption | (simp; done) | omega | (simp; omega)) (by first | assumption | simp [go_sem, kF7, zF7]) (by first | assumption | simp [go_sem, fF7, zF7])
  obtain ⟨kG8, fG8, zG8⟩ := live (.int .i64 p1) h7 (w4.heap.size) 0 (by first | assumption | (simp; done) | omega | (simp; omega)) (by first | assumption | simp [go_sem, kF8, zF8]) (by first | assumption | simp [go_sem, fF8, zF8])
  obtain ⟨kG9, fG9, zG9⟩ := live (.int .u64 p0) h7 (w4.heap.size) 1 (by first | assumption | (simp; done) | omega | (simp; omega)) (by first | assumption | simp [go_sem, kF9, zF9]) (by first | assumption | simp [go_sem, fF9, zF9])
  have B7 : Below w.heap.size w w7 := Below.trans (by go_grown) (h7.mono (by first | (simp; done) | omega | (simp; omega)))
  have y7 := B7.size
  clear h7 B6 kF0 kF1 fF0 fF1 kF2 kF3 fF2 fF3 kF4 kF5 fF4 fF5 kF6 kF7 fF6 fF7 kF8 kF9 fF8 fF9
  go_wp2_with fail
  refine (k7 _).mono ?_
  rintro e w8 ⟨rfl, h8⟩
  obtain ⟨kH0, fH0, zH0⟩ := live (.int .i64 a1) h8 (w.heap.size) 0 (by first | assumption | (simp; done) | omega | (simp; omega)) (by first | assumption | simp [go_sem, kG0, zG0]) (by first | assumption | simp [go_sem, fG0, zG0])
  obtain ⟨kH1, fH1, zH1⟩ := live (.int .u64 a0) h8 (w.heap.size) 1 (by first | assumption | (simp; done) | omega | (simp; omega)) (by first | assumption | simp [go_sem, kG1, zG1]) (by first | assumption | simp [go_sem, fG1, zG1])
  obtain ⟨kH2, fH2, zH2⟩ := live (.int .i64 b1) h8 (w.heap.size + 1) 0 (by first | assumption | (simp; done) | omega | (simp; omega)) (by first | assumption | simp [go_sem, kG2, zG2]) (by first | assumption | simp [go_sem, fG2, zG2])
  obtain ⟨kH3, fH3, zH3⟩ := live (.int .u64 b0) h8 (w.heap.size + 1) 1 (by first | assumption | (simp; done) | omega | (simp; omega)) (by first | assumption | simp [go_sem, kG3, zG3]) (by first | assumption | simp [go_sem, fG3, zG3])
  obtain ⟨kH4, fH4, zH4⟩ := live (.int .i64 x1) h8 (w2.heap.size) 0 (by first | assumption | (simp; done) | omega | (simp; omega)) (by first | assumption | simp [go_sem, kG6, zG6]) (by first | assumption | simp [go_sem, fG6, zG6])
  obtain ⟨kH5, fH5, zH5⟩ := live (.int .u64 x0) h8 (w2.heap.size) 1 (by first | assumption | (simp; done) | omega | (simp; omega)) (by first | assumption | simp [go_sem, kG7, zG7]) (by first | assumption | simp [go_sem, fG7, zG7])
  obtain ⟨kH6, fH6, zH6⟩ := live (.int .i64 p1) h8 (w4.heap.size) 0 (by first | assumption | (simp; done) | omega | (simp; omega)) (by first | assumption | simp [go_sem, kG8, zG8]) (by first | assumption | simp [go_sem, fG8, zG8])
  obtain ⟨kH7, fH7, zH7⟩ := live (.int .u64 p0) h8 (w4.heap.size) 1 (by first | assumption | (simp; done) | omega | (simp; omega)) (by first | assumption | simp [go_sem, kG9, zG9]) (by first | assumption | simp [go_sem, fG9, zG9])
  obtain ⟨kH8, fH8, zH8⟩ := live (.int .i64 t1) h8 (w7.heap.size) 0 (by first | assumption | (simp; done) | omega | (simp; omega)) (by first | assumption | simp [go_sem]) (by first | assumption | simp [go_sem])
  obtain ⟨kH9, fH9, zH9⟩ := live (.int .u64 t0) h8 (w7.heap.size) 1 (by first | assumption | (simp; done) | omega | (simp; omega)) (by first | assumption | simp [go_sem]) (by first | assumption | simp [go_sem])
  have B8 : Below w.heap.size w w8 := Below.trans (by go_grown) (h8.mono (by first | (simp; done) | omega | (simp; omega)))
  have y8 := B8.size
  clear h8 B7 kG0 kG1 fG0 fG1 kG2 kG3 fG2 fG3 kG4 kG5 fG4 fG5 kG6 kG7 fG6 fG7 kG8 kG9 fG8 fG9
  go_wp2_with fail
  refine (k8 _).mono ?_
  rintro e w9 ⟨rfl, h9⟩
  obtain ⟨kI0, fI0, zI0⟩ := live (.int .i64 a1) h9 (w.heap.size) 0 (by first | assumption | (simp; done) | omega | (simp; omega)) (by first | assumption | simp [go_sem, kH0, zH0]) (by first | assumption | simp [go_sem, fH0, zH0])
  obtain ⟨kI1, fI1, zI1⟩ := live (.int .u64 a0) h9 (w.heap.size) 1 (by first | assumption | (simp; done) | omega | (simp; omega)) (by first | assumption | simp [go_sem, kH1, zH1]) (by first | assumption | simp [go_sem, fH1, zH1])
  obtain ⟨kI2, fI2, zI2⟩ := live (.int .i64 b1) h9 (w.heap.size + 1) 0 (by first | assumption | (simp; done) | omega | (simp; omega)) (by first | assumption | simp [go_sem, kH2, zH2]) (by first | assumption | simp [go_sem, fH2, zH2])
  obtain ⟨kI3, fI3, zI3⟩ := live (.int .u64 b0) h9 (w.heap.size + 1) 1 (by first | assumption | (simp; done) | omega | (simp; omega)) (by first | assumption | simp [go_sem, kH3, zH3]) (by first | assumption | simp [go_sem, fH3, zH3])
  obtain ⟨kI4, fI4, zI4⟩ := live (.int .i64 x1) h9 (w2.heap.size) 0 (by first | assumption | (simp; done) | omega | (simp; omega)) (by first | assumption | simp [go_sem, kH4, zH4]) (by first | assumption | simp [go_sem, fH4, zH4])
  obtain ⟨kI5, fI5, zI5⟩ := live (.int .u64 x0) h9 (w2.heap.size) 1 (by first | assumption | (simp; done) | omega | (simp; omega)) (by first | assumption | simp [go_sem, kH5, zH5]) (by first | assumption | simp [go_sem, fH5, zH5])
  obtain ⟨kI6, fI6, zI6⟩ := live (.int .i64 t1) h9 (w7.heap.size) 0 (by first | assumption | (simp; done) | omega | (simp; omega)) (by first | assumption | simp [go_sem, kH8, zH8]) (by first | assumption | simp [go_sem, fH8, zH8])
  obtain ⟨kI7, fI7, zI7⟩ := live (.int .u64 t0) h9 (w7.heap.size) 1 (by first | assumption | (simp; done) | omega | (simp; omega)) (by first | assumption | simp [go_sem, kH9, zH9]) (by first | assumption | simp [go_sem, fH9, zH9])
  have B9 : Below w.heap.size w w9 := Below.trans (by go_grown) (h9.mono (by first | (simp; done) | omega | (simp; omega)))
  have y9 := B9.size
  clear h9 B8 kH0 kH1 fH0 fH1 kH2 kH3 fH2 fH3 kH4 kH5 fH4 fH5 kH6 kH7 fH6 fH7 kH8 kH9 fH8 fH9
  go_wp2_with fail
  all_goals
    refine (k9 _).mono ?_
    rintro e w10 ⟨rfl, h10⟩
    obtain ⟨kJ0, fJ0, zJ0⟩ := live (.int .i64 a1) h10 (w.heap.size) 0 (by first | assumption | (simp; done) | omega | (simp; omega)) (by first | assumption | simp [go_sem, kI0, zI0]) (by first | assumption | simp [go_sem, fI0, zI0])
    obtain ⟨kJ1, fJ1, zJ1⟩ := live (.int .u64 a0) h10 (w.heap.size) 1 (by first | assumption | (simp; done) | omega | (simp; omega)) (by first | assumption | simp [go_sem, kI1, zI1]) (by first | assumption | simp [go_sem, fI1, zI1])
    have B10 : Below w.heap.size w w10 := Below.trans (by go_grown) (h10.mono (by first | (simp; done) | omega | (simp; omega)))
    have y10 := B10.size
    clear h10 B9 kI0 kI1 fI0 fI1 kI2 kI3 fI2 fI3 kI4 kI5 fI4 fI5 kI6 kI7 fI6 fI7
    go_wp2_with fail
    all_goals go_returns
    all_goals exact ⟨rfl, by go_grown⟩
set_option maxHeartbeats 8000000 in
theorem laws_10 (a1 a0 b1 b0 c1 c0 x1 x0 p1 p0 s1 s0 t1 t0 r1 r0 u1 u0 g i j kk l : Int) (k0 : ∀ w, Calls Try.prog 27 #[] w fun e w' => e = .returned (.bool true) ∧ Below w.heap.size w w')
    (k1 : ∀ w, Calls Try.prog 28 #[.agg #[.int .i64 a1, .int .u64 a0], .agg #[.int .i64 b1, .int .u64 b0]] w fun e w' => e = .returned (.tuple #[.agg #[.int .i64 x1, .int .u64 x0], .int .i64 0]) ∧ Below w.heap.size w w')
    (k2 : ∀ w, Calls Try.prog 28 #[.agg #[.int .i64 b1, .int .u64 b0], .agg #[.int .i64 a1, .int .u64 a0]] w fun e w' => e = .returned (.tuple #[.agg #[.int .i64 x1, .int .u64 x0], .int .i64 0]) ∧ Below w.heap.size w w')
    (k3 : ∀ w, Calls Try.prog 32 #[.agg #[.int .i64 a1, .int .u64 a0], .agg #[.int .i64 b1, .int .u64 b0]] w fun e w' => e = .returned (.tuple #[.agg #[.int .i64 p1, .int .u64 p0], .int .i64 g]) ∧ Below w.heap.size w w')
    (k4 : ∀ w, Calls Try.prog 32 #[.agg #[.int .i64 b1, .int .u64 b0], .agg #[.int .i64 a1, .int .u64 a0]] w fun e w' => e = .returned (.tuple #[.agg #[.int .i64 p1, .int .u64 p0], .int .i64 g]) ∧ Below w.heap.size w w')
    (k5 : ∀ w, Calls Try.prog 28 #[.agg #[.int .i64 b1, .int .u64 b0], .agg #[.int .i64 c1, .int .u64 c0]] w fun e w' => e = .returned (.tuple #[.agg #[.int .i64 s1, .int .u64 s0], .int .i64 i]) ∧ Below w.heap.size w w')
    (k6 : ∀ w, Calls Try.prog 32 #[.agg #[.int .i64 a1, .int .u64 a0], .agg #[.int .i64 s1, .int .u64 s0]] w fun e w' => e = .returned (.tuple #[.agg #[.int .i64 t1, .int .u64 t0], .int .i64 j]) ∧ Below w.heap.size w w')
    (k7 : ∀ w, Calls Try.prog 32 #[.agg #[.int .i64 a1, .int .u64 a0], .agg #[.int .i64 c1, .int .u64 c0]] w fun e w' => e = .returned (.tuple #[.agg #[.int .i64 r1, .int .u64 r0], .int .i64 kk]) ∧ Below w.heap.size w w')
    (k8 : ∀ w, Calls Try.prog 28 #[.agg #[.int .i64 p1, .int .u64 p0], .agg #[.int .i64 r1, .int .u64 r0]] w fun e w' => e = .returned (.tuple #[.agg #[.int .i64 u1, .int .u64 u0], .int .i64 l]) ∧ Below w.heap.size w w')
    (k9 : ∀ w, Calls Try.prog 30 #[.agg #[.int .i64 x1, .int .u64 x0], .agg #[.int .i64 b1, .int .u64 b0]] w fun e w' => e = .returned (.tuple #[.agg #[.int .i64 a1, .int .u64 a0], .int .i64 0]) ∧ Below w.heap.size w w')
    (n2 : ¬ (i = 0 ∧ j = 0 ∧ g = 0 ∧ kk = 0)) (w : World) :
    Calls Try.prog 12 #[.agg #[.int .i64 a1, .int .u64 a0], .agg #[.int .i64 b1, .int .u64 b0], .agg #[.int .i64 c1, .int .u64 c0]] w fun e w' => e = .returned (.bool true) ∧ Below w.heap.size w w' := by
  go_enter Try.func12, Try.ntmps12
  go_wp2_with fail
  refine (k0 _).mono ?_
  rintro e w1 ⟨rfl, h1⟩
  obtain ⟨kA0, fA0, zA0⟩ := live (.int .i64 a1) h1 (w.heap.size) 0 (by first | assumption | (simp; done) | omega | (simp; omega)) (by first | assumption | simp [go_sem]) (by first | assumption | simp [go_sem])
  obtain ⟨kA1, fA1, zA1⟩ := live (.int .u64 a0) h1 (w.heap.size) 1 (by first | assumption | (simp; done) | omega | (simp; omega)) (by first | assumption | simp [go_sem]) (by first | assumption | simp [go_sem])
  obtain ⟨kA2, fA2, zA2⟩ := live (.int .i64 b1) h1 (w.heap.size + 1) 0 (by first | assumption | (simp; done) | omega | (simp; omega)) (by first | assumption | simp [go_sem]) (by first | assumption | simp [go_sem])
  obtain ⟨kA3, fA3, zA3⟩ := live (.int .u64 b0) h1 (w.heap.size + 1) 1 (by first | assumption | (simp; done) | omega | (simp; omega)) (by first | assumption | simp [go_sem]) (by first | assumption | simp [go_sem])
  obtain ⟨kA4, fA4, zA4⟩ := live (.int .i64 c1) h1 (w.heap.size + 1 + 1) 0 (by first | assumption | (simp; done) | omega | (simp; omega)) (by first | assumption | simp [go_sem]) (by first | assumption | simp [go_sem])
  obtain ⟨kA5, fA5, zA5⟩ := live (.int .u64 c0) h1 (w.heap.size + 1 + 1) 1 (by first | assumption | (simp; done) | omega | (simp; omega)) (by first | assumption | simp [go_sem]) (by first | assumption | simp [go_sem])
  have B1 : Below w.heap.size w w1 := Below.trans (by go_grown) (h1.mono (by simp; try omega))
  have y1 := B1.size
  clear h1
  go_wp2_with fail
  refine (k1 _).mono ?_
  rintro e w2 ⟨rfl, h2⟩
  obtain ⟨kB0, fB0, zB0⟩ := live (.int .i64 a1) h2 (w.heap.size) 0 (by first | assumption | (simp; done) | omega | (simp; omega)) (by first | assumption | simp [go_sem, kA0, zA0]) (by first | assumption | simp [go_sem, fA0, zA0])
  obtain ⟨kB1, fB1, zB1⟩ := live (.int .u64 a0) h2 (w.heap.size) 1 (by first | assumption | (simp; done) | omega | (simp; omega)) (by first | assumption | simp [go_sem, kA1, zA1]) (by first | assumption | simp [go_sem, fA1, zA1])
  obtain ⟨kB2, fB2, zB2⟩ := live (.int .i64 b1) h2 (w.heap.size + 1) 0 (by first | assumption | (simp; done) | omega | (simp; omega)) (by first | assumption | simp [go_sem, kA2, zA2]) (by first | assumption | simp [go_sem, fA2, zA2])
  obtain ⟨kB3, fB3, zB3⟩ := live (.int .u64 b0) h2 (w.heap.size + 1) 1 (by first | assumption | (simp; done) | omega | (simp; omega)) (by first | assumption | simp [go_sem, kA3, zA3]) (by first | assumption | simp [go_sem, fA3, zA3])
  obtain ⟨kB4, fB4, zB4⟩ := live (.int .i64 c1) h2 (w.heap.size + 1 + 1) 0 (by first | assumption | (simp; done) | omega | (simp; omega)) (by first | assumption | simp [go_sem, kA4, zA4]) (by first | assumption | simp [go_sem, fA4, zA4])
  obtain ⟨kB5, fB5, zB5⟩ := live (.int .u64 c0) h2 (w.heap.size + 1 + 1) 1 (by first | assumption | (simp; done) | omega | (simp; omega)) (by first | assumption | simp [go_sem, kA5, zA5]) (by first | assumption | simp [go_sem, fA5, zA5])
  have B2 : Below w.heap.size w w2 := Below.trans (by go_grown) (h2.mono (by first | (simp; done) | omega | (simp; omega)))
  have y2 := B2.size
  clear h2 B1 kA0 kA1 fA0 fA1 kA2 kA3 fA2 fA3 kA4 kA5 fA4 fA5
  go_wp2_with fail
  refine (k2 _).mono ?_
  rintro e w3 ⟨rfl, h3⟩
  obtain ⟨kC0, fC0, zC0⟩ := live (.int .i64 a1) h3 (w.heap.size) 0 (by first | assumption | (simp; done) | omega | (simp; omega)) (by first | assumption | simp [go_sem, kB0, zB0]) (by first | assumption | simp [go_sem, fB0, zB0])
  obtain ⟨kC1, fC1, zC1⟩ := live (.int .u64 a0) h3 (w.heap.size) 1 (by first | assumption | (simp; done) | omega | (simp; omega)) (by first | assumption | simp [go_sem, kB1, zB1]) (by first | assumption | simp [go_sem, fB1, zB1])
  obtain ⟨kC2, fC2, zC2⟩ := live (.int .i64 b1) h3 (w.heap.size + 1) 0 (by first | assumption | (simp; done) | omega | (simp; omega)) (by first | assumption | simp [go_sem, kB2, zB2]) (by first | assumption | simp [go_sem, fB2, zB2])
  obtain ⟨kC3, fC3, zC3⟩ := live (.int .u64 b0) h3 (w.heap.size + 1) 1 (by first | assumption | (simp; done) | omega | (simp; omega)) (by first | assumption | simp [go_sem, kB3, zB3]) (by first | assumption | simp [go_sem, fB3, zB3])
  obtain ⟨kC4, fC4, zC4⟩ := live (.int .i64 c1) h3 (w.heap.size + 1 + 1) 0 (by first | assumption | (simp; done) | omega | (simp; omega)) (by first | assumption | simp [go_sem, kB4, zB4]) (by first | assumption | simp [go_sem, fB4, zB4])
  obtain ⟨kC5, fC5, zC5⟩ := live (.int .u64 c0) h3 (w.heap.size + 1 + 1) 1 (by first | assumption | (simp; done) | omega | (simp; omega)) (by first | assumption | simp [go_sem, kB5, zB5]) (by first | assumption | simp [go_sem, fB5, zB5])
  obtain ⟨kC6, fC6, zC6⟩ := live (.int .i64 x1) h3 (w2.heap.size) 0 (by first | assumption | (simp; done) | omega | (simp; omega)) (by first | assumption | simp [go_sem]) (by first | assumption | simp [go_sem])
  obtain ⟨kC7, fC7, zC7⟩ := live (.int .u64 x0) h3 (w2.heap.size) 1 (by first | assumption | (simp; done) | omega | (simp; omega)) (by first | assumption | simp [go_sem]) (by first | assumption | simp [go_sem])
  have B3 : Below w.heap.size w w3 := Below.trans (by go_grown) (h3.mono (by first | (simp; done) | omega | (simp; omega)))
  have y3 := B3.size
  clear h3 B2 kB0 kB1 fB0 fB1 kB2 kB3 fB2 fB3 kB4 kB5 fB4 fB5
  go_wp2_with fail
  refine (k3 _).mono ?_
  rintro e w4 ⟨rfl, h4⟩
  obtain ⟨kD0, fD0, zD0⟩ := live (.int .i64 a1) h4 (w.heap.size) 0 (by first | assumption | (simp; done) | omega | (simp; omega)) (by first | assumption | simp [go_sem, kC0, zC0]) (by first | assumption | simp [go_sem, fC0, zC0])
  obtain ⟨kD1, fD1, zD1⟩ := live (.int .u64 a0) h4 (w.heap.size) 1 (by first | assumption | (simp; done) | omega | (simp; omega)) (by first | assumption | simp [go_sem, kC1, zC1]) (by first | assumption | simp [go_sem, fC1, zC1])
  obtain ⟨kD2, fD2, zD2⟩ := live (.int .i64 b1) h4 (w.heap.size + 1) 0 (by first | assumption | (simp; done) | omega | (simp; omega)) (by first | assumption | simp [go_sem, kC2, zC2]) (by first | assumption | simp [go_sem, fC2, zC2])
  obtain ⟨kD3, fD3, zD3⟩ := live (.int .u64 b0) h4 (w.heap.size + 1) 1 (by first | assumption | (simp; done) | omega | (simp; omega)) (by first | assumption | simp [go_sem, kC3, zC3]) (by first | assumption | simp [go_sem, fC3, zC3])
  obtain ⟨kD4, fD4, zD4⟩ := live (.int .i64 c1) h4 (w.heap.size + 1 + 1) 0 (by first | assumption | (simp; done) | omega | (simp; omega)) (by first | assumption | simp [go_sem, kC4, zC4]) (by first | assumption | simp [go_sem, fC4, zC4])
  obtain ⟨kD5, fD5, zD5⟩ := live (.int .u64 c0) h4 (w.heap.size + 1 + 1) 1 (by first | assumption | (simp; done) | omega | (simp; omega)) (by first | assumption | simp [go_sem, kC5, zC5]) (by first | assumption | simp [go_sem, fC5, zC5])
  obtain ⟨kD6, fD6, zD6⟩ := live (.int .i64 x1) h4 (w2.heap.size) 0 (by first | assumption | (simp; done) | omega | (simp; omega)) (by first | assumption | simp [go_sem, kC6, zC6]) (by first | assumption | simp [go_sem, fC6, zC6])
  obtain ⟨kD7, fD7, zD7⟩ := live (.int .u64 x0) h4 (w2.heap.size) 1 (by first | assumption | (simp; done) | omega | (simp; omega)) (by first | assumption | simp [go_sem, kC7, zC7]) (by first | assumption | simp [go_sem, fC7, zC7])
  obtain ⟨kD8, fD8, zD8⟩ := live (.int .i64 x1) h4 (w3.heap.size) 0 (by first | assumption | (simp; done) | omega | (simp; omega)) (by first | assumption | simp [go_sem]) (by first | assumption | simp [go_sem])
  obtain ⟨kD9, fD9, zD9⟩ := live (.int .u64 x0) h4 (w3.heap.size) 1 (by first | assumption | (simp; done) | omega | (simp; omega)) (by first | assumption | simp [go_sem]) (by first | assumption | simp [go_sem])
  have B4 : Below w.heap.size w w4 := Below.trans (by go_grown) (h4.mono (by first | (simp; done) | omega | (simp; omega)))
  have y4 := B4.size
  clear h4 B3 kC0 kC1 fC0 fC1 kC2 kC3 fC2 fC3 kC4 kC5 fC4 fC5 kC6 kC7 fC6 fC7
  go_wp2_with fail
  refine (k4 _).mono ?_
  rintro e w5 ⟨rfl, h5⟩
  obtain ⟨kE0, fE0, zE0⟩ := live (.int .i64 a1) h5 (w.heap.size) 0 (by first | assumption | (simp; done) | omega | (simp; omega)) (by first | assumption | simp [go_sem, kD0, zD0]) (by first | assumption | simp [go_sem, fD0, zD0])
  obtain ⟨kE1, fE1, zE1⟩ := live (.int .u64 a0) h5 (w.heap.size) 1 (by first | assumption | (simp; done) | omega | (simp; omega)) (by first | assumption | simp [go_sem, kD1, zD1]) (by first | assumption | simp [go_sem, fD1, zD1])
  obtain ⟨kE2, fE2, zE2⟩ := live (.int .i64 b1) h5 (w.heap.size + 1) 0 (by first | assumption | (simp; done) | omega | (simp; omega)) (by first | assumption | simp [go_sem, kD2, zD2]) (by first | assumption | simp [go_sem, fD2, zD2])
  obtain ⟨kE3, fE3, zE3⟩ := live (.int .u64 b0) h5 (w.heap.size + 1) 1 (by first | assumption | (simp; done) | omega | (simp; omega)) (by first | assumption | simp [go_sem, kD3, zD3]) (by first | assumption | simp [go_sem, fD3, zD3])
  obtain ⟨kE4, fE4, zE4⟩ := live (.int .i64 c1) h5 (w.heap.size + 1 + 1) 0 (by first | assumption | (simp; done) | omega | (simp; omega)) (by first | assumption | simp [go_sem, kD4, zD4]) (by first | assumption | simp [go_sem, fD4, zD4])
  obtain ⟨kE5, fE5, zE5⟩ := live (.int .u64 c0) h5 (w.heap.size + 1 + 1) 1 (by first | assumption | (simp; done) | omega | (simp; omega)) (by first | assumption | simp [go_sem, kD5, zD5]) (by first | assumption | simp [go_sem, fD5, zD5])
  obtain ⟨kE6, fE6, zE6⟩ := live (.int .i64 x1) h5 (w2.heap.size) 0 (by first | assumption | (simp; done) | omega | (simp; omega)) (by first | assumption | simp [go_sem, kD6, zD6]) (by first | assumption | simp [go_sem, fD6, zD6])
  obtain ⟨kE7, fE7, zE7⟩ := live (.int .u64 x0) h5 (w2.heap.size) 1 (by first | assumption | (simp; done) | omega | (simp; omega)) (by first | assumption | simp [go_sem, kD7, zD7]) (by first | assumption | simp [go_sem, fD7, zD7])
  obtain ⟨kE8, fE8, zE8⟩ := live (.int .i64 x1) h5 (w3.heap.size) 0 (by first | assumption | (simp; done) | omega | (simp; omega)) (by first | assumption | simp [go_sem, kD8, zD8]) (by first | assumption | simp [go_sem, fD8, zD8])
  obtain ⟨kE9, fE9, zE9⟩ := live (.int .u64 x0) h5 (w3.heap.size) 1 (by first | assumption | (simp; done) | omega | (simp; omega)) (by first | assumption | simp [go_sem, kD9, zD9]) (by first | assumption | simp [go_sem, fD9, zD9])
  obtain ⟨kE10, fE10, zE10⟩ := live (.int .i64 p1) h5 (w4.heap.size) 0 (by first | assumption | (simp; done) | omega | (simp; omega)) (by first | assumption | simp [go_sem]) (by first | assumption | simp [go_sem])
  obtain ⟨kE11, fE11, zE11⟩ := live (.int .u64 p0) h5 (w4.heap.size) 1 (by first | assumption | (simp; done) | omega | (simp; omega)) (by first | assumption | simp [go_sem]) (by first | assumption | simp [go_sem])
  have B5 : Below w.heap.size w w5 := Below.trans (by go_grown) (h5.mono (by first | (simp; done) | omega | (simp; omega)))
  have y5 := B5.size
  clear h5 B4 kD0 kD1 fD0 fD1 kD2 kD3 fD2 fD3 kD4 kD5 fD4 fD5 kD6 kD7 fD6 fD7 kD8 kD9 fD8 fD9
  go_wp2_with fail
  refine (k5 _).mono ?_
  rintro e w6 ⟨rfl, h6⟩
  obtain ⟨kF0, fF0, zF0⟩ := live (.int .i64 a1) h6 (w.heap.size) 0 (by first | assumption | (simp; done) | omega | (simp; omega)) (by first | assumption | simp [go_sem, kE0, zE0]) (by first | assumption | simp [go_sem, fE0, zE0])
  obtain ⟨kF1, fF1, zF1⟩ := live (.int .u64 a0) h6 (w.heap.size) 1 (by first | assumption | (simp; done) | omega | (simp; omega)) (by first | assumption | simp [go_sem, kE1, zE1]) (by first | assumption | simp [go_sem, fE1, zE1])
  obtain ⟨kF2, fF2, zF2⟩ := live (.int .i64 b1) h6 (w.heap.size + 1) 0 (by first | assumption | (simp; done) | omega | (simp; omega)) (by first | assumption | simp [go_sem, kE2, zE2]) (by first | assumption | simp [go_sem, fE2, zE2])
  obtain ⟨kF3, fF3, zF3⟩ := live (.int .u64 b0) h6 (w.heap.size + 1) 1 (by first | assumption | (simp; done) | omega | (simp; omega)) (by first | assumption | simp [go_sem, kE3, zE3]) (by first | assumption | simp [go_sem, fE3, zE3])
  obtain ⟨kF4, fF4, zF4⟩ := live (.int .i64 c1) h6 (w.heap.size + 1 + 1) 0 (by first | assumption | (simp; done) | omega | (simp; omega)) (by first | assumption | simp [go_sem, kE4, zE4]) (by first | assumption | simp [go_sem, fE4, zE4])
  obtain ⟨kF5, fF5, zF5⟩ := live (.int .u64 c0) h6 (w.heap.size + 1 + 1) 1 (by first | assumption | (simp; done) | omega | (simp; omega)) (by first | assumption | simp [go_sem, kE5, zE5]) (by first | assumption | simp [go_sem, fE5, zE5])
  obtain ⟨kF6, fF6, zF6⟩ := live (.int .i64 x1) h6 (w2.heap.size) 0 (by first | assumption | (simp; done) | omega | (simp; omega)) (by first | assumption | simp [go_sem, kE6, zE6]) (by first | assumption | simp [go_sem, fE6, zE6])
  obtain ⟨kF7, fF7, zF7⟩ := live (.int .u64 x0) h6 (w2.heap.size) 1 (by first | assumption | (simp; done) | omega | (simp; omega)) (by first | assumption | simp [go_sem, kE7, zE7]) (by first | assumption | simp [go_sem, fE7, zE7])
  obtain ⟨kF8, fF8, zF8⟩ := live (.int .i64 p1) h6 (w4.heap.size) 0 (by first | assumption | (simp; done) | omega | (simp; omega)) (by first | assumption | simp [go_sem, kE10, zE10]) (by first | assumption | simp [go_sem, fE10, zE10])
  obtain ⟨kF9, fF9, zF9⟩ := live (.int .u64 p0) h6 (w4.heap.size) 1 (by first | assumption | (simp; done) | omega | (simp; omega)) (by first | assumption | simp [go_sem, kE11, zE11]) (by first | assumption | simp [go_sem, fE11, zE11])
  have B6 : Below w.heap.size w w6 := Below.trans (by go_grown) (h6.mono (by first | (simp; done) | omega | (simp; omega)))
  have y6 := B6.size
  clear h6 B5 kE0 kE1 fE0 fE1 kE2 kE3 fE2 fE3 kE4 kE5 fE4 fE5 kE6 kE7 fE6 fE7 kE8 kE9 fE8 fE9 kE10 kE11 fE10 fE11
  go_wp2_with fail
  refine (k6 _).mono ?_
  rintro e w7 ⟨rfl, h7⟩
  obtain ⟨kG0, fG0, zG0⟩ := live (.int .i64 a1) h7 (w.heap.size) 0 (by first | assumption | (simp; done) | omega | (simp; omega)) (by first | assumption | simp [go_sem, kF0, zF0]) (by first | assumption | simp [go_sem, fF0, zF0])
  obtain ⟨kG1, fG1, zG1⟩ := live (.int .u64 a0) h7 (w.heap.size) 1 (by first | assumption | (simp; done) | omega | (simp; omega)) (by first | assumption | simp [go_sem, kF1, zF1]) (by first | assumption | simp [go_sem, fF1, zF1])
  obtain ⟨kG2, fG2, zG2⟩ := live (.int .i64 b1) h7 (w.heap.size + 1) 0 (by first | assumption | (simp; done) | omega | (simp; omega)) (by first | assumption | simp [go_sem, kF2, zF2]) (by first | assumption | simp [go_sem, fF2, zF2])
  obtain ⟨kG3, fG3, zG3⟩ := live (.int .u64 b0) h7 (w.heap.size + 1) 1 (by first | assumption | (simp; done) | omega | (simp; omega)) (by first | assumption | simp [go_sem, kF3, zF3]) (by first | assumption | simp [go_sem, fF3, zF3])
  obtain ⟨kG4, fG4, zG4⟩ := live (.int .i64 c1) h7 (w.heap.size + 1 + 1) 0 (by first | assumption | (simp; done) | omega | (simp; omega)) (by first | assumption | simp [go_sem, kF4, zF4]) (by first | assumption | simp [go_sem, fF4, zF4])
  obtain ⟨kG5, fG5, zG5⟩ := live (.int .u64 c0) h7 (w.heap.size + 1 + 1) 1 (by first | assumption | (simp; done) | omega | (simp; omega)) (by first | assumption | simp [go_sem, kF5, zF5]) (by first | assumption | simp [go_sem, fF5, zF5])
  obtain ⟨kG6, fG6, zG6⟩ := live (.int .i64 x1) h7 (w2.heap.size) 0 (by first | assumption | (simp; done) | omega | (simp; omega)) (by first | assumption | simp [go_sem, kF6, zF6]) (by first | assumption | simp [go_sem, fF6, zF6])
  obtain ⟨kG7, fG7, zG7⟩ := live (.int .u64 x0) h7 (w2.heap.size) 1 (by first | assumption | (simp; done) | omega | (simp; omega)) (by first | assumption | simp [go_sem, kF7, zF7]) (by first | assumption | simp [go_sem, fF7, zF7])
  obtain ⟨kG8, fG8, zG8⟩ := live (.int .i64 p1) h7 (w4.heap.size) 0 (by first | assumption | (simp; done) | omega | (simp; omega)) (by first | assumption | simp [go_sem, kF8, zF8]) (by first | assumption | simp [go_sem, fF8, zF8])
  obtain ⟨kG9, fG9, zG9⟩ := live (.int .u64 p0) h7 (w4.heap.size) 1 (by first | assumption | (simp; done) | omega | (simp; omega)) (by first | assumption | simp [go_sem, kF9, zF9]) (by first | assumption | simp [go_sem, fF9, zF9])
  have B7 : Below w.heap.size w w7 := Below.trans (by go_grown) (h7.mono (by first | (simp; done) | omega | (simp; omega)))
  have y7 := B7.size
  clear h7 B6 kF0 kF1 fF0 fF1 kF2 kF3 fF2 fF3 kF4 kF5 fF4 fF5 kF6 kF7 fF6 fF7 kF8 kF9 fF8 fF9
  go_wp2_with fail
  refine (k7 _).mono ?_
  rintro e w8 ⟨rfl, h8⟩
  obtain ⟨kH0, fH0, zH0⟩ := live (.int .i64 a1) h8 (w.heap.size) 0 (by first | assumption | (simp; done) | omega | (simp; omega)) (by first | assumption | simp [go_sem, kG0, zG0]) (by first | assumption | simp [go_sem, fG0, zG0])
  obtain ⟨kH1, fH1, zH1⟩ := live (.int .u64 a0) h8 (w.heap.size) 1 (by first | assumption | (simp; done) | omega | (simp; omega)) (by first | assumption | simp [go_sem, kG1, zG1]) (by first | assumption | simp [go_sem, fG1, zG1])
  obtain ⟨kH2, fH2, zH2⟩ := live (.int .i64 b1) h8 (w.heap.size + 1) 0 (by first | assumption | (simp; done) | omega | (simp; omega)) (by first | assumption | simp [go_sem, kG2, zG2]) (by first | assumption | simp [go_sem, fG2, zG2])
  obtain ⟨kH3, fH3, zH3⟩ := live (.int .u64 b0) h8 (w.heap.size + 1) 1 (by first | assumption | (simp; done) | omega | (simp; omega)) (by first | assumption | simp [go_sem, kG3, zG3]) (by first | assumption | simp [go_sem, fG3, zG3])
  obtain ⟨kH4, fH4, zH4⟩ := live (.int .i64 x1) h8 (w2.heap.size) 0 (by first | assumption | (simp; done) | omega | (simp; omega)) (by first | assumption | simp [go_sem, kG6, zG6]) (by first | assumption | simp [go_sem, fG6, zG6])
  obtain ⟨kH5, fH5, zH5⟩ := live (.int .u64 x0) h8 (w2.heap.size) 1 (by first | assumption | (simp; done) | omega | (simp; omega)) (by first | assumption | simp [go_sem, kG7, zG7]) (by first | assumption | simp [go_sem, fG7, zG7])
  obtain ⟨kH6, fH6, zH6⟩ := live (.int .i64 p1) h8 (w4.heap.size) 0 (by first | assumption | (simp; done) | omega | (simp; omega)) (by first | assumption | simp [go_sem, kG8, zG8]) (by first | assumption | simp [go_sem, fG8, zG8])
  obtain ⟨kH7, fH7, zH7⟩ := live (.int .u64 p0) h8 (w4.heap.size) 1 (by first | assumption | (simp; done) | omega | (simp; omega)) (by first | assumption | simp [go_sem, kG9, zG9]) (by first | assumption | simp [go_sem, fG9, zG9])
  obtain ⟨kH8, fH8, zH8⟩ := live (.int .i64 t1) h8 (w7.heap.size) 0 (by first | assumption | (simp; done) | omega | (simp; omega)) (by first | assumption | simp [go_sem]) (by first | assumption | simp [go_sem])
  obtain ⟨kH9, fH9, zH9⟩ := live (.int .u64 t0) h8 (w7.heap.size) 1 (by first | assumption | (simp; done) | omega | (simp; omega)) (by first | assumption | simp [go_sem]) (by first | assumption | simp [go_sem])
  have B8 : Below w.heap.size w w8 := Below.trans (by go_grown) (h8.mono (by first | (simp; done) | omega | (simp; omega)))
  have y8 := B8.size
  clear h8 B7 kG0 kG1 fG0 fG1 kG2 kG3 fG2 fG3 kG4 kG5 fG4 fG5 kG6 kG7 fG6 fG7 kG8 kG9 fG8 fG9
  go_wp2_with fail
  refine (k8 _).mono ?_
  rintro e w9 ⟨rfl, h9⟩
  obtain ⟨kI0, fI0, zI0⟩ := live (.int .i64 a1) h9 (w.heap.size) 0 (by first | assumption | (simp; done) | omega | (simp; omega)) (by first | assumption | simp [go_sem, kH0, zH0]) (by first | assumption | simp [go_sem, fH0, zH0])
  obtain ⟨kI1, fI1, zI1⟩ := live (.int .u64 a0) h9 (w.heap.size) 1 (by first | assumption | (simp; done) | omega | (simp; omega)) (by first | assumption | simp [go_sem, kH1, zH1]) (by first | assumption | simp [go_sem, fH1, zH1])
  obtain ⟨kI2, fI2, zI2⟩ := live (.int .i64 b1) h9 (w.heap.size + 1) 0 (by first | assumption | (simp; done) | omega | (simp; omega)) (by first | assumption | simp [go_sem, kH2, zH2]) (by first | assumption | simp [go_sem, fH2, zH2])
  obtain ⟨kI3, fI3, zI3⟩ := live (.int .u64 b0) h9 (w.heap.size + 1) 1 (by first | assumption | (simp; done) | omega | (simp; omega)) (by first | assumption | simp [go_sem, kH3, zH3]) (by first | assumption | simp [go_sem, fH3, zH3])
  obtain ⟨kI4, fI4, zI4⟩ := live (.int .i64 x1) h9 (w2.heap.size) 0 (by first | assumption | (simp; done) | omega | (simp; omega)) (by first | assumption | simp [go_sem, kH4, zH4]) (by first | assumption | simp [go_sem, fH4, zH4])
  obtain ⟨kI5, fI5, zI5⟩ := live (.int .u64 x0) h9 (w2.heap.size) 1 (by first | assumption | (simp; done) | omega | (simp; omega)) (by first | assumption | simp [go_sem, kH5, zH5]) (by first | assumption | simp [go_sem, fH5, zH5])
  obtain ⟨kI6, fI6, zI6⟩ := live (.int .i64 t1) h9 (w7.heap.size) 0 (by first | assumption | (simp; done) | omega | (simp; omega)) (by first | assumption | simp [go_sem, kH8, zH8]) (by first | assumption | simp [go_sem, fH8, zH8])
  obtain ⟨kI7, fI7, zI7⟩ := live (.int .u64 t0) h9 (w7.heap.size) 1 (by first | assumption | (simp; done) | omega | (simp; omega)) (by first | assumption | simp [go_sem, kH9, zH9]) (by first | assumption | simp [go_sem, fH9, zH9])
  have B9 : Below w.heap.size w w9 := Below.trans (by go_grown) (h9.mono (by first | (simp; done) | omega | (simp; omega)))
  have y9 := B9.size
  clear h9 B8 kH0 kH1 fH0 fH1 kH2 kH3 fH2 fH3 kH4 kH5 fH4 fH5 kH6 kH7 fH6 fH7 kH8 kH9 fH8 fH9
  go_wp2_with fail
  all_goals
    refine (k9 _).mono ?_
    rintro e w10 ⟨rfl, h10⟩
    obtain ⟨kJ0, fJ0, zJ0⟩ := live (.int .i64 a1) h10 (w.heap.size) 0 (by first | assumption | (simp; done) | omega | (simp; omega)) (by first | assumption | simp [go_sem, kI0, zI0]) (by first | assumption | simp [go_sem, fI0, zI0])
    obtain ⟨kJ1, fJ1, zJ1⟩ := live (.int .u64 a0) h10 (w.heap.size) 1 (by first | assumption | (simp; done) | omega | (simp; omega)) (by first | assumption | simp [go_sem, kI1, zI1]) (by first | assumption | simp [go_sem, fI1, zI1])
    have B10 : Below w.heap.size w w10 := Below.trans (by go_grown) (h10.mono (by first | (simp; done) | omega | (simp; omega)))
    have y10 := B10.size
    clear h10 B9 kI0 kI1 fI0 fI1 kI2 kI3 fI2 fI3 kI4 kI5 fI4 fI5 kI6 kI7 fI6 fI7
    go_wp2_with fail
    all_goals go_returns
    all_goals exact ⟨rfl, by go_grown⟩
set_option maxHeartbeats 8000000 in
theorem laws_01 (a1 a0 b1 b0 c1 c0 x1 x0 p1 p0 s1 s0 t1 t0 r1 r0 z1 z0 ee m : Int) (k0 : ∀ w, Calls Try.prog 27 #[] w fun e w' => e = .returned (.bool true) ∧ Below w.heap.size w w')
    (k1 : ∀ w, Calls Try.prog 28 #[.agg #[.int .i64 a1, .int .u64 a0], .agg #[.int .i64 b1, .int .u64 b0]] w fun e w' => e = .returned (.tuple #[.agg #[.int .i64 x1, .int .u64 x0], .int .i64 ee]) ∧ Below w.heap.size w w')
    (k2 : ∀ w, Calls Try.prog 28 #[.agg #[.int .i64 b1, .int .u64 b0], .agg #[.int .i64 a1, .int .u64 a0]] w fun e w' => e = .returned (.tuple #[.agg #[.int .i64 x1, .int .u64 x0], .int .i64 ee]) ∧ Below w.heap.size w w')
    (k3 : ∀ w, Calls Try.prog 32 #[.agg #[.int .i64 a1, .int .u64 a0], .agg #[.int .i64 b1, .int .u64 b0]] w fun e w' => e = .returned (.tuple #[.agg #[.int .i64 p1, .int .u64 p0], .int .i64 0]) ∧ Below w.heap.size w w')
    (k4 : ∀ w, Calls Try.prog 32 #[.agg #[.int .i64 b1, .int .u64 b0], .agg #[.int .i64 a1, .int .u64 a0]] w fun e w' => e = .returned (.tuple #[.agg #[.int .i64 p1, .int .u64 p0], .int .i64 0]) ∧ Below w.heap.size w w')
    (k5 : ∀ w, Calls Try.prog 28 #[.agg #[.int .i64 b1, .int .u64 b0], .agg #[.int .i64 c1, .int .u64 c0]] w fun e w' => e = .returned (.tuple #[.agg #[.int .i64 s1, .int .u64 s0], .int .i64 0]) ∧ Below w.heap.size w w')
    (k6 : ∀ w, Calls Try.prog 32 #[.agg #[.int .i64 a1, .int .u64 a0], .agg #[.int .i64 s1, .int .u64 s0]] w fun e w' => e = .returned (.tuple #[.agg #[.int .i64 t1, .int .u64 t0], .int .i64 0]) ∧ Below w.heap.size w w')
    (k7 : ∀ w, Calls Try.prog 32 #[.agg #[.int .i64 a1, .int .u64 a0], .agg #[.int .i64 c1, .int .u64 c0]] w fun e w' => e = .returned (.tuple #[.agg #[.int .i64 r1, .int .u64 r0], .int .i64 0]) ∧ Below w.heap.size w w')
    (k8 : ∀ w, Calls Try.prog 28 #[.agg #[.int .i64 p1, .int .u64 p0], .agg #[.int .i64 r1, .int .u64 r0]] w fun e w' => e = .returned (.tuple #[.agg #[.int .i64 t1, .int .u64 t0], .int .i64 0]) ∧ Below w.heap.size w w')
    (k9 : ∀ w, Calls Try.prog 30 #[.agg #[.int .i64 x1, .int .u64 x0], .agg #[.int .i64 b1, .int .u64 b0]] w fun e w' => e = .returned (.tuple #[.agg #[.int .i64 z1, .int .u64 z0], .int .i64 m]) ∧ Below w.heap.size w w')
    (n1 : ¬ ee = 0) (w : World) :
    Calls Try.prog 12 #[.agg #[.int .i64 a1, .int .u64 a0], .agg #[.int .i64 b1, .int .u64 b0], .agg #[.int .i64 c1, .int .u64 c0]] w fun e w' => e = .returned (.bool true) ∧ Below w.heap.size w w' := by
  go_enter Try.func12, Try.ntmps12
  go_wp2_with fail
  refine (k0 _).mono ?_
  rintro e w1 ⟨rfl, h1⟩
  obtain ⟨kA0, fA0, zA0⟩ := live (.int .i64 a1) h1 (w.heap.size) 0 (by first | assumption | (simp; done) | omega | (simp; omega)) (by first | assumption | simp [go_sem]) (by first | assumption | simp [go_sem])
  obtain ⟨kA1, fA1, zA1⟩ := live (.int .u64 a0) h1 (w.heap.size) 1 (by first | assumption | (simp; done) | omega | (simp; omega)) (by first | assumption | simp [go_sem]) (by first | assumption | simp [go_sem])
  obtain ⟨kA2, fA2, zA2⟩ := live (.int .i64 b1) h1 (w.heap.size + 1) 0 (by first | assumption | (simp; done) | omega | (simp; omega)) (by first | assumption | simp [go_sem]) (by first | assumption | simp [go_sem])
  obtain ⟨kA3, fA3, zA3⟩ := live (.int .u64 b0) h1 (w.heap.size + 1) 1 (by first | assumption | (simp; done) | omega | (simp; omega)) (by first | assumption | simp [go_sem]) (by first | assumption | simp [go_sem])
  obtain ⟨kA4, fA4, zA4⟩ := live (.int .i64 c1) h1 (w.heap.size + 1 + 1) 0 (by first | assumption | (simp; done) | omega | (simp; omega)) (by first | assumption | simp [go_sem]) (by first | assumption | simp [go_sem])
  obtain ⟨kA5, fA5, zA5⟩ := live (.int .u64 c0) h1 (w.heap.size + 1 + 1) 1 (by first | assumption | (simp; done) | omega | (simp; omega)) (by first | assumption | simp [go_sem]) (by first | assumption | simp [go_sem])
  have B1 : Below w.heap.size w w1 := Below.trans (by go_grown) (h1.mono (by simp; try omega))
  have y1 := B1.size
  clear h1
  go_wp2_with fail
  refine (k1 _).mono ?_
  rintro e w2 ⟨rfl, h2⟩
  obtain ⟨kB0, fB0, zB0⟩ := live (.int .i64 a1) h2 (w.heap.size) 0 (by first | assumption | (simp; done) | omega | (simp; omega)) (by first | assumption | simp [go_sem, kA0, zA0]) (by first | assumption | simp [go_sem, fA0, zA0])
  obtain ⟨kB1, fB1, zB1⟩ := live (.int .u64 a0) h2 (w.heap.size) 1 (by first | assumption | (simp; done) | omega | (simp; omega)) (by first | assumption | simp [go_sem, kA1, zA1]) (by first | assumption | simp [go_sem, fA1, zA1])
  obtain ⟨kB2, fB2, zB2⟩ := live (.int .i64 b1) h2 (w.heap.size + 1) 0 (by first | assumption | (simp; done) | omega | (simp; omega)) (by first | assumption | simp [go_sem, kA2, zA2]) (by first | assumption | simp [go_sem, fA2, zA2])
  obtain ⟨kB3, fB3, zB3⟩ := live (.int .u64 b0) h2 (w.heap.size + 1) 1 (by first | assumption | (simp; done) | omega | (simp; omega)) (by first | assumption | simp [go_sem, kA3, zA3]) (by first | assumption | simp [go_sem, fA3, zA3])
  obtain ⟨kB4, fB4, zB4⟩ := live (.int .i64 c1) h2 (w.heap.size + 1 + 1) 0 (by first | assumption | (simp; done) | omega | (simp; omega)) (by first | assumption | simp [go_sem, kA4, zA4]) (by first | assumption | simp [go_sem, fA4, zA4])
  obtain ⟨kB5, fB5, zB5⟩ := live (.int .u64 c0) h2 (w.heap.size + 1 + 1) 1 (by first | assumption | (simp; done) | omega | (simp; omega)) (by first | assumption | simp [go_sem, kA5, zA5]) (by first | assumption | simp [go_sem, fA5, zA5])
  have B2 : Below w.heap.size w w2 := Below.trans (by go_grown) (h2.mono (by first | (simp; done) | omega | (simp; omega)))
  have y2 := B2.size
  clear h2 B1 kA0 kA1 fA0 fA1 kA2 kA3 fA2 fA3 kA4 kA5 fA4 fA5
  go_wp2_with fail
  refine (k2 _).mono ?_
  rintro e w3 ⟨rfl, h3⟩
  obtain ⟨kC0, fC0, zC0⟩ := live (.int .i64 a1) h3 (w.heap.size) 0 (by first | assumption | (simp; done) | omega | (simp; omega)) (by first | assumption | simp [go_sem, kB0, zB0]) (by first | assumption | simp [go_sem, fB0, zB0])
  obtain ⟨kC1, fC1, zC1⟩ := live (.int .u64 a0) h3 (w.heap.size) 1 (by first | assumption | (simp; done) | omega | (simp; omega)) (by first | assumption | simp [go_sem, kB1, zB1]) (by first | assumption | simp [go_sem, fB1, zB1])
  obtain ⟨kC2, fC2, zC2⟩ := live (.int .i64 b1) h3 (w.heap.size + 1) 0 (by first | assumption | (simp; done) | omega | (simp; omega)) (by first | assumption | simp [go_sem, kB2, zB2]) (by first | assumption | simp [go_sem, fB2, zB2])
  obtain ⟨kC3, fC3, zC3⟩ := live (.int .u64 b0) h3 (w.heap.size + 1) 1 (by first | assumption | (simp; done) | omega | (simp; omega)) (by first | assumption | simp [go_sem, kB3, zB3]) (by first | assumption | simp [go_sem, fB3, zB3])
  obtain ⟨kC4, fC4, zC4⟩ := live (.int .i64 c1) h3 (w.heap.size + 1 + 1) 0 (by first | assumption | (simp; done) | omega | (simp; omega)) (by first | assumption | simp [go_sem, kB4, zB4]) (by first | assumption | simp [go_sem, fB4, zB4])
  obtain ⟨kC5, fC5, zC5⟩ := live (.int .u64 c0) h3 (w.heap.size + 1 + 1) 1 (by first | assumption | (simp; done) | omega | (simp; omega)) (by first | assumption | simp [go_sem, kB5, zB5]) (by first | assumption | simp [go_sem, fB5, zB5])
  obtain ⟨kC6, fC6, zC6⟩ := live (.int .i64 x1) h3 (w2.heap.size) 0 (by first | assumption | (simp; done) | omega | (simp; omega)) (by first | assumption | simp [go_sem]) (by first | assumption | simp [go_sem])
  obtain ⟨kC7, fC7, zC7⟩ := live (.int .u64 x0) h3 (w2.heap.size) 1 (by first | assumption | (simp; done) | omega | (simp; omega)) (by first | assumption | simp [go_sem]) (by first | assumption | simp [go_sem])
  have B3 : Below w.heap.size w w3 := Below.trans (by go_grown) (h3.mono (by first | (simp; done) | omega | (simp; omega)))
  have y3 := B3.size
  clear h3 B2 kB0 kB1 fB0 fB1 kB2 kB3 fB2 fB3 kB4 kB5 fB4 fB5
  go_wp2_with fail
  refine (k3 _).mono ?_
  rintro e w4 ⟨rfl, h4⟩
  obtain ⟨kD0, fD0, zD0⟩ := live (.int .i64 a1) h4 (w.heap.size) 0 (by first | assumption | (simp; done) | omega | (simp; omega)) (by first | assumption | simp [go_sem, kC0, zC0]) (by first | assumption | simp [go_sem, fC0, zC0])
  obtain ⟨kD1, fD1, zD1⟩ := live (.int .u64 a0) h4 (w.heap.size) 1 (by first | assumption | (simp; done) | omega | (simp; omega)) (by first | assumption | simp [go_sem, kC1, zC1]) (by first | assumption | simp [go_sem, fC1, zC1])
  obtain ⟨kD2, fD2, zD2⟩ := live (.int .i64 b1) h4 (w.heap.size + 1) 0 (by first | assumption | (simp; done) | omega | (simp; omega)) (by first | assumption | simp [go_sem, kC2, zC2]) (by first | assumption | simp [go_sem, fC2, zC2])
  obtain ⟨kD3, fD3, zD3⟩ := live (.int .u64 b0) h4 (w.heap.size + 1) 1 (by first | assumption | (simp; done) | omega | (simp; omega)) (by first | assumption | simp [go_sem, kC3, zC3]) (by first | assumption | simp [go_sem, fC3, zC3])
  obtain ⟨kD4, fD4, zD4⟩ := live (.int .i64 c1) h4 (w.heap.size + 1 + 1) 0 (by first | assumption | (simp; done) | omega | (simp; omega)) (by first | assumption | simp [go_sem, kC4, zC4]) (by first | assumption | simp [go_sem, fC4, zC4])
  obtain ⟨kD5, fD5, zD5⟩ := live (.int .u64 c0) h4 (w.heap.size + 1 + 1) 1 (by first | assumption | (simp; done) | omega | (simp; omega)) (by first | assumption | simp [go_sem, kC5, zC5]) (by first | assumption | simp [go_sem, fC5, zC5])
  obtain ⟨kD6, fD6, zD6⟩ := live (.int .i64 x1) h4 (w2.heap.size) 0 (by first | assumption | (simp; done) | omega | (simp; omega)) (by first | assumption | simp [go_sem, kC6, zC6]) (by first | assumption | simp [go_sem, fC6, zC6])
  obtain ⟨kD7, fD7, zD7⟩ := live (.int .u64 x0) h4 (w2.heap.size) 1 (by first | assumption | (simp; done) | omega | (simp; omega)) (by first | assumption | simp [go_sem, kC7, zC7]) (by first | assumption | simp [go_sem, fC7, zC7])
  obtain ⟨kD8, fD8, zD8⟩ := live (.int .i64 x1) h4 (w3.heap.size) 0 (by first | assumption | (simp; done) | omega | (simp; omega)) (by first | assumption | simp [go_sem]) (by first | assumption | simp [go_sem])
  obtain ⟨kD9, fD9, zD9⟩ := live (.int .u64 x0) h4 (w3.heap.size) 1 (by first | assumption | (simp; done) | omega | (simp; omega)) (by first | assumption | simp [go_sem]) (by first | assumption | simp [go_sem])
  have B4 : Below w.heap.size w w4 := Below.trans (by go_grown) (h4.mono (by first | (simp; done) | omega | (simp; omega)))
  have y4 := B4.size
  clear h4 B3 kC0 kC1 fC0 fC1 kC2 kC3 fC2 fC3 kC4 kC5 fC4 fC5 kC6 kC7 fC6 fC7
  go_wp2_with fail
  refine (k4 _).mono ?_
  rintro e w5 ⟨rfl, h5⟩
  obtain ⟨kE0, fE0, zE0⟩ := live (.int .i64 a1) h5 (w.heap.size) 0 (by first | assumption | (simp; done) | omega | (simp; omega)) (by first | assumption | simp [go_sem, kD0, zD0]) (by first | assumption | simp [go_sem, fD0, zD0])
  obtain ⟨kE1, fE1, zE1⟩ := live (.int .u64 a0) h5 (w.heap.size) 1 (by first | assumption | (simp; done) | omega | (simp; omega)) (by first | assumption | simp [go_sem, kD1, zD1]) (by first | assumption | simp [go_sem, fD1, zD1])
  obtain ⟨kE2, fE2, zE2⟩ := live (.int .i64 b1) h5 (w.heap.size + 1) 0 (by first | assumption | (simp; done) | omega | (simp; omega)) (by first | assumption | simp [go_sem, kD2, zD2]) (by first | assumption | simp [go_sem, fD2, zD2])
  obtain ⟨kE3, fE3, zE3⟩ := live (.int .u64 b0) h5 (w.heap.size + 1) 1 (by first | assumption | (simp; done) | omega | (simp; omega)) (by first | assumption | simp [go_sem, kD3, zD3]) (by first | assumption | simp [go_sem, fD3, zD3])
  obtain ⟨kE4, fE4, zE4⟩ := live (.int .i64 c1) h5 (w.heap.size + 1 + 1) 0 (by first | assumption | (simp; done) | omega | (simp; omega)) (by first | assumption | simp [go_sem, kD4, zD4]) (by first | assumption | simp [go_sem, fD4, zD4])
  obtain ⟨kE5, fE5, zE5⟩ := live (.int .u64 c0) h5 (w.heap.size + 1 + 1) 1 (by first | assumption | (simp; done) | omega | (simp; omega)) (by first | assumption | simp [go_sem, kD5, zD5]) (by first | assumption | simp [go_sem, fD5, zD5])
  obtain ⟨kE6, fE6, zE6⟩ := live (.int .i64 x1) h5 (w2.heap.size) 0 (by first | assumption | (simp; done) | omega | (simp; omega)) (by first | assumption | simp [go_sem, kD6, zD6]) (by first | assumption | simp [go_sem, fD6, zD6])
  obtain ⟨kE7, fE7, zE7⟩ := live (.int .u64 x0) h5 (w2.heap.size) 1 (by first | assumption | (simp; done) | omega | (simp; omega)) (by first | assumption | simp [go_sem, kD7, zD7]) (by first | assumption | simp [go_sem, fD7, zD7])
  obtain ⟨kE8, fE8, zE8⟩ := live (.int .i64 x1) h5 (w3.heap.size) 0 (by first | assumption | (simp; done) | omega | (simp; omega)) (by first | assumption | simp [go_sem, kD8, zD8]) (by first | assumption | simp [go_sem, fD8, zD8])
  obtain ⟨kE9, fE9, zE9⟩ := live (.int .u64 x0) h5 (w3.heap.size) 1 (by first | assumption | (simp; done) | omega | (simp; omega)) (by first | assumption | simp [go_sem, kD9, zD9]) (by first | assumption | simp [go_sem, fD9, zD9])
  obtain ⟨kE10, fE10, zE10⟩ := live (.int .i64 p1) h5 (w4.heap.size) 0 (by first | assumption | (simp; done) | omega | (simp; omega)) (by first | assumption | simp [go_sem]) (by first | assumption | simp [go_sem])
  obtain ⟨kE11, fE11, zE11⟩ := live (.int .u64 p0) h5 (w4.heap.size) 1 (by first | assumption | (simp; done) | omega | (simp; omega)) (by first | assumption | simp [go_sem]) (by first | assumption | simp [go_sem])
  have B5 : Below w.heap.size w w5 := Below.trans (by go_grown) (h5.mono (by first | (simp; done) | omega | (simp; omega)))
  have y5 := B5.size
  clear h5 B4 kD0 kD1 fD0 fD1 kD2 kD3 fD2 fD3 kD4 kD5 fD4 fD5 kD6 kD7 fD6 fD7 kD8 kD9 fD8 fD9
  go_wp2_with fail
  refine (k5 _).mono ?_
  rintro e w6 ⟨rfl, h6⟩
  obtain ⟨kF0, fF0, zF0⟩ := live (.int .i64 a1) h6 (w.heap.size) 0 (by first | assumption | (simp; done) | omega | (simp; omega)) (by first | assumption | simp [go_sem, kE0, zE0]) (by first | assumption | simp [go_sem, fE0, zE0])
  obtain ⟨kF1, fF1, zF1⟩ := live (.int .u64 a0) h6 (w.heap.size) 1 (by first | assumption | (simp; done) | omega | (simp; omega)) (by first | assumption | simp [go_sem, kE1, zE1]) (by first | assumption | simp [go_sem, fE1, zE1])
  obtain ⟨kF2, fF2, zF2⟩ := live (.int .i64 b1) h6 (w.heap.size + 1) 0 (by first | assumption | (simp; done) | omega | (simp; omega)) (by first | assumption | simp [go_sem, kE2, zE2]) (by first | assumption | simp [go_sem, fE2, zE2])
  obtain ⟨kF3, fF3, zF3⟩ := live (.int .u64 b0) h6 (w.heap.size + 1) 1 (by first | assumption | (simp; done) | omega | (simp; omega)) (by first | assumption | simp [go_sem, kE3, zE3]) (by first | assumption | simp [go_sem, fE3, zE3])
  obtain ⟨kF4, fF4, zF4⟩ := live (.int .i64 c1) h6 (w.heap.size + 1 + 1) 0 (by first | assumption | (simp; done) | omega | (simp; omega)) (by first | assumption | simp [go_sem, kE4, zE4]) (by first | assumption | simp [go_sem, fE4, zE4])
  obtain ⟨kF5, fF5, zF5⟩ := live (.int .u64 c0) h6 (w.heap.size + 1 + 1) 1 (by first | assumption | (simp; done) | omega | (simp; omega)) (by first | assumption | simp [go_sem, kE5, zE5]) (by first | assumption | simp [go_sem, fE5, zE5])
  obtain ⟨kF6, fF6, zF6⟩ := live (.int .i64 x1) h6 (w2.heap.size) 0 (by first | assumption | (simp; done) | omega | (simp; omega)) (by first | assumption | simp [go_sem, kE6, zE6]) (by first | assumption | simp [go_sem, fE6, zE6])
  obtain ⟨kF7, fF7, zF7⟩ := live (.int .u64 x0) h6 (w2.heap.size) 1 (by first | assumption | (simp; done) | omega | (simp; omega)) (by first | assumption | simp [go_sem, kE7, zE7]) (by first | assumption | simp [go_sem, fE7, zE7])
  obtain ⟨kF8, fF8, zF8⟩ := live (.int .i64 p1) h6 (w4.heap.size) 0 (by first | assumption | (simp; done) | omega | (simp; omega)) (by first | assumption | simp [go_sem, kE10, zE10]) (by first | assumption | simp [go_sem, fE10, zE10])
  obtain ⟨kF9, fF9, zF9⟩ := live (.int .u64 p0) h6 (w4.heap.size) 1 (by first | assumption | (simp; done) | omega | (simp; omega)) (by first | assumption | simp [go_sem, kE11, zE11]) (by first | assumption | simp [go_sem, fE11, zE11])
  have B6 : Below w.heap.size w w6 := Below.trans (by go_grown) (h6.mono (by first | (simp; done) | omega | (simp; omega)))
  have y6 := B6.size
  clear h6 B5 kE0 kE1 fE0 fE1 kE2 kE3 fE2 fE3 kE4 kE5 fE4 fE5 kE6 kE7 fE6 fE7 kE8 kE9 fE8 fE9 kE10 kE11 fE10 fE11
  go_wp2_with fail
  refine (k6 _).mono ?_
  rintro e w7 ⟨rfl, h7⟩
  obtain ⟨kG0, fG0, zG0⟩ := live (.int .i64 a1) h7 (w.heap.size) 0 (by first | assumption | (simp; done) | omega | (simp; omega)) (by first | assumption | simp [go_sem, kF0, zF0]) (by first | assumption | simp [go_sem, fF0, zF0])
  obtain ⟨kG1, fG1, zG1⟩ := live (.int .u64 a0) h7 (w.heap.size) 1 (by first | assumption | (simp; done) | omega | (simp; omega)) (by first | assumption | simp [go_sem, kF1, zF1]) (by first | assumption | simp [go_sem, fF1, zF1])
  obtain ⟨kG2, fG2, zG2⟩ := live (.int .i64 b1) h7 (w.heap.size + 1) 0 (by first | assumption | (simp; done) | omega | (simp; omega)) (by first | assumption | simp [go_sem, kF2, zF2]) (by first | assumption | simp [go_sem, fF2, zF2])
  obtain ⟨kG3, fG3, zG3⟩ := live (.int .u64 b0) h7 (w.heap.size + 1) 1 (by first | assumption | (simp; done) | omega | (simp; omega)) (by first | assumption | simp [go_sem, kF3, zF3]) (by first | assumption | simp [go_sem, fF3, zF3])
  obtain ⟨kG4, fG4, zG4⟩ := live (.int .i64 c1) h7 (w.heap.size + 1 + 1) 0 (by first | assumption | (simp; done) | omega | (simp; omega)) (by first | assumption | simp [go_sem, kF4, zF4]) (by first | assumption | simp [go_sem, fF4, zF4])
  obtain ⟨kG5, fG5, zG5⟩ := live (.int .u64 c0) h7 (w.heap.size + 1 + 1) 1 (by first | assumption | (simp; done) | omega | (simp; omega)) (by first | assumption | simp [go_sem, kF5, zF5]) (by first | assumption | simp [go_sem, fF5, zF5])
  obtain ⟨kG6, fG6, zG6⟩ := live (.int .i64 x1) h7 (w2.heap.size) 0 (by first | assumption | (simp; done) | omega | (simp; omega)) (by first | assumption | simp [go_sem, kF6, zF6]) (by first | assumption | simp [go_sem, fF6, zF6])
  obtain ⟨kG7, fG7, zG7⟩ := live (.int .u64 x0) h7 (w2.heap.size) 1 (by first | assumption | (simp; done) | omega | (simp; omega)) (by first | assumption | simp [go_sem, kF7, zF7]) (by first | assumption | simp [go_sem, fF7, zF7])
  obtain ⟨kG8, fG8, zG8⟩ := live (.int .i64 p1) h7 (w4.heap.size) 0 (by first | assumption | (simp; done) | omega | (simp; omega)) (by first | assumption | simp [go_sem, kF8, zF8]) (by first | assumption | simp [go_sem, fF8, zF8])
  obtain ⟨kG9, fG9, zG9⟩ := live (.int .u64 p0) h7 (w4.heap.size) 1 (by first | assumption | (simp; done) | omega | (simp; omega)) (by first | assumption | simp [go_sem, kF9, zF9]) (by first | assumption | simp [go_sem, fF9, zF9])
  have B7 : Below w.heap.size w w7 := Below.trans (by go_grown) (h7.mono (by first | (simp; done) | omega | (simp; omega)))
  have y7 := B7.size
  clear h7 B6 kF0 kF1 fF0 fF1 kF2 kF3 fF2 fF3 kF4 kF5 fF4 fF5 kF6 kF7 fF6 fF7 kF8 kF9 fF8 fF9
  go_wp2_with fail
  refine (k7 _).mono ?_
  rintro e w8 ⟨rfl, h8⟩
  obtain ⟨kH0, fH0, zH0⟩ := live (.int .i64 a1) h8 (w.heap.size) 0 (by first | assumption | (simp; done) | omega | (simp; omega)) (by first | assumption | simp [go_sem, kG0, zG0]) (by first | assumption | simp [go_sem, fG0, zG0])
  obtain ⟨kH1, fH1, zH1⟩ := live (.int .u64 a0) h8 (w.heap.size) 1 (by first | assumption | (simp; done) | omega | (simp; omega)) (by first | assumption | simp [go_sem, kG1, zG1]) (by first | assumption | simp [go_sem, fG1, zG1])
  obtain ⟨kH2, fH2, zH2⟩ := live (.int .i64 b1) h8 (w.heap.size + 1) 0 (by first | assumption | (simp; done) | omega | (simp; omega)) (by first | assumption | simp [go_sem, kG2, zG2]) (by first | assumption | simp [go_sem, fG2, zG2])
  obtain ⟨kH3, fH3, zH3⟩ := live (.int .u64 b0) h8 (w.heap.size + 1) 1 (by first | assumption | (simp; done) | omega | (simp; omega)) (by first | assumption | simp [go_sem, kG3, zG3]) (by first | assumption | simp [go_sem, fG3, zG3])
  obtain ⟨kH4, fH4, zH4⟩ := live (.int .i64 x1) h8 (w2.heap.size) 0 (by first | assumption | (simp; done) | omega | (simp; omega)) (by first | assumption | simp [go_sem, kG6, zG6]) (by first | assumption | simp [go_sem, fG6, zG6])
  obtain ⟨kH5, fH5, zH5⟩ := live (.int .u64 x0) h8 (w2.heap.size) 1 (by first | assumption | (simp; done) | omega | (simp; omega)) (by first | assumption | simp [go_sem, kG7, zG7]) (by first | assumption | simp [go_sem, fG7, zG7])
  obtain ⟨kH6, fH6, zH6⟩ := live (.int .i64 p1) h8 (w4.heap.size) 0 (by first | assumption | (simp; done) | omega | (simp; omega)) (by first | assumption | simp [go_sem, kG8, zG8]) (by first | assumption | simp [go_sem, fG8, zG8])
  obtain ⟨kH7, fH7, zH7⟩ := live (.int .u64 p0) h8 (w4.heap.size) 1 (by first | assumption | (simp; done) | omega | (simp; omega)) (by first | assumption | simp [go_sem, kG9, zG9]) (by first | assumption | simp [go_sem, fG9, zG9])
  obtain ⟨kH8, fH8, zH8⟩ := live (.int .i64 t1) h8 (w7.heap.size) 0 (by first | assumption | (simp; done) | omega | (simp; omega)) (by first | assumption | simp [go_sem]) (by first | assumption | simp [go_sem])
  obtain ⟨kH9, fH9, zH9⟩ := live (.int .u64 t0) h8 (w7.heap.size) 1 (by first | assumption | (simp; done) | omega | (simp; omega)) (by first | assumption | simp [go_sem]) (by first | assumption | simp [go_sem])
  have B8 : Below w.heap.size w w8 := Below.trans (by go_grown) (h8.mono (by first | (simp; done) | omega | (simp; omega)))
  have y8 := B8.size
  clear h8 B7 kG0 kG1 fG0 fG1 kG2 kG3 fG2 fG3 kG4 kG5 fG4 fG5 kG6 kG7 fG6 fG7 kG8 kG9 fG8 fG9
  go_wp2_with fail
  refine (k8 _).mono ?_
  rintro e w9 ⟨rfl, h9⟩
  obtain ⟨kI0, fI0, zI0⟩ := live (.int .i64 a1) h9 (w.heap.size) 0 (by first | assumption | (simp; done) | omega | (simp; omega)) (by first | assumption | simp [go_sem, kH0, zH0]) (by first | assumption | simp [go_sem, fH0, zH0])
  obtain ⟨kI1, fI1, zI1⟩ := live (.int .u64 a0) h9 (w.heap.size) 1 (by first | assumption | (simp; done) | omega | (simp; omega)) (by first | assumption | simp [go_sem, kH1, zH1]) (by first | assumption | simp [go_sem, fH1, zH1])
  obtain ⟨kI2, fI2, zI2⟩ := live (.int .i64 b1) h9 (w.heap.size + 1) 0 (by first | assumption | (simp; done) | omega | (simp; omega)) (by first | assumption | simp [go_sem, kH2, zH2]) (by first | assumption | simp [go_sem, fH2, zH2])
  obtain ⟨kI3, fI3, zI3⟩ := live (.int .u64 b0) h9 (w.heap.size + 1) 1 (by first | assumption | (simp; done) | omega | (simp; omega)) (by first | assumption | simp [go_sem, kH3, zH3]) (by first | assumption | simp [go_sem, fH3, zH3])
  obtain ⟨kI4, fI4, zI4⟩ := live (.int .i64 x1) h9 (w2.heap.size) 0 (by first | assumption | (simp; done) | omega | (simp; omega)) (by first | assumption | simp [go_sem, kH4, zH4]) (by first | assumption | simp [go_sem, fH4, zH4])
  obtain ⟨kI5, fI5, zI5⟩ := live (.int .u64 x0) h9 (w2.heap.size) 1 (by first | assumption | (simp; done) | omega | (simp; omega)) (by first | assumption | simp [go_sem, kH5, zH5]) (by first | assumption | simp [go_sem, fH5, zH5])
  obtain ⟨kI6, fI6, zI6⟩ := live (.int .i64 t1) h9 (w7.heap.size) 0 (by first | assumption | (simp; done) | omega | (simp; omega)) (by first | assumption | simp [go_sem, kH8, zH8]) (by first | assumption | simp [go_sem, fH8, zH8])
  obtain ⟨kI7, fI7, zI7⟩ := live (.int .u64 t0) h9 (w7.heap.size) 1 (by first | assumption | (simp; done) | omega | (simp; omega)) (by first | assumption | simp [go_sem, kH9, zH9]) (by first | assumption | simp [go_sem, fH9, zH9])
  have B9 : Below w.heap.size w w9 := Below.trans (by go_grown) (h9.mono (by first | (simp; done) | omega | (simp; omega)))
  have y9 := B9.size
  clear h9 B8 kH0 kH1 fH0 fH1 kH2 kH3 fH2 fH3 kH4 kH5 fH4 fH5 kH6 kH7 fH6 fH7 kH8 kH9 fH8 fH9
  go_wp2_with fail
  all_goals
    refine (k9 _).mono ?_
    rintro e w10 ⟨rfl, h10⟩
    obtain ⟨kJ0, fJ0, zJ0⟩ := live (.int .i64 a1) h10 (w.heap.size) 0 (by first | assumption | (simp; done) | omega | (simp; omega)) (by first | assumption | simp [go_sem, kI0, zI0]) (by first | assumption | simp [go_sem, fI0, zI0])
    obtain ⟨kJ1, fJ1, zJ1⟩ := live (.int .u64 a0) h10 (w.heap.size) 1 (by first | assumption | (simp; done) | omega | (simp; omega)) (by first | assumption | simp [go_sem, kI1, zI1]) (by first | assumption | simp [go_sem, fI1, zI1])
    have B10 : Below w.heap.size w w10 := Below.trans (by go_grown) (h10.mono (by first | (simp; done) | omega | (simp; omega)))
    have y10 := B10.size
    clear h10 B9 kI0 kI1 fI0 fI1 kI2 kI3 fI2 fI3 kI4 kI5 fI4 fI5 kI6 kI7 fI6 fI7
    go_wp2_with fail
    all_goals go_returns
    all_goals exact ⟨rfl, by go_grown⟩
set_option maxHeartbeats 8000000 in
theorem laws_11 (a1 a0 b1 b0 c1 c0 x1 x0 p1 p0 s1 s0 t1 t0 r1 r0 : Int) (k0 : ∀ w, Calls Try.prog 27 #[] w fun e w' => e = .returned (.bool true) ∧ Below w.heap.size w w')
    (k1 : ∀ w, Calls Try.prog 28 #[.agg #[.int .i64 a1, .int .u64 a0], .agg #[.int .i64 b1, .int .u64 b0]] w fun e w' => e = .returned (.tuple #[.agg #[.int .i64 x1, .int .u64 x0], .int .i64 0]) ∧ Below w.heap.size w w')
    (k2 : ∀ w, Calls Try.prog 28 #[.agg #[.int .i64 b1, .int .u64 b0], .agg #[.int .i64 a1, .int .u64 a0]] w fun e w' => e = .returned (.tuple #[.agg #[.int .i64 x1, .int .u64 x0], .int .i64 0]) ∧ Below w.heap.size w w')
    (k3 : ∀ w, Calls Try.prog 32 #[.agg #[.int .i64 a1, .int .u64 a0], .agg #[.int .i64 b1, .int .u64 b0]] w fun e w' => e = .returned (.tuple #[.agg #[.int .i64 p1, .int .u64 p0], .int .i64 0]) ∧ Below w.heap.size w w')
    (k4 : ∀ w, Calls Try.prog 32 #[.agg #[.int .i64 b1, .int .u64 b0], .agg #[.int .i64 a1, .int .u64 a0]] w fun e w' => e = .returned (.tuple #[.agg #[.int .i64 p1, .int .u64 p0], .int .i64 0]) ∧ Below w.heap.size w w')
    (k5 : ∀ w, Calls Try.prog 28 #[.agg #[.int .i64 b1, .int .u64 b0], .agg #[.int .i64 c1, .int .u64 c0]] w fun e w' => e = .returned (.tuple #[.agg #[.int .i64 s1, .int .u64 s0], .int .i64 0]) ∧ Below w.heap.size w w')
    (k6 : ∀ w, Calls Try.prog 32 #[.agg #[.int .i64 a1, .int .u64 a0], .agg #[.int .i64 s1, .int .u64 s0]] w fun e w' => e = .returned (.tuple #[.agg #[.int .i64 t1, .int .u64 t0], .int .i64 0]) ∧ Below w.heap.size w w')
    (k7 : ∀ w, Calls Try.prog 32 #[.agg #[.int .i64 a1, .int .u64 a0], .agg #[.int .i64 c1, .int .u64 c0]] w fun e w' => e = .returned (.tuple #[.agg #[.int .i64 r1, .int .u64 r0], .int .i64 0]) ∧ Below w.heap.size w w')
    (k8 : ∀ w, Calls Try.prog 28 #[.agg #[.int .i64 p1, .int .u64 p0], .agg #[.int .i64 r1, .int .u64 r0]] w fun e w' => e = .returned (.tuple #[.agg #[.int .i64 t1, .int .u64 t0], .int .i64 0]) ∧ Below w.heap.size w w')
    (k9 : ∀ w, Calls Try.prog 30 #[.agg #[.int .i64 x1, .int .u64 x0], .agg #[.int .i64 b1, .int .u64 b0]] w fun e w' => e = .returned (.tuple #[.agg #[.int .i64 a1, .int .u64 a0], .int .i64 0]) ∧ Below w.heap.size w w')
     (w : World) :
    Calls Try.prog 12 #[.agg #[.int .i64 a1, .int .u64 a0], .agg #[.int .i64 b1, .int .u64 b0], .agg #[.int .i64 c1, .int .u64 c0]] w fun e w' => e = .returned (.bool true) ∧ Below w.heap.size w w' := by
  go_enter Try.func12, Try.ntmps12
  go_wp2_with fail
  refine (k0 _).mono ?_
  rintro e w1 ⟨rfl, h1⟩
  obtain ⟨kA0, fA0, zA0⟩ := live (.int .i64 a1) h1 (w.heap.size) 0 (by first | assumption | (simp; done) | omega | (simp; omega)) (by first | assumption | simp [go_sem]) (by first | assumption | simp [go_sem])
  obtain ⟨kA1, fA1, zA1⟩ := live (.int .u64 a0) h1 (w.heap.size) 1 (by first | assumption | (simp; done) | omega | (simp; omega)) (by first | assumption | simp [go_sem]) (by first | assumption | simp [go_sem])
  obtain ⟨kA2, fA2, zA2⟩ := live (.int .i64 b1) h1 (w.heap.size + 1) 0 (by first | assumption | (simp; done) | omega | (simp; omega)) (by first | assumption | simp [go_sem]) (by first | assumption | simp [go_sem])
  obtain ⟨kA3, fA3, zA3⟩ := live (.int .u64 b0) h1 (w.heap.size + 1) 1 (by first | assumption | (simp; done) | omega | (simp; omega)) (by first | assumption | simp [go_sem]) (by first | assumption | simp [go_sem])
  obtain ⟨kA4, fA4, zA4⟩ := live (.int .i64 c1) h1 (w.heap.size + 1 + 1) 0 (by first | assumption | (simp; done) | omega | (simp; omega)) (by first | assumption | simp [go_sem]) (by first | assumption | simp [go_sem])
  obtain ⟨kA5, fA5, zA5⟩ := live (.int .u64 c0) h1 (w.heap.size + 1 + 1) 1 (by first | assumption | (simp; done) | omega | (simp; omega)) (by first | assumption | simp [go_sem]) (by first | assumption | simp [go_sem])
  have B1 : Below w.heap.size w w1 := Below.trans (by go_grown) (h1.mono (by simp; try omega))
  have y1 := B1.size
  clear h1
  go_wp2_with fail
  refine (k1 _).mono ?_
  rintro e w2 ⟨rfl, h2⟩
  obtain ⟨kB0, fB0, zB0⟩ := live (.int .i64 a1) h2 (w.heap.size) 0 (by first | assumption | (simp; done) | omega | (simp; omega)) (by first | assumption | simp [go_sem, kA0, zA0]) (by first | assumption | simp [go_sem, fA0, zA0])
  obtain ⟨kB1, fB1, zB1⟩ := live (.int .u64 a0) h2 (w.heap.size) 1 (by first | assumption | (simp; done) | omega | (simp; omega)) (by first | assumption | simp [go_sem, kA1, zA1]) (by first | assumption | simp [go_sem, fA1, zA1])
  obtain ⟨kB2, fB2, zB2⟩ := live (.int .i64 b1) h2 (w.heap.size + 1) 0 (by first | assumption | (simp; done) | omega | (simp; omega)) (by first | assumption | simp [go_sem, kA2, zA2]) (by first | assumption | simp [go_sem, fA2, zA2])
  obtain ⟨kB3, fB3, zB3⟩ := live (.int .u64 b0) h2 (w.heap.size + 1) 1 (by first | assumption | (simp; done) | omega | (simp; omega)) (by first | assumption | simp [go_sem, kA3, zA3]) (by first | assumption | simp [go_sem, fA3, zA3])
  obtain ⟨kB4, fB4, zB4⟩ := live (.int .i64 c1) h2 (w.heap.size + 1 + 1) 0 (by first | assumption | (simp; done) | omega | (simp; omega)) (by first | assumption | simp [go_sem, kA4, zA4]) (by first | assumption | simp [go_sem, fA4, zA4])
  obtain ⟨kB5, fB5, zB5⟩ := live (.int .u64 c0) h2 (w.heap.size + 1 + 1) 1 (by first | assumption | (simp; done) | omega | (simp; omega)) (by first | assumption | simp [go_sem, kA5, zA5]) (by first | assumption | simp [go_sem, fA5, zA5])
  have B2 : Below w.heap.size w w2 := Below.trans (by go_grown) (h2.mono (by first | (simp; done) | omega | (simp; omega)))
  have y2 := B2.size
  clear h2 B1 kA0 kA1 fA0 fA1 kA2 kA3 fA2 fA3 kA4 kA5 fA4 fA5
  go_wp2_with fail
  refine (k2 _).mono ?_
  rintro e w3 ⟨rfl, h3⟩
  obtain ⟨kC0, fC0, zC0⟩ := live (.int .i64 a1) h3 (w.heap.size) 0 (by first | assumption | (simp; done) | omega | (simp; omega)) (by first | assumption | simp [go_sem, kB0, zB0]) (by first | assumption | simp [go_sem, fB0, zB0])
  obtain ⟨kC1, fC1, zC1⟩ := live (.int .u64 a0) h3 (w.heap.size) 1 (by first | assumption | (simp; done) | omega | (simp; omega)) (by first | assumption | simp [go_sem, kB1, zB1]) (by first | assumption | simp [go_sem, fB1, zB1])
  obtain ⟨kC2, fC2, zC2⟩ := live (.int .i64 b1) h3 (w.heap.size + 1) 0 (by first | assumption | (simp; done) | omega | (simp; omega)) (by first | assumption | simp [go_sem, kB2, zB2]) (by first | assumption | simp [go_sem, fB2, zB2])
  obtain ⟨kC3, fC3, zC3⟩ := live (.int .u64 b0) h3 (w.heap.size + 1) 1 (by first | assumption | (simp; done) | omega | (simp; omega)) (by first | assumption | simp [go_sem, kB3, zB3]) (by first | assumption | simp [go_sem, fB3, zB3])
  obtain ⟨kC4, fC4, zC4⟩ := live (.int .i64 c1) h3 (w.heap.size + 1 + 1) 0 (by first | assumption | (simp; done) | omega | (simp; omega)) (by first | assumption | simp [go_sem, kB4, zB4]) (by first | assumption | simp [go_sem, fB4, zB4])
  obtain ⟨kC5, fC5, zC5⟩ := live (.int .u64 c0) h3 (w.heap.size + 1 + 1) 1 (by first | assumption | (simp; done) | omega | (simp; omega)) (by first | assumption | simp [go_sem, kB5, zB5]) (by first | assumption | simp [go_sem, fB5, zB5])
  obtain ⟨kC6, fC6, zC6⟩ := live (.int .i64 x1) h3 (w2.heap.size) 0 (by first | assumption | (simp; done) | omega | (simp; omega)) (by first | assumption | simp [go_sem]) (by first | assumption | simp [go_sem])
  obtain ⟨kC7, fC7, zC7⟩ := live (.int .u64 x0) h3 (w2.heap.size) 1 (by first | assumption | (simp; done) | omega | (simp; omega)) (by first | assumption | simp [go_sem]) (by first | assumption | simp [go_sem])
  have B3 : Below w.heap.size w w3 := Below.trans (by go_grown) (h3.mono (by first | (simp; done) | omega | (simp; omega)))
  have y3 := B3.size
  clear h3 B2 kB0 kB1 fB0 fB1 kB2 kB3 fB2 fB3 kB4 kB5 fB4 fB5
  go_wp2_with fail
  refine (k3 _).mono ?_
  rintro e w4 ⟨rfl, h4⟩
  obtain ⟨kD0, fD0, zD0⟩ := live (.int .i64 a1) h4 (w.heap.size) 0 (by first | assumption | (simp; done) | omega | (simp; omega)) (by first | assumption | simp [go_sem, kC0, zC0]) (by first | assumption | simp [go_sem, fC0, zC0])
  obtain ⟨kD1, fD1, zD1⟩ := live (.int .u64 a0) h4 (w.heap.size) 1 (by first | assumption | (simp; done) | omega | (simp; omega)) (by first | assumption | simp [go_sem, kC1, zC1]) (by first | assumption | simp [go_sem, fC1, zC1])
  obtain ⟨kD2, fD2, zD2⟩ := live (.int .i64 b1) h4 (w.heap.size + 1) 0 (by first | assumption | (simp; done) | omega | (simp; omega)) (by first | assumption | simp [go_sem, kC2, zC2]) (by first | assumption | simp [go_sem, fC2, zC2])
  obtain ⟨kD3, fD3, zD3⟩ := live (.int .u64 b0) h4 (w.heap.size + 1) 1 (by first | assumption | (simp; done) | omega | (simp; omega)) (by first | assumption | simp [go_sem, kC3, zC3]) (by first | assumption | simp [go_sem, fC3, zC3])
  obtain ⟨kD4, fD4, zD4⟩ := live (.int .i64 c1) h4 (w.heap.size + 1 + 1) 0 (by first | assumption | (simp; done) | omega | (simp; omega)) (by first | assumption | simp [go_sem, kC4, zC4]) (by first | assumption | simp [go_sem, fC4, zC4])
  obtain ⟨kD5, fD5, zD5⟩ := live (.int .u64 c0) h4 (w.heap.size + 1 + 1) 1 (by first | assumption | (simp; done) | omega | (simp; omega)) (by first | assumption | simp [go_sem, kC5, zC5]) (by first | assumption | simp [go_sem, fC5, zC5])
  obtain ⟨kD6, fD6, zD6⟩ := live (.int .i64 x1) h4 (w2.heap.size) 0 (by first | assumption | (simp; done) | omega | (simp; omega)) (by first | assumption | simp [go_sem, kC6, zC6]) (by first | assumption | simp [go_sem, fC6, zC6])
  obtain ⟨kD7, fD7, zD7⟩ := live (.int .u64 x0) h4 (w2.heap.size) 1 (by first | assumption | (simp; done) | omega | (simp; omega)) (by first | assumption | simp [go_sem, kC7, zC7]) (by first | assumption | simp [go_sem, fC7, zC7])
  obtain ⟨kD8, fD8, zD8⟩ := live (.int .i64 x1) h4 (w3.heap.size) 0 (by first | assumption | (simp; done) | omega | (simp; omega)) (by first | assumption | simp [go_sem]) (by first | assumption | simp [go_sem])
  obtain ⟨kD9, fD9, zD9⟩ := live (.int .u64 x0) h4 (w3.heap.size) 1 (by first | assumption | (simp; done) | omega | (simp; omega)) (by first | assumption | simp [go_sem]) (by first | assumption | simp [go_sem])
  have B4 : Below w.heap.size w w4 := Below.trans (by go_grown) (h4.mono (by first | (simp; done) | omega | (simp; omega)))
  have y4 := B4.size
  clear h4 B3 kC0 kC1 fC0 fC1 kC2 kC3 fC2 fC3 kC4 kC5 fC4 fC5 kC6 kC7 fC6 fC7
  go_wp2_with fail
  refine (k4 _).mono ?_
  rintro e w5 ⟨rfl, h5⟩
  obtain ⟨kE0, fE0, zE0⟩ := live (.int .i64 a1) h5 (w.heap.size) 0 (by first | assumption | (simp; done) | omega | (simp; omega)) (by first | assumption | simp [go_sem, kD0, zD0]) (by first | assumption | simp [go_sem, fD0, zD0])
  obtain ⟨kE1, fE1, zE1⟩ := live (.int .u64 a0) h5 (w.heap.size) 1 (by first | assumption | (simp; done) | omega | (simp; omega)) (by first | assumption | simp [go_sem, kD1, zD1]) (by first | assumption | simp [go_sem, fD1, zD1])
  obtain ⟨kE2, fE2, zE2⟩ := live (.int .i64 b1) h5 (w.heap.size + 1) 0 (by first | assumption | (simp; done) | omega | (simp; omega)) (by first | assumption | simp [go_sem, kD2, zD2]) (by first | assumption | simp [go_sem, fD2, zD2])
  obtain ⟨kE3, fE3, zE3⟩ := live (.int .u64 b0) h5 (w.heap.size + 1) 1 (by first | assumption | (simp; done) | omega | (simp; omega)) (by first | assumption | simp [go_sem, kD3, zD3]) (by first | assumption | simp [go_sem, fD3, zD3])
  obtain ⟨kE4, fE4, zE4⟩ := live (.int .i64 c1) h5 (w.heap.size + 1 + 1) 0 (by first | assumption | (simp; done) | omega | (simp; omega)) (by first | assumption | simp [go_sem, kD4, zD4]) (by first | assumption | simp [go_sem, fD4, zD4])
  obtain ⟨kE5, fE5, zE5⟩ := live (.int .u64 c0) h5 (w.heap.size + 1 + 1) 1 (by first | assumption | (simp; done) | omega | (simp; omega)) (by first | assumption | simp [go_sem, kD5, zD5]) (by first | assumption | simp [go_sem, fD5, zD5])
  obtain ⟨kE6, fE6, zE6⟩ := live (.int .i64 x1) h5 (w2.heap.size) 0 (by first | assumption | (simp; done) | omega | (simp; omega)) (by first | assumption | simp [go_sem, kD6, zD6]) (by first | assumption | simp [go_sem, fD6, zD6])
  obtain ⟨kE7, fE7, zE7⟩ := live (.int .u64 x0) h5 (w2.heap.size) 1 (by first | assumption | (simp; done) | omega | (simp; omega)) (by first | assumption | simp [go_sem, kD7, zD7]) (by first | assumption | simp [go_sem, fD7, zD7])
  obtain ⟨kE8, fE8, zE8⟩ := live (.int .i64 x1) h5 (w3.heap.size) 0 (by first | assumption | (simp; done) | omega | (simp; omega)) (by first | assumption | simp [go_sem, kD8, zD8]) (by first | assumption | simp [go_sem, fD8, zD8])
  obtain ⟨kE9, fE9, zE9⟩ := live (.int .u64 x0) h5 (w3.heap.size) 1 (by first | assumption | (simp; done) | omega | (simp; omega)) (by first | assumption | simp [go_sem, kD9, zD9]) (by first | assumption | simp [go_sem, fD9, zD9])
  obtain ⟨kE10, fE10, zE10⟩ := live (.int .i64 p1) h5 (w4.heap.size) 0 (by first | assumption | (simp; done) | omega | (simp; omega)) (by first | assumption | simp [go_sem]) (by first | assumption | simp [go_sem])
  obtain ⟨kE11, fE11, zE11⟩ := live (.int .u64 p0) h5 (w4.heap.size) 1 (by first | assumption | (simp; done) | omega | (simp; omega)) (by first | assumption | simp [go_sem]) (by first | assumption | simp [go_sem])
  have B5 : Below w.heap.size w w5 := Below.trans (by go_grown) (h5.mono (by first | (simp; done) | omega | (simp; omega)))
  have y5 := B5.size
  clear h5 B4 kD0 kD1 fD0 fD1 kD2 kD3 fD2 fD3 kD4 kD5 fD4 fD5 kD6 kD7 fD6 fD7 kD8 kD9 fD8 fD9
  go_wp2_with fail
  refine (k5 _).mono ?_
  rintro e w6 ⟨rfl, h6⟩
  obtain ⟨kF0, fF0, zF0⟩ := live (.int .i64 a1) h6 (w.heap.size) 0 (by first | assumption | (simp; done) | omega | (simp; omega)) (by first | assumption | simp [go_sem, kE0, zE0]) (by first | assumption | simp [go_sem, fE0, zE0])
  obtain ⟨kF1, fF1, zF1⟩ := live (.int .u64 a0) h6 (w.heap.size) 1 (by first | assumption | (simp; done) | omega | (simp; omega)) (by first | assumption | simp [go_sem, kE1, zE1]) (by first | assumption | simp [go_sem, fE1, zE1])
  obtain ⟨kF2, fF2, zF2⟩ := live (.int .i64 b1) h6 (w.heap.size + 1) 0 (by first | assumption | (simp; done) | omega | (simp; omega)) (by first | assumption | simp [go_sem, kE2, zE2]) (by first | assumption | simp [go_sem, fE2, zE2])
  obtain ⟨kF3, fF3, zF3⟩ := live (.int .u64 b0) h6 (w.heap.size + 1) 1 (by first | assumption | (simp; done) | omega | (simp; omega)) (by first | assumption | simp [go_sem, kE3, zE3]) (by first | assumption | simp [go_sem, fE3, zE3])
  obtain ⟨kF4, fF4, zF4⟩ := live (.int .i64 c1) h6 (w.heap.size + 1 + 1) 0 (by first | assumption | (simp; done) | omega | (simp; omega)) (by first | assumption | simp [go_sem, kE4, zE4]) (by first | assumption | simp [go_sem, fE4, zE4])
  obtain ⟨kF5, fF5, zF5⟩ := live (.int .u64 c0) h6 (w.heap.size + 1 + 1) 1 (by first | assumption | (simp; done) | omega | (simp; omega)) (by first | assumption | simp [go_sem, kE5, zE5]) (by first | assumption | simp [go_sem, fE5, zE5])
  obtain ⟨kF6, fF6, zF6⟩ := live (.int .i64 x1) h6 (w2.heap.size) 0 (by first | assumption | (simp; done) | omega | (simp; omega)) (by first | assumption | simp [go_sem, kE6, zE6]) (by first | assumption | simp [go_sem, fE6, zE6])
  obtain ⟨kF7, fF7, zF7⟩ := live (.int .u64 x0) h6 (w2.heap.size) 1 (by first | assumption | (simp; done) | omega | (simp; omega)) (by first | assumption | simp [go_sem, kE7, zE7]) (by first | assumption | simp [go_sem, fE7, zE7])
  obtain ⟨kF8, fF8, zF8⟩ := live (.int .i64 p1) h6 (w4.heap.size) 0 (by first | assumption | (simp; done) | omega | (simp; omega)) (by first | assumption | simp [go_sem, kE10, zE10]) (by first | assumption | simp [go_sem, fE10, zE10])
  obtain ⟨kF9, fF9, zF9⟩ := live (.int .u64 p0) h6 (w4.heap.size) 1 (by first | assumption | (simp; done) | omega | (simp; omega)) (by first | assumption | simp [go_sem, kE11, zE11]) (by first | assumption | simp [go_sem, fE11, zE11])
  have B6 : Below w.heap.size w w6 := Below.trans (by go_grown) (h6.mono (by first | (simp; done) | omega | (simp; omega)))
  have y6 := B6.size
  clear h6 B5 kE0 kE1 fE0 fE1 kE2 kE3 fE2 fE3 kE4 kE5 fE4 fE5 kE6 kE7 fE6 fE7 kE8 kE9 fE8 fE9 kE10 kE11 fE10 fE11
  go_wp2_with fail
  refine (k6 _).mono ?_
  rintro e w7 ⟨rfl, h7⟩
  obtain ⟨kG0, fG0, zG0⟩ := live (.int .i64 a1) h7 (w.heap.size) 0 (by first | assumption | (simp; done) | omega | (simp; omega)) (by first | assumption | simp [go_sem, kF0, zF0]) (by first | assumption | simp [go_sem, fF0, zF0])
  obtain ⟨kG1, fG1, zG1⟩ := live (.int .u64 a0) h7 (w.heap.size) 1 (by first | assumption | (simp; done) | omega | (simp; omega)) (by first | assumption | simp [go_sem, kF1, zF1]) (by first | assumption | simp [go_sem, fF1, zF1])
  obtain ⟨kG2, fG2, zG2⟩ := live (.int .i64 b1) h7 (w.heap.size + 1) 0 (by first | assumption | (simp; done) | omega | (simp; omega)) (by first | assumption | simp [go_sem, kF2, zF2]) (by first | assumption | simp [go_sem, fF2, zF2])
  obtain ⟨kG3, fG3, zG3⟩ := live (.int .u64 b0) h7 (w.heap.size + 1) 1 (by first | assumption | (simp; done) | omega | (simp; omega)) (by first | assumption | simp [go_sem, kF3, zF3]) (by first | assumption | simp [go_sem, fF3, zF3])
  obtain ⟨kG4, fG4, zG4⟩ := live (.int .i64 c1) h7 (w.heap.size + 1 + 1) 0 (by first | assumption | (simp; done) | omega | (simp; omega)) (by first | assumption | simp [go_sem, kF4, zF4]) (by first | assumption | simp [go_sem, fF4, zF4])
  obtain ⟨kG5, fG5, zG5⟩ := live (.int .u64 c0) h7 (w.heap.size + 1 + 1) 1 (by first | assumption | (simp; done) | omega | (simp; omega)) (by first | assumption | simp [go_sem, kF5, zF5]) (by first | assumption | simp [go_sem, fF5, zF5])
  obtain ⟨kG6, fG6, zG6⟩ := live (.int .i64 x1) h7 (w2.heap.size) 0 (by first | assumption | (simp; done) | omega | (simp; omega)) (by first | assumption | simp [go_sem, kF6, zF6]) (by first | assumption | simp [go_sem, fF6, zF6])
  obtain ⟨kG7, fG7, zG7⟩ := live (.int .u64 x0) h7 (w2.heap.size) 1 (by first | assumption | (simp; done) | omega | (simp; omega)) (by first | assumption | simp [go_sem, kF7, zF7]) (by first | assumption | simp [go_sem, fF7, zF7])
  obtain ⟨kG8, fG8, zG8⟩ := live (.int .i64 p1) h7 (w4.heap.size) 0 (by first | assumption | (simp; done) | omega | (simp; omega)) (by first | assumption | simp [go_sem, kF8, zF8]) (by first | assumption | simp [go_sem, fF8, zF8])
  obtain ⟨kG9, fG9, zG9⟩ := live (.int .u64 p0) h7 (w4.heap.size) 1 (by first | assumption | (simp; done) | omega | (simp; omega)) (by first | assumption | simp [go_sem, kF9, zF9]) (by first | assumption | simp [go_sem, fF9, zF9])
  have B7 : Below w.heap.size w w7 := Below.trans (by go_grown) (h7.mono (by first | (simp; done) | omega | (simp; omega)))
  have y7 := B7.size
  clear h7 B6 kF0 kF1 fF0 fF1 kF2 kF3 fF2 fF3 kF4 kF5 fF4 fF5 kF6 kF7 fF6 fF7 kF8 kF9 fF8 fF9
  go_wp2_with fail
  refine (k7 _).mono ?_
  rintro e w8 ⟨rfl, h8⟩
  obtain ⟨kH0, fH0, zH0⟩ := live (.int .i64 a1) h8 (w.heap.size) 0 (by first | assumption | (simp; done) | omega | (simp; omega)) (by first | assumption | simp [go_sem, kG0, zG0]) (by first | assumption | simp [go_sem, fG0, zG0])
  obtain ⟨kH1, fH1, zH1⟩ := live (.int .u64 a0) h8 (w.heap.size) 1 (by first | assumption | (simp; done) | omega | (simp; omega)) (by first | assumption | simp [go_sem, kG1, zG1]) (by first | assumption | simp [go_sem, fG1, zG1])
  obtain ⟨kH2, fH2, zH2⟩ := live (.int .i64 b1) h8 (w.heap.size + 1) 0 (by first | assumption | (simp; done) | omega | (simp; omega)) (by first | assumption | simp [go_sem, kG2, zG2]) (by first | assumption | simp [go_sem, fG2, zG2])
  obtain ⟨kH3, fH3, zH3⟩ := live (.int .u64 b0) h8 (w.heap.size + 1) 1 (by first | assumption | (simp; done) | omega | (simp; omega)) (by first | assumption | simp [go_sem, kG3, zG3]) (by first | assumption | simp [go_sem, fG3, zG3])
  obtain ⟨kH4, fH4, zH4⟩ := live (.int .i64 x1) h8 (w2.heap.size) 0 (by first | assumption | (simp; done) | omega | (simp; omega)) (by first | assumption | simp [go_sem, kG6, zG6]) (by first | assumption | simp [go_sem, fG6, zG6])
  obtain ⟨kH5, fH5, zH5⟩ := live (.int .u64 x0) h8 (w2.heap.size) 1 (by first | assumption | (simp; done) | omega | (simp; omega)) (by first | assumption | simp [go_sem, kG7, zG7]) (by first | assumption | simp [go_sem, fG7, zG7])
  obtain ⟨kH6, fH6, zH6⟩ := live (.int .i64 p1) h8 (w4.heap.size) 0 (by first | assumption | (simp; done) | omega | (simp; omega)) (by first | assumption | simp [go_sem, kG8, zG8]) (by first | assumption | simp [go_sem, fG8, zG8])
  obtain ⟨kH7, fH7, zH7⟩ := live (.int .u64 p0) h8 (w4.heap.size) 1 (by first | assumption | (simp; done) | omega | (simp; omega)) (by first | assumption | simp [go_sem, kG9, zG9]) (by first | assumption | simp [go_sem, fG9, zG9])
  obtain ⟨kH8, fH8, zH8⟩ := live (.int .i64 t1) h8 (w7.heap.size) 0 (by first | assumption | (simp; done) | omega | (simp; omega)) (by first | assumption | simp [go_sem]) (by first | assumption | simp [go_sem])
  obtain ⟨kH9, fH9, zH9⟩ := live (.int .u64 t0) h8 (w7.heap.size) 1 (by first | assumption | (simp; done) | omega | (simp; omega)) (by first | assumption | simp [go_sem]) (by first | assumption | simp [go_sem])
  have B8 : Below w.heap.size w w8 := Below.trans (by go_grown) (h8.mono (by first | (simp; done) | omega | (simp; omega)))
  have y8 := B8.size
  clear h8 B7 kG0 kG1 fG0 fG1 kG2 kG3 fG2 fG3 kG4 kG5 fG4 fG5 kG6 kG7 fG6 fG7 kG8 kG9 fG8 fG9
  go_wp2_with fail
  refine (k8 _).mono ?_
  rintro e w9 ⟨rfl, h9⟩
  obtain ⟨kI0, fI0, zI0⟩ := live (.int .i64 a1) h9 (w.heap.size) 0 (by first | assumption | (simp; done) | omega | (simp; omega)) (by first | assumption | simp [go_sem, kH0, zH0]) (by first | assumption | simp [go_sem, fH0, zH0])
  obtain ⟨kI1, fI1, zI1⟩ := live (.int .u64 a0) h9 (w.heap.size) 1 (by first | assumption | (simp; done) | omega | (simp; omega)) (by first | assumption | simp [go_sem, kH1, zH1]) (by first | assumption | simp [go_sem, fH1, zH1])
  obtain ⟨kI2, fI2, zI2⟩ := live (.int .i64 b1) h9 (w.heap.size + 1) 0 (by first | assumption | (simp; done) | omega | (simp; omega)) (by first | assumption | simp [go_sem, kH2, zH2]) (by first | assumption | simp [go_sem, fH2, zH2])
  obtain ⟨kI3, fI3, zI3⟩ := live (.int .u64 b0) h9 (w.heap.size + 1) 1 (by first | assumption | (simp; done) | omega | (simp; omega)) (by first | assumption | simp [go_sem, kH3, zH3]) (by first | assumption | simp [go_sem, fH3, zH3])
  obtain ⟨kI4, fI4, zI4⟩ := live (.int .i64 x1) h9 (w2.heap.size) 0 (by first | assumption | (simp; done) | omega | (simp; omega)) (by first | assumption | simp [go_sem, kH4, zH4]) (by first | assumption | simp [go_sem, fH4, zH4])
  obtain ⟨kI5, fI5, zI5⟩ := live (.int .u64 x0) h9 (w2.heap.size) 1 (by first | assumption | (simp; done) | omega | (simp; omega)) (by first | assumption | simp [go_sem, kH5, zH5]) (by first | assumption | simp [go_sem, fH5, zH5])
  obtain ⟨kI6, fI6, zI6⟩ := live (.int .i64 t1) h9 (w7.heap.size) 0 (by first | assumption | (simp; done) | omega | (simp; omega)) (by first | assumption | simp [go_sem, kH8, zH8]) (by first | assumption | simp [go_sem, fH8, zH8])
  obtain ⟨kI7, fI7, zI7⟩ := live (.int .u64 t0) h9 (w7.heap.size) 1 (by first | assumption | (simp; done) | omega | (simp; omega)) (by first | assumption | simp [go_sem, kH9, zH9]) (by first | assumption | simp [go_sem, fH9, zH9])
  have B9 : Below w.heap.size w w9 := Below.trans (by go_grown) (h9.mono (by first | (simp; done) | omega | (simp; omega)))
  have y9 := B9.size
  clear h9 B8 kH0 kH1 fH0 fH1 kH2 kH3 fH2 fH3 kH4 kH5 fH4 fH5 kH6 kH7 fH6 fH7 kH8 kH9 fH8 fH9
  go_wp2_with fail
  all_goals
    refine (k9 _).mono ?_
    rintro e w10 ⟨rfl, h10⟩
    obtain ⟨kJ0, fJ0, zJ0⟩ := live (.int .i64 a1) h10 (w.heap.size) 0 (by first | assumption | (simp; done) | omega | (simp; omega)) (by first | assumption | simp [go_sem, kI0, zI0]) (by first | assumption | simp [go_sem, fI0, zI0])
    obtain ⟨kJ1, fJ1, zJ1⟩ := live (.int .u64 a0) h10 (w.heap.size) 1 (by first | assumption | (simp; done) | omega | (simp; omega)) (by first | assumption | simp [go_sem, kI1, zI1]) (by first | assumption | simp [go_sem, fI1, zI1])
    have B10 : Below w.heap.size w w10 := Below.trans (by go_grown) (h10.mono (by first | (simp; done) | omega | (simp; omega)))
    have y10 := B10.size
    clear h10 B9 kI0 kI1 fI0 fI1 kI2 kI3 fI2 fI3 kI4 kI5 fI4 fI5 kI6 kI7 fI6 fI7
    go_wp2_with fail
    all_goals go_returns
    all_goals exact ⟨rfl, by go_grown⟩
end Go.Proofs.Ytjnjfdlmfinhfaa
