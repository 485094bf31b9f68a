/- WideDivides: the walks. (gen_wdiv.py) -/
import Derived.Test.YtjnjfdlmfinhfaaQuo
import Derived.Test.YtjnjfdlmfinhfaaWalive
import Derived.Test.YtjnjfdlmfinhfaaWadd
import Derived.Test.YtjnjfdlmfinhfaaWneg
import Derived.Test.YtjnjfdlmfinhfaaHid
import Derived.Deep.RegionHeld3
import Derived.Deep.DeepCutAuto
namespace Go.Proofs.Ytjnjfdlmfinhfaa
set_option linter.unusedVariables false
open Go.RowKit W
set_option maxHeartbeats 4000000 in
theorem div_fits_nno (a1 a0 b1 b0 q1 q0 r1 r0 p1 p0 c x1 x0 t1 t0 j z : Int) (bz : ¬ b1 = 0) (c0 : (c != 0) = true) (j0 : (j != 0) = true)
    (k0 : ∀ w, Calls Try.prog 27 #[] w fun e w' => e = .returned (.bool true) ∧ Below w.heap.size w w')
    (kq : ∀ w, Calls Try.prog 34 #[.agg #[.int .i64 a1, .int .u64 a0], .agg #[.int .i64 b1, .int .u64 b0]] w fun e w' => e = .returned (.tuple #[.agg #[.int .i64 q1, .int .u64 q0], .agg #[.int .i64 r1, .int .u64 r0], .int .i64 0]) ∧ Below w.heap.size w w')
    (km : ∀ w, Calls Try.prog 32 #[.agg #[.int .i64 q1, .int .u64 q0], .agg #[.int .i64 b1, .int .u64 b0]] w fun e w' => e = .returned (.tuple #[.agg #[.int .i64 p1, .int .u64 p0], .int .i64 0]) ∧ Below w.heap.size w w')
    (ka : ∀ w, Calls Try.prog 28 #[.agg #[.int .i64 p1, .int .u64 p0], .agg #[.int .i64 r1, .int .u64 r0]] w fun e w' => e = .returned (.tuple #[.agg #[.int .i64 a1, .int .u64 a0], .int .i64 0]) ∧ Below w.heap.size w w')
    (kr : ∀ w, Calls Try.prog 25 #[.agg #[.int .i64 r1, .int .u64 r0]] w fun e w' => e = .returned (.int .i64 c) ∧ Below w.heap.size w w')
    (ks : ∀ w, Calls Try.prog 25 #[.agg #[.int .i64 a1, .int .u64 a0]] w fun e w' => e = .returned (.int .i64 c) ∧ Below w.heap.size w w')
    (kx : ∀ w, Calls Try.prog 19 #[.agg #[.int .i64 r1, .int .u64 r0]] w fun e w' => e = .returned (.tuple #[.agg #[.int .i64 x1, .int .u64 x0], .int .i64 0]) ∧ Below w.heap.size w w')
    (ky : ∀ w, Calls Try.prog 19 #[.agg #[.int .i64 b1, .int .u64 b0]] w fun e w' => e = .returned (.tuple #[.agg #[.int .i64 t1, .int .u64 t0], .int .i64 j]) ∧ Below w.heap.size w w')
    (kc : ∀ w, Calls Try.prog 23 #[.agg #[.int .i64 x1, .int .u64 x0], .agg #[.int .i64 t1, .int .u64 t0]] w fun e w' => e = .returned (.int .i64 z) ∧ Below w.heap.size w w')
    (w : World) : Calls Try.prog 13 #[.agg #[.int .i64 a1, .int .u64 a0], .agg #[.int .i64 b1, .int .u64 b0]] w fun e w' => e = .returned (.bool true) ∧ Below w.heap.size w w' := by
  go_enter Try.func13, Try.ntmps13
  go_wp2_with fail
  refine (kq _).mono ?_
  rintro e w1 ⟨rfl, h1⟩
  have B1 : Below w.heap.size w w1 := Below.trans (by go_grown) (h1.mono (by first | (simp; done) | omega | (simp; omega)))
  have y1 := B1.size
  have A0 := box2 h1 (w.heap.size) (.int .i64 a1) (.int .u64 a0) (by first | assumption | (simp [go_sem]; done) | (simp [go_sem]; done)) (by first | assumption | (simp [go_sem]; done) | (simp [go_sem]; done)) (by first | assumption | (simp [go_sem]; done) | (simp [go_sem]; done)) (by first | assumption | (simp [go_sem]; done) | (simp [go_sem]; done)) (by first | assumption | omega | (simp; done) | (simp; omega))
  have A1 := box2 h1 (w.heap.size + 1) (.int .i64 b1) (.int .u64 b0) (by first | assumption | (simp [go_sem]; done) | (simp [go_sem]; done)) (by first | assumption | (simp [go_sem]; done) | (simp [go_sem]; done)) (by first | assumption | (simp [go_sem]; done) | (simp [go_sem]; done)) (by first | assumption | (simp [go_sem]; done) | (simp [go_sem]; done)) (by first | assumption | omega | (simp; done) | (simp; omega))
  obtain ⟨A0c0, A0c1, A0f0, A0f1, A0z⟩ := A0
  obtain ⟨A1c0, A1c1, A1f0, A1f1, A1z⟩ := A1
  (try (have m1_0 : ¬ w.heap.size = w1.heap.size := by omega)); (try (have m1_0' : ¬ w1.heap.size = w.heap.size := by omega))
  clear h1 kq
  go_wp2_with fail
  refine (km _).mono ?_
  rintro e w2 ⟨rfl, h2⟩
  have B2 : Below w.heap.size w w2 := Below.trans (by go_grown) (h2.mono (by first | (simp; done) | omega | (simp; omega)))
  have y2 := B2.size
  have B0 := box2 h2 (w.heap.size) (.int .i64 a1) (.int .u64 a0) (by first | assumption | (refine (Below.cell ?_ A0z).trans A0c0; go_grown; done) | (simp [go_sem, A0c0]; done) | (simp [go_sem, A0c0, A0z]; done) | (simp [go_sem, A0c0, A0c1, A0f0, A0f1, A0z, A1c0, A1c1, A1f0, A1f1, A1z]; done)) (by first | assumption | (refine (Below.cell ?_ A0z).trans A0c1; go_grown; done) | (simp [go_sem, A0c1]; done) | (simp [go_sem, A0c1, A0z]; done) | (simp [go_sem, A0c0, A0c1, A0f0, A0f1, A0z, A1c0, A1c1, A1f0, A1f1, A1z]; done)) (by first | assumption | (refine (Below.frozen ?_ A0z).trans A0f0; go_grown; done) | (simp [go_sem, A0f0]; done) | (simp [go_sem, A0f0, A0z]; done) | (simp [go_sem, A0c0, A0c1, A0f0, A0f1, A0z, A1c0, A1c1, A1f0, A1f1, A1z]; done)) (by first | assumption | (refine (Below.frozen ?_ A0z).trans A0f1; go_grown; done) | (simp [go_sem, A0f1]; done) | (simp [go_sem, A0f1, A0z]; done) | (simp [go_sem, A0c0, A0c1, A0f0, A0f1, A0z, A1c0, A1c1, A1f0, A1f1, A1z]; done)) (by first | assumption | omega | (simp; done) | (simp; omega))
  have B1 := box2 h2 (w.heap.size + 1) (.int .i64 b1) (.int .u64 b0) (by first | assumption | (refine (Below.cell ?_ A1z).trans A1c0; go_grown; done) | (simp [go_sem, A1c0]; done) | (simp [go_sem, A1c0, A1z]; done) | (simp [go_sem, A0c0, A0c1, A0f0, A0f1, A0z, A1c0, A1c1, A1f0, A1f1, A1z]; done)) (by first | assumption | (refine (Below.cell ?_ A1z).trans A1c1; go_grown; done) | (simp [go_sem, A1c1]; done) | (simp [go_sem, A1c1, A1z]; done) | (simp [go_sem, A0c0, A0c1, A0f0, A0f1, A0z, A1c0, A1c1, A1f0, A1f1, A1z]; done)) (by first | assumption | (refine (Below.frozen ?_ A1z).trans A1f0; go_grown; done) | (simp [go_sem, A1f0]; done) | (simp [go_sem, A1f0, A1z]; done) | (simp [go_sem, A0c0, A0c1, A0f0, A0f1, A0z, A1c0, A1c1, A1f0, A1f1, A1z]; done)) (by first | assumption | (refine (Below.frozen ?_ A1z).trans A1f1; go_grown; done) | (simp [go_sem, A1f1]; done) | (simp [go_sem, A1f1, A1z]; done) | (simp [go_sem, A0c0, A0c1, A0f0, A0f1, A0z, A1c0, A1c1, A1f0, A1f1, A1z]; done)) (by first | assumption | omega | (simp; done) | (simp; omega))
  have B2 := box2 h2 (w1.heap.size + 1) (.int .i64 r1) (.int .u64 r0) (by first | assumption | (simp [go_sem]; done) | (simp [go_sem, A0c0, A0c1, A0f0, A0f1, A0z, A1c0, A1c1, A1f0, A1f1, A1z]; done)) (by first | assumption | (simp [go_sem]; done) | (simp [go_sem, A0c0, A0c1, A0f0, A0f1, A0z, A1c0, A1c1, A1f0, A1f1, A1z]; done)) (by first | assumption | (simp [go_sem]; done) | (simp [go_sem, A0c0, A0c1, A0f0, A0f1, A0z, A1c0, A1c1, A1f0, A1f1, A1z]; done)) (by first | assumption | (simp [go_sem]; done) | (simp [go_sem, A0c0, A0c1, A0f0, A0f1, A0z, A1c0, A1c1, A1f0, A1f1, A1z]; done)) (by first | assumption | omega | (simp; done) | (simp; omega))
  clear A0c0 A0c1 A0f0 A0f1 A0z A1c0 A1c1 A1f0 A1f1 A1z
  obtain ⟨B0c0, B0c1, B0f0, B0f1, B0z⟩ := B0
  obtain ⟨B1c0, B1c1, B1f0, B1f1, B1z⟩ := B1
  obtain ⟨B2c0, B2c1, B2f0, B2f1, B2z⟩ := B2
  (try (have m2_0 : ¬ w.heap.size = w2.heap.size := by omega)); (try (have m2_0' : ¬ w2.heap.size = w.heap.size := by omega))
  (try (have m2_1 : ¬ w1.heap.size = w2.heap.size := by omega)); (try (have m2_1' : ¬ w2.heap.size = w1.heap.size := by omega))
  clear h2 km B1
  go_wp2_with fail
  refine (ka _).mono ?_
  rintro e w3 ⟨rfl, h3⟩
  have B3 : Below w.heap.size w w3 := Below.trans (by go_grown) (h3.mono (by first | (simp; done) | omega | (simp; omega)))
  have y3 := B3.size
  have C0 := box2 h3 (w.heap.size) (.int .i64 a1) (.int .u64 a0) (by first | assumption | (refine (Below.cell ?_ B0z).trans B0c0; go_grown; done) | (simp [go_sem, B0c0]; done) | (simp [go_sem, B0c0, B0z]; done) | (simp [go_sem, B0c0, B0c1, B0f0, B0f1, B0z, B1c0, B1c1, B1f0, B1f1, B1z, B2c0, B2c1, B2f0, B2f1, B2z]; done)) (by first | assumption | (refine (Below.cell ?_ B0z).trans B0c1; go_grown; done) | (simp [go_sem, B0c1]; done) | (simp [go_sem, B0c1, B0z]; done) | (simp [go_sem, B0c0, B0c1, B0f0, B0f1, B0z, B1c0, B1c1, B1f0, B1f1, B1z, B2c0, B2c1, B2f0, B2f1, B2z]; done)) (by first | assumption | (refine (Below.frozen ?_ B0z).trans B0f0; go_grown; done) | (simp [go_sem, B0f0]; done) | (simp [go_sem, B0f0, B0z]; done) | (simp [go_sem, B0c0, B0c1, B0f0, B0f1, B0z, B1c0, B1c1, B1f0, B1f1, B1z, B2c0, B2c1, B2f0, B2f1, B2z]; done)) (by first | assumption | (refine (Below.frozen ?_ B0z).trans B0f1; go_grown; done) | (simp [go_sem, B0f1]; done) | (simp [go_sem, B0f1, B0z]; done) | (simp [go_sem, B0c0, B0c1, B0f0, B0f1, B0z, B1c0, B1c1, B1f0, B1f1, B1z, B2c0, B2c1, B2f0, B2f1, B2z]; done)) (by first | assumption | omega | (simp; done) | (simp; omega))
  have C1 := box2 h3 (w.heap.size + 1) (.int .i64 b1) (.int .u64 b0) (by first | assumption | (refine (Below.cell ?_ B1z).trans B1c0; go_grown; done) | (simp [go_sem, B1c0]; done) | (simp [go_sem, B1c0, B1z]; done) | (simp [go_sem, B0c0, B0c1, B0f0, B0f1, B0z, B1c0, B1c1, B1f0, B1f1, B1z, B2c0, B2c1, B2f0, B2f1, B2z]; done)) (by first | assumption | (refine (Below.cell ?_ B1z).trans B1c1; go_grown; done) | (simp [go_sem, B1c1]; done) | (simp [go_sem, B1c1, B1z]; done) | (simp [go_sem, B0c0, B0c1, B0f0, B0f1, B0z, B1c0, B1c1, B1f0, B1f1, B1z, B2c0, B2c1, B2f0, B2f1, B2z]; done)) (by first | assumption | (refine (Below.frozen ?_ B1z).trans B1f0; go_grown; done) | (simp [go_sem, B1f0]; done) | (simp [go_sem, B1f0, B1z]; done) | (simp [go_sem, B0c0, B0c1, B0f0, B0f1, B0z, B1c0, B1c1, B1f0, B1f1, B1z, B2c0, B2c1, B2f0, B2f1, B2z]; done)) (by first | assumption | (refine (Below.frozen ?_ B1z).trans B1f1; go_grown; done) | (simp [go_sem, B1f1]; done) | (simp [go_sem, B1f1, B1z]; done) | (simp [go_sem, B0c0, B0c1, B0f0, B0f1, B0z, B1c0, B1c1, B1f0, B1f1, B1z, B2c0, B2c1, B2f0, B2f1, B2z]; done)) (by first | assumption | omega | (simp; done) | (simp; omega))
  have C2 := box2 h3 (w1.heap.size + 1) (.int .i64 r1) (.int .u64 r0) (by first | assumption | (refine (Below.cell ?_ B2z).trans B2c0; go_grown; done) | (simp [go_sem, B2c0]; done) | (simp [go_sem, B2c0, B2z]; done) | (simp [go_sem, B0c0, B0c1, B0f0, B0f1, B0z, B1c0, B1c1, B1f0, B1f1, B1z, B2c0, B2c1, B2f0, B2f1, B2z]; done)) (by first | assumption | (refine (Below.cell ?_ B2z).trans B2c1; go_grown; done) | (simp [go_sem, B2c1]; done) | (simp [go_sem, B2c1, B2z]; done) | (simp [go_sem, B0c0, B0c1, B0f0, B0f1, B0z, B1c0, B1c1, B1f0, B1f1, B1z, B2c0, B2c1, B2f0, B2f1, B2z]; done)) (by first | assumption | (refine (Below.frozen ?_ B2z).trans B2f0; go_grown; done) | (simp [go_sem, B2f0]; done) | (simp [go_sem, B2f0, B2z]; done) | (simp [go_sem, B0c0, B0c1, B0f0, B0f1, B0z, B1c0, B1c1, B1f0, B1f1, B1z, B2c0, B2c1, B2f0, B2f1, B2z]; done)) (by first | assumption | (refine (Below.frozen ?_ B2z).trans B2f1; go_grown; done) | (simp [go_sem, B2f1]; done) | (simp [go_sem, B2f1, B2z]; done) | (simp [go_sem, B0c0, B0c1, B0f0, B0f1, B0z, B1c0, B1c1, B1f0, B1f1, B1z, B2c0, B2c1, B2f0, B2f1, B2z]; done)) (by first | assumption | omega | (simp; done) | (simp; omega))
  clear B0c0 B0c1 B0f0 B0f1 B0z B1c0 B1c1 B1f0 B1f1 B1z B2c0 B2c1 B2f0 B2f1 B2z
  obtain ⟨C0c0, C0c1, C0f0, C0f1, C0z⟩ := C0
  obtain ⟨C1c0, C1c1, C1f0, C1f1, C1z⟩ := C1
  obtain ⟨C2c0, C2c1, C2f0, C2f1, C2z⟩ := C2
  (try (have m3_0 : ¬ w.heap.size = w3.heap.size := by omega)); (try (have m3_0' : ¬ w3.heap.size = w.heap.size := by omega))
  (try (have m3_1 : ¬ w1.heap.size = w3.heap.size := by omega)); (try (have m3_1' : ¬ w3.heap.size = w1.heap.size := by omega))
  (try (have m3_2 : ¬ w2.heap.size = w3.heap.size := by omega)); (try (have m3_2' : ¬ w3.heap.size = w2.heap.size := by omega))
  clear h3 ka B2
  go_wp2_with fail
  obtain ⟨W, hW⟩ : ∃ X, X = w3.alloc (Obj.cells #[.int .i64 a1, .int .u64 a0] 24) := ⟨_, rfl⟩
  have cW0 : W.cell? ⟨w.heap.size, 0, none⟩ = some (.int .i64 a1) := by rw [hW]; first | (refine (Below.cell ?_ C0z).trans C0c0; go_grown; done) | (simp [go_sem]; done)
  have fW0 : W.frozen? ⟨w.heap.size, 0, none⟩ = false := by rw [hW]; first | (refine (Below.frozen ?_ C0z).trans C0f0; go_grown; done) | (simp [go_sem]; done)
  have zW0 : w.heap.size < W.heap.size := by rw [hW]; first | omega | (simp; done) | (simp; omega)
  have cW1 : W.cell? ⟨w.heap.size, 1, none⟩ = some (.int .u64 a0) := by rw [hW]; first | (refine (Below.cell ?_ C0z).trans C0c1; go_grown; done) | (simp [go_sem]; done)
  have fW1 : W.frozen? ⟨w.heap.size, 1, none⟩ = false := by rw [hW]; first | (refine (Below.frozen ?_ C0z).trans C0f1; go_grown; done) | (simp [go_sem]; done)
  have zW1 : w.heap.size < W.heap.size := by rw [hW]; first | omega | (simp; done) | (simp; omega)
  have cW2 : W.cell? ⟨w.heap.size + 1, 0, none⟩ = some (.int .i64 b1) := by rw [hW]; first | (refine (Below.cell ?_ C1z).trans C1c0; go_grown; done) | (simp [go_sem]; done)
  have fW2 : W.frozen? ⟨w.heap.size + 1, 0, none⟩ = false := by rw [hW]; first | (refine (Below.frozen ?_ C1z).trans C1f0; go_grown; done) | (simp [go_sem]; done)
  have zW2 : w.heap.size + 1 < W.heap.size := by rw [hW]; first | omega | (simp; done) | (simp; omega)
  have cW3 : W.cell? ⟨w.heap.size + 1, 1, none⟩ = some (.int .u64 b0) := by rw [hW]; first | (refine (Below.cell ?_ C1z).trans C1c1; go_grown; done) | (simp [go_sem]; done)
  have fW3 : W.frozen? ⟨w.heap.size + 1, 1, none⟩ = false := by rw [hW]; first | (refine (Below.frozen ?_ C1z).trans C1f1; go_grown; done) | (simp [go_sem]; done)
  have zW3 : w.heap.size + 1 < W.heap.size := by rw [hW]; first | omega | (simp; done) | (simp; omega)
  have cW4 : W.cell? ⟨w1.heap.size + 1, 0, none⟩ = some (.int .i64 r1) := by rw [hW]; first | (refine (Below.cell ?_ C2z).trans C2c0; go_grown; done) | (simp [go_sem]; done)
  have fW4 : W.frozen? ⟨w1.heap.size + 1, 0, none⟩ = false := by rw [hW]; first | (refine (Below.frozen ?_ C2z).trans C2f0; go_grown; done) | (simp [go_sem]; done)
  have zW4 : w1.heap.size + 1 < W.heap.size := by rw [hW]; first | omega | (simp; done) | (simp; omega)
  have cW5 : W.cell? ⟨w1.heap.size + 1, 1, none⟩ = some (.int .u64 r0) := by rw [hW]; first | (refine (Below.cell ?_ C2z).trans C2c1; go_grown; done) | (simp [go_sem]; done)
  have fW5 : W.frozen? ⟨w1.heap.size + 1, 1, none⟩ = false := by rw [hW]; first | (refine (Below.frozen ?_ C2z).trans C2f1; go_grown; done) | (simp [go_sem]; done)
  have zW5 : w1.heap.size + 1 < W.heap.size := by rw [hW]; first | omega | (simp; done) | (simp; omega)
  have cW6 : W.cell? ⟨w3.heap.size, 0, none⟩ = some (.int .i64 a1) := by rw [hW]; first | (simp [go_sem]; done)
  have fW6 : W.frozen? ⟨w3.heap.size, 0, none⟩ = false := by rw [hW]; first | (simp [go_sem]; done)
  have zW6 : w3.heap.size < W.heap.size := by rw [hW]; first | omega | (simp; done) | (simp; omega)
  have cW7 : W.cell? ⟨w3.heap.size, 1, none⟩ = some (.int .u64 a0) := by rw [hW]; first | (simp [go_sem]; done)
  have fW7 : W.frozen? ⟨w3.heap.size, 1, none⟩ = false := by rw [hW]; first | (simp [go_sem]; done)
  have zW7 : w3.heap.size < W.heap.size := by rw [hW]; first | omega | (simp; done) | (simp; omega)
  have BW : Below w.heap.size w W := by rw [hW]; go_grown
  rw [← hW]
  clear hW
  have K0 := Keeps.start (Nat.le_refl W.heap.size)
  have K1 := K0.drew
  go_region_held3 (fun w' => w'.cell? ⟨w.heap.size, 0, none⟩ = some (.int .i64 a1) ∧ w'.cell? ⟨w.heap.size, 1, none⟩ = some (.int .u64 a0) ∧ w'.cell? ⟨w1.heap.size + 1, 0, none⟩ = some (.int .i64 r1) ∧ w'.cell? ⟨w1.heap.size + 1, 1, none⟩ = some (.int .u64 r0) ∧ w'.cell? ⟨w3.heap.size, 0, none⟩ = some (.int .i64 a1) ∧ w'.cell? ⟨w3.heap.size, 1, none⟩ = some (.int .u64 a0) ∧ Keeps W.heap.size W w') ((refine (fun K => ⟨Keeps.cell K cW0 zW0, Keeps.cell K cW1 zW1, Keeps.cell K cW4 zW4, Keeps.cell K cW5 zW5, Keeps.cell K cW6 zW6, Keeps.cell K cW7 zW7, K⟩) (?_ : Keeps W.heap.size W _); (repeat (first | assumption | refine Keeps.alloc ?_ _ | refine Keeps.drew ?_ | refine Keeps.setCell ?_ (by first | (simp; done) | omega | (simp; omega)) _))))
    (first | (go_at_call 25; ((with_reducible refine (kr _).mono ?_); rintro e v21 ⟨rfl, hb21⟩); have L21 := Keeps.call (B := W.heap.size) (W := W) (by repeat (first | assumption | refine Keeps.alloc ?_ _ | refine Keeps.drew ?_ | refine Keeps.setCell ?_ (by first | (simp; done) | omega | (simp; omega)) _)) hb21) | (go_at_call 25; ((with_reducible refine (ks _).mono ?_); rintro e v22 ⟨rfl, hb22⟩); have L22 := Keeps.call (B := W.heap.size) (W := W) (by repeat (first | assumption | refine Keeps.alloc ?_ _ | refine Keeps.drew ?_ | refine Keeps.setCell ?_ (by first | (simp; done) | omega | (simp; omega)) _)) hb22) | (go_at_call 27; ((with_reducible refine (k0 _).mono ?_); rintro e v23 ⟨rfl, hb23⟩); have L23 := Keeps.call (B := W.heap.size) (W := W) (by repeat (first | assumption | refine Keeps.alloc ?_ _ | refine Keeps.drew ?_ | refine Keeps.setCell ?_ (by first | (simp; done) | omega | (simp; omega)) _)) hb23))
  go_wp2_with fail
  have BV : Below w.heap.size w v23 := BW.trans (L23.below.mono BW.size)
  have yv := BV.size
  have d0 := L23.cell cW2 zW2
  have d1 := L23.cell cW3 zW3
  have dz : w.heap.size + 1 < v23.heap.size := by have := L23.below.size; omega
  clear cW0 cW1 cW2 cW3 cW4 cW5 cW6 cW7 fW0 fW1 fW2 fW3 fW4 fW5 fW6 fW7 zW0 zW1 zW2 zW3 zW4 zW5 zW6 zW7 C0c0 C0c1 C0f0 C0f1 C0z C1c0 C1c1 C1f0 C1f1 C1z C2c0 C2c1 C2f0 C2f1 C2z B3 BW kr ks k0 K0 K1
  refine (kx _).mono ?_
  rintro e w4 ⟨rfl, h4⟩
  have B4 : Below w.heap.size w w4 := BV.trans (h4.mono BV.size)
  have y4 := B4.size
  have d2 := (h4.cell (p := ⟨w.heap.size + 1, 0, none⟩) dz).trans d0
  have d3 := (h4.cell (p := ⟨w.heap.size + 1, 1, none⟩) dz).trans d1
  have dz4 := Nat.lt_of_lt_of_le dz h4.size
  have g4 : ¬ w.heap.size = w4.heap.size := by omega
  have g4' : ¬ w.heap.size + 1 = w4.heap.size := by omega
  clear h4 kx d0 d1 BV
  go_wp2_with fail
  refine (ky _).mono ?_
  rintro e w5 ⟨rfl, h5⟩
  have B5 : Below w.heap.size w w5 := Below.trans (by go_grown) (h5.mono (by first | (simp; done) | omega | (simp; omega)))
  have y5 := B5.size
  have E0 := box2 h5 (w4.heap.size) (.int .i64 x1) (.int .u64 x0) (by first | assumption | (simp [go_sem]; done) | (simp [go_sem]; done)) (by first | assumption | (simp [go_sem]; done) | (simp [go_sem]; done)) (by first | assumption | (simp [go_sem]; done) | (simp [go_sem]; done)) (by first | assumption | (simp [go_sem]; done) | (simp [go_sem]; done)) (by first | assumption | omega | (simp; done) | (simp; omega))
  obtain ⟨E0c0, E0c1, E0f0, E0f1, E0z⟩ := E0
  clear h5 ky B4
  go_wp2_with fail
  go_returns
  exact ⟨rfl, by go_grown⟩
set_option maxHeartbeats 4000000 in
theorem div_fits_nnf (a1 a0 b1 b0 q1 q0 r1 r0 p1 p0 c x1 x0 t1 t0 j z : Int) (bz : ¬ b1 = 0) (c0 : (c != 0) = true) (j0 : (j != 0) = false) (z0 : z < 0)
    (k0 : ∀ w, Calls Try.prog 27 #[] w fun e w' => e = .returned (.bool true) ∧ Below w.heap.size w w')
    (kq : ∀ w, Calls Try.prog 34 #[.agg #[.int .i64 a1, .int .u64 a0], .agg #[.int .i64 b1, .int .u64 b0]] w fun e w' => e = .returned (.tuple #[.agg #[.int .i64 q1, .int .u64 q0], .agg #[.int .i64 r1, .int .u64 r0], .int .i64 0]) ∧ Below w.heap.size w w')
    (km : ∀ w, Calls Try.prog 32 #[.agg #[.int .i64 q1, .int .u64 q0], .agg #[.int .i64 b1, .int .u64 b0]] w fun e w' => e = .returned (.tuple #[.agg #[.int .i64 p1, .int .u64 p0], .int .i64 0]) ∧ Below w.heap.size w w')
    (ka : ∀ w, Calls Try.prog 28 #[.agg #[.int .i64 p1, .int .u64 p0], .agg #[.int .i64 r1, .int .u64 r0]] w fun e w' => e = .returned (.tuple #[.agg #[.int .i64 a1, .int .u64 a0], .int .i64 0]) ∧ Below w.heap.size w w')
    (kr : ∀ w, Calls Try.prog 25 #[.agg #[.int .i64 r1, .int .u64 r0]] w fun e w' => e = .returned (.int .i64 c) ∧ Below w.heap.size w w')
    (ks : ∀ w, Calls Try.prog 25 #[.agg #[.int .i64 a1, .int .u64 a0]] w fun e w' => e = .returned (.int .i64 c) ∧ Below w.heap.size w w')
    (kx : ∀ w, Calls Try.prog 19 #[.agg #[.int .i64 r1, .int .u64 r0]] w fun e w' => e = .returned (.tuple #[.agg #[.int .i64 x1, .int .u64 x0], .int .i64 0]) ∧ Below w.heap.size w w')
    (ky : ∀ w, Calls Try.prog 19 #[.agg #[.int .i64 b1, .int .u64 b0]] w fun e w' => e = .returned (.tuple #[.agg #[.int .i64 t1, .int .u64 t0], .int .i64 j]) ∧ Below w.heap.size w w')
    (kc : ∀ w, Calls Try.prog 23 #[.agg #[.int .i64 x1, .int .u64 x0], .agg #[.int .i64 t1, .int .u64 t0]] w fun e w' => e = .returned (.int .i64 z) ∧ Below w.heap.size w w')
    (w : World) : Calls Try.prog 13 #[.agg #[.int .i64 a1, .int .u64 a0], .agg #[.int .i64 b1, .int .u64 b0]] w fun e w' => e = .returned (.bool true) ∧ Below w.heap.size w w' := by
  go_enter Try.func13, Try.ntmps13
  go_wp2_with fail
  refine (kq _).mono ?_
  rintro e w1 ⟨rfl, h1⟩
  have B1 : Below w.heap.size w w1 := Below.trans (by go_grown) (h1.mono (by first | (simp; done) | omega | (simp; omega)))
  have y1 := B1.size
  have A0 := box2 h1 (w.heap.size) (.int .i64 a1) (.int .u64 a0) (by first | assumption | (simp [go_sem]; done) | (simp [go_sem]; done)) (by first | assumption | (simp [go_sem]; done) | (simp [go_sem]; done)) (by first | assumption | (simp [go_sem]; done) | (simp [go_sem]; done)) (by first | assumption | (simp [go_sem]; done) | (simp [go_sem]; done)) (by first | assumption | omega | (simp; done) | (simp; omega))
  have A1 := box2 h1 (w.heap.size + 1) (.int .i64 b1) (.int .u64 b0) (by first | assumption | (simp [go_sem]; done) | (simp [go_sem]; done)) (by first | assumption | (simp [go_sem]; done) | (simp [go_sem]; done)) (by first | assumption | (simp [go_sem]; done) | (simp [go_sem]; done)) (by first | assumption | (simp [go_sem]; done) | (simp [go_sem]; done)) (by first | assumption | omega | (simp; done) | (simp; omega))
  obtain ⟨A0c0, A0c1, A0f0, A0f1, A0z⟩ := A0
  obtain ⟨A1c0, A1c1, A1f0, A1f1, A1z⟩ := A1
  (try (have m1_0 : ¬ w.heap.size = w1.heap.size := by omega)); (try (have m1_0' : ¬ w1.heap.size = w.heap.size := by omega))
  clear h1 kq
  go_wp2_with fail
  refine (km _).mono ?_
  rintro e w2 ⟨rfl, h2⟩
  have B2 : Below w.heap.size w w2 := Below.trans (by go_grown) (h2.mono (by first | (simp; done) | omega | (simp; omega)))
  have y2 := B2.size
  have B0 := box2 h2 (w.heap.size) (.int .i64 a1) (.int .u64 a0) (by first | assumption | (refine (Below.cell ?_ A0z).trans A0c0; go_grown; done) | (simp [go_sem, A0c0]; done) | (simp [go_sem, A0c0, A0z]; done) | (simp [go_sem, A0c0, A0c1, A0f0, A0f1, A0z, A1c0, A1c1, A1f0, A1f1, A1z]; done)) (by first | assumption | (refine (Below.cell ?_ A0z).trans A0c1; go_grown; done) | (simp [go_sem, A0c1]; done) | (simp [go_sem, A0c1, A0z]; done) | (simp [go_sem, A0c0, A0c1, A0f0, A0f1, A0z, A1c0, A1c1, A1f0, A1f1, A1z]; done)) (by first | assumption | (refine (Below.frozen ?_ A0z).trans A0f0; go_grown; done) | (simp [go_sem, A0f0]; done) | (simp [go_sem, A0f0, A0z]; done) | (simp [go_sem, A0c0, A0c1, A0f0, A0f1, A0z, A1c0, A1c1, A1f0, A1f1, A1z]; done)) (by first | assumption | (refine (Below.frozen ?_ A0z).trans A0f1; go_grown; done) | (simp [go_sem, A0f1]; done) | (simp [go_sem, A0f1, A0z]; done) | (simp [go_sem, A0c0, A0c1, A0f0, A0f1, A0z, A1c0, A1c1, A1f0, A1f1, A1z]; done)) (by first | assumption | omega | (simp; done) | (simp; omega))
  have B1 := box2 h2 (w.heap.size + 1) (.int .i64 b1) (.int .u64 b0) (by first | assumption | (refine (Below.cell ?_ A1z).trans A1c0; go_grown; done) | (simp [go_sem, A1c0]; done) | (simp [go_sem, A1c0, A1z]; done) | (simp [go_sem, A0c0, A0c1, A0f0, A0f1, A0z, A1c0, A1c1, A1f0, A1f1, A1z]; done)) (by first | assumption | (refine (Below.cell ?_ A1z).trans A1c1; go_grown; done) | (simp [go_sem, A1c1]; done) | (simp [go_sem, A1c1, A1z]; done) | (simp [go_sem, A0c0, A0c1, A0f0, A0f1, A0z, A1c0, A1c1, A1f0, A1f1, A1z]; done)) (by first | assumption | (refine (Below.frozen ?_ A1z).trans A1f0; go_grown; done) | (simp [go_sem, A1f0]; done) | (simp [go_sem, A1f0, A1z]; done) | (simp [go_sem, A0c0, A0c1, A0f0, A0f1, A0z, A1c0, A1c1, A1f0, A1f1, A1z]; done)) (by first | assumption | (refine (Below.frozen ?_ A1z).trans A1f1; go_grown; done) | (simp [go_sem, A1f1]; done) | (simp [go_sem, A1f1, A1z]; done) | (simp [go_sem, A0c0, A0c1, A0f0, A0f1, A0z, A1c0, A1c1, A1f0, A1f1, A1z]; done)) (by first | assumption | omega | (simp; done) | (simp; omega))
  have B2 := box2 h2 (w1.heap.size + 1) (.int .i64 r1) (.int .u64 r0) (by first | assumption | (simp [go_sem]; done) | (simp [go_sem, A0c0, A0c1, A0f0, A0f1, A0z, A1c0, A1c1, A1f0, A1f1, A1z]; done)) (by first | assumption | (simp [go_sem]; done) | (simp [go_sem, A0c0, A0c1, A0f0, A0f1, A0z, A1c0, A1c1, A1f0, A1f1, A1z]; done)) (by first | assumption | (simp [go_sem]; done) | (simp [go_sem, A0c0, A0c1, A0f0, A0f1, A0z, A1c0, A1c1, A1f0, A1f1, A1z]; done)) (by first | assumption | (simp [go_sem]; done) | (simp [go_sem, A0c0, A0c1, A0f0, A0f1, A0z, A1c0, A1c1, A1f0, A1f1, A1z]; done)) (by first | assumption | omega | (simp; done) | (simp; omega))
  clear A0c0 A0c1 A0f0 A0f1 A0z A1c0 A1c1 A1f0 A1f1 A1z
  obtain ⟨B0c0, B0c1, B0f0, B0f1, B0z⟩ := B0
  obtain ⟨B1c0, B1c1, B1f0, B1f1, B1z⟩ := B1
  obtain ⟨B2c0, B2c1, B2f0, B2f1, B2z⟩ := B2
  (try (have m2_0 : ¬ w.heap.size = w2.heap.size := by omega)); (try (have m2_0' : ¬ w2.heap.size = w.heap.size := by omega))
  (try (have m2_1 : ¬ w1.heap.size = w2.heap.size := by omega)); (try (have m2_1' : ¬ w2.heap.size = w1.heap.size := by omega))
  clear h2 km B1
  go_wp2_with fail
  refine (ka _).mono ?_
  rintro e w3 ⟨rfl, h3⟩
  have B3 : Below w.heap.size w w3 := Below.trans (by go_grown) (h3.mono (by first | (simp; done) | omega | (simp; omega)))
  have y3 := B3.size
  have C0 := box2 h3 (w.heap.size) (.int .i64 a1) (.int .u64 a0) (by first | assumption | (refine (Below.cell ?_ B0z).trans B0c0; go_grown; done) | (simp [go_sem, B0c0]; done) | (simp [go_sem, B0c0, B0z]; done) | (simp [go_sem, B0c0, B0c1, B0f0, B0f1, B0z, B1c0, B1c1, B1f0, B1f1, B1z, B2c0, B2c1, B2f0, B2f1, B2z]; done)) (by first | assumption | (refine (Below.cell ?_ B0z).trans B0c1; go_grown; done) | (simp [go_sem, B0c1]; done) | (simp [go_sem, B0c1, B0z]; done) | (simp [go_sem, B0c0, B0c1, B0f0, B0f1, B0z, B1c0, B1c1, B1f0, B1f1, B1z, B2c0, B2c1, B2f0, B2f1, B2z]; done)) (by first | assumption | (refine (Below.frozen ?_ B0z).trans B0f0; go_grown; done) | (simp [go_sem, B0f0]; done) | (simp [go_sem, B0f0, B0z]; done) | (simp [go_sem, B0c0, B0c1, B0f0, B0f1, B0z, B1c0, B1c1, B1f0, B1f1, B1z, B2c0, B2c1, B2f0, B2f1, B2z]; done)) (by first | assumption | (refine (Below.frozen ?_ B0z).trans B0f1; go_grown; done) | (simp [go_sem, B0f1]; done) | (simp [go_sem, B0f1, B0z]; done) | (simp [go_sem, B0c0, B0c1, B0f0, B0f1, B0z, B1c0, B1c1, B1f0, B1f1, B1z, B2c0, B2c1, B2f0, B2f1, B2z]; done)) (by first | assumption | omega | (simp; done) | (simp; omega))
  have C1 := box2 h3 (w.heap.size + 1) (.int .i64 b1) (.int .u64 b0) (by first | assumption | (refine (Below.cell ?_ B1z).trans B1c0; go_grown; done) | (simp [go_sem, B1c0]; done) | (simp [go_sem, B1c0, B1z]; done) | (simp [go_sem, B0c0, B0c1, B0f0, B0f1, B0z, B1c0, B1c1, B1f0, B1f1, B1z, B2c0, B2c1, B2f0, B2f1, B2z]; done)) (by first | assumption | (refine (Below.cell ?_ B1z).trans B1c1; go_grown; done) | (simp [go_sem, B1c1]; done) | (simp [go_sem, B1c1, B1z]; done) | (simp [go_sem, B0c0, B0c1, B0f0, B0f1, B0z, B1c0, B1c1, B1f0, B1f1, B1z, B2c0, B2c1, B2f0, B2f1, B2z]; done)) (by first | assumption | (refine (Below.frozen ?_ B1z).trans B1f0; go_grown; done) | (simp [go_sem, B1f0]; done) | (simp [go_sem, B1f0, B1z]; done) | (simp [go_sem, B0c0, B0c1, B0f0, B0f1, B0z, B1c0, B1c1, B1f0, B1f1, B1z, B2c0, B2c1, B2f0, B2f1, B2z]; done)) (by first | assumption | (refine (Below.frozen ?_ B1z).trans B1f1; go_grown; done) | (simp [go_sem, B1f1]; done) | (simp [go_sem, B1f1, B1z]; done) | (simp [go_sem, B0c0, B0c1, B0f0, B0f1, B0z, B1c0, B1c1, B1f0, B1f1, B1z, B2c0, B2c1, B2f0, B2f1, B2z]; done)) (by first | assumption | omega | (simp; done) | (simp; omega))
  have C2 := box2 h3 (w1.heap.size + 1) (.int .i64 r1) (.int .u64 r0) (by first | assumption | (refine (Below.cell ?_ B2z).trans B2c0; go_grown; done) | (simp [go_sem, B2c0]; done) | (simp [go_sem, B2c0, B2z]; done) | (simp [go_sem, B0c0, B0c1, B0f0, B0f1, B0z, B1c0, B1c1, B1f0, B1f1, B1z, B2c0, B2c1, B2f0, B2f1, B2z]; done)) (by first | assumption | (refine (Below.cell ?_ B2z).trans B2c1; go_grown; done) | (simp [go_sem, B2c1]; done) | (simp [go_sem, B2c1, B2z]; done) | (simp [go_sem, B0c0, B0c1, B0f0, B0f1, B0z, B1c0, B1c1, B1f0, B1f1, B1z, B2c0, B2c1, B2f0, B2f1, B2z]; done)) (by first | assumption | (refine (Below.frozen ?_ B2z).trans B2f0; go_grown; done) | (simp [go_sem, B2f0]; done) | (simp [go_sem, B2f0, B2z]; done) | (simp [go_sem, B0c0, B0c1, B0f0, B0f1, B0z, B1c0, B1c1, B1f0, B1f1, B1z, B2c0, B2c1, B2f0, B2f1, B2z]; done)) (by first | assumption | (refine (Below.frozen ?_ B2z).trans B2f1; go_grown; done) | (simp [go_sem, B2f1]; done) | (simp [go_sem, B2f1, B2z]; done) | (simp [go_sem, B0c0, B0c1, B0f0, B0f1, B0z, B1c0, B1c1, B1f0, B1f1, B1z, B2c0, B2c1, B2f0, B2f1, B2z]; done)) (by first | assumption | omega | (simp; done) | (simp; omega))
  clear B0c0 B0c1 B0f0 B0f1 B0z B1c0 B1c1 B1f0 B1f1 B1z B2c0 B2c1 B2f0 B2f1 B2z
  obtain ⟨C0c0, C0c1, C0f0, C0f1, C0z⟩ := C0
  obtain ⟨C1c0, C1c1, C1f0, C1f1, C1z⟩ := C1
  obtain ⟨C2c0, C2c1, C2f0, C2f1, C2z⟩ := C2
  (try (have m3_0 : ¬ w.heap.size = w3.heap.size := by omega)); (try (have m3_0' : ¬ w3.heap.size = w.heap.size := by omega))
  (try (have m3_1 : ¬ w1.heap.size = w3.heap.size := by omega)); (try (have m3_1' : ¬ w3.heap.size = w1.heap.size := by omega))
  (try (have m3_2 : ¬ w2.heap.size = w3.heap.size := by omega)); (try (have m3_2' : ¬ w3.heap.size = w2.heap.size := by omega))
  clear h3 ka B2
  go_wp2_with fail
  obtain ⟨W, hW⟩ : ∃ X, X = w3.alloc (Obj.cells #[.int .i64 a1, .int .u64 a0] 24) := ⟨_, rfl⟩
  have cW0 : W.cell? ⟨w.heap.size, 0, none⟩ = some (.int .i64 a1) := by rw [hW]; first | (refine (Below.cell ?_ C0z).trans C0c0; go_grown; done) | (simp [go_sem]; done)
  have fW0 : W.frozen? ⟨w.heap.size, 0, none⟩ = false := by rw [hW]; first | (refine (Below.frozen ?_ C0z).trans C0f0; go_grown; done) | (simp [go_sem]; done)
  have zW0 : w.heap.size < W.heap.size := by rw [hW]; first | omega | (simp; done) | (simp; omega)
  have cW1 : W.cell? ⟨w.heap.size, 1, none⟩ = some (.int .u64 a0) := by rw [hW]; first | (refine (Below.cell ?_ C0z).trans C0c1; go_grown; done) | (simp [go_sem]; done)
  have fW1 : W.frozen? ⟨w.heap.size, 1, none⟩ = false := by rw [hW]; first | (refine (Below.frozen ?_ C0z).trans C0f1; go_grown; done) | (simp [go_sem]; done)
  have zW1 : w.heap.size < W.heap.size := by rw [hW]; first | omega | (simp; done) | (simp; omega)
  have cW2 : W.cell? ⟨w.heap.size + 1, 0, none⟩ = some (.int .i64 b1) := by rw [hW]; first | (refine (Below.cell ?_ C1z).trans C1c0; go_grown; done) | (simp [go_sem]; done)
  have fW2 : W.frozen? ⟨w.heap.size + 1, 0, none⟩ = false := by rw [hW]; first | (refine (Below.frozen ?_ C1z).trans C1f0; go_grown; done) | (simp [go_sem]; done)
  have zW2 : w.heap.size + 1 < W.heap.size := by rw [hW]; first | omega | (simp; done) | (simp; omega)
  have cW3 : W.cell? ⟨w.heap.size + 1, 1, none⟩ = some (.int .u64 b0) := by rw [hW]; first | (refine (Below.cell ?_ C1z).trans C1c1; go_grown; done) | (simp [go_sem]; done)
  have fW3 : W.frozen? ⟨w.heap.size + 1, 1, none⟩ = false := by rw [hW]; first | (refine (Below.frozen ?_ C1z).trans C1f1; go_grown; done) | (simp [go_sem]; done)
  have zW3 : w.heap.size + 1 < W.heap.size := by rw [hW]; first | omega | (simp; done) | (simp; omega)
  have cW4 : W.cell? ⟨w1.heap.size + 1, 0, none⟩ = some (.int .i64 r1) := by rw [hW]; first | (refine (Below.cell ?_ C2z).trans C2c0; go_grown; done) | (simp [go_sem]; done)
  have fW4 : W.frozen? ⟨w1.heap.size + 1, 0, none⟩ = false := by rw [hW]; first | (refine (Below.frozen ?_ C2z).trans C2f0; go_grown; done) | (simp [go_sem]; done)
  have zW4 : w1.heap.size + 1 < W.heap.size := by rw [hW]; first | omega | (simp; done) | (simp; omega)
  have cW5 : W.cell? ⟨w1.heap.size + 1, 1, none⟩ = some (.int .u64 r0) := by rw [hW]; first | (refine (Below.cell ?_ C2z).trans C2c1; go_grown; done) | (simp [go_sem]; done)
  have fW5 : W.frozen? ⟨w1.heap.size + 1, 1, none⟩ = false := by rw [hW]; first | (refine (Below.frozen ?_ C2z).trans C2f1; go_grown; done) | (simp [go_sem]; done)
  have zW5 : w1.heap.size + 1 < W.heap.size := by rw [hW]; first | omega | (simp; done) | (simp; omega)
  have cW6 : W.cell? ⟨w3.heap.size, 0, none⟩ = some (.int .i64 a1) := by rw [hW]; first | (simp [go_sem]; done)
  have fW6 : W.frozen? ⟨w3.heap.size, 0, none⟩ = false := by rw [hW]; first | (simp [go_sem]; done)
  have zW6 : w3.heap.size < W.heap.size := by rw [hW]; first | omega | (simp; done) | (simp; omega)
  have cW7 : W.cell? ⟨w3.heap.size, 1, none⟩ = some (.int .u64 a0) := by rw [hW]; first | (simp [go_sem]; done)
  have fW7 : W.frozen? ⟨w3.heap.size, 1, none⟩ = false := by rw [hW]; first | (simp [go_sem]; done)
  have zW7 : w3.heap.size < W.heap.size := by rw [hW]; first | omega | (simp; done) | (simp; omega)
  have BW : Below w.heap.size w W := by rw [hW]; go_grown
  rw [← hW]
  clear hW
  have K0 := Keeps.start (Nat.le_refl W.heap.size)
  have K1 := K0.drew
  go_region_held3 (fun w' => w'.cell? ⟨w.heap.size, 0, none⟩ = some (.int .i64 a1) ∧ w'.cell? ⟨w.heap.size, 1, none⟩ = some (.int .u64 a0) ∧ w'.cell? ⟨w1.heap.size + 1, 0, none⟩ = some (.int .i64 r1) ∧ w'.cell? ⟨w1.heap.size + 1, 1, none⟩ = some (.int .u64 r0) ∧ w'.cell? ⟨w3.heap.size, 0, none⟩ = some (.int .i64 a1) ∧ w'.cell? ⟨w3.heap.size, 1, none⟩ = some (.int .u64 a0) ∧ Keeps W.heap.size W w') ((refine (fun K => ⟨Keeps.cell K cW0 zW0, Keeps.cell K cW1 zW1, Keeps.cell K cW4 zW4, Keeps.cell K cW5 zW5, Keeps.cell K cW6 zW6, Keeps.cell K cW7 zW7, K⟩) (?_ : Keeps W.heap.size W _); (repeat (first | assumption | refine Keeps.alloc ?_ _ | refine Keeps.drew ?_ | refine Keeps.setCell ?_ (by first | (simp; done) | omega | (simp; omega)) _))))
    (first | (go_at_call 25; ((with_reducible refine (kr _).mono ?_); rintro e v21 ⟨rfl, hb21⟩); have L21 := Keeps.call (B := W.heap.size) (W := W) (by repeat (first | assumption | refine Keeps.alloc ?_ _ | refine Keeps.drew ?_ | refine Keeps.setCell ?_ (by first | (simp; done) | omega | (simp; omega)) _)) hb21) | (go_at_call 25; ((with_reducible refine (ks _).mono ?_); rintro e v22 ⟨rfl, hb22⟩); have L22 := Keeps.call (B := W.heap.size) (W := W) (by repeat (first | assumption | refine Keeps.alloc ?_ _ | refine Keeps.drew ?_ | refine Keeps.setCell ?_ (by first | (simp; done) | omega | (simp; omega)) _)) hb22) | (go_at_call 27; ((with_reducible refine (k0 _).mono ?_); rintro e v23 ⟨rfl, hb23⟩); have L23 := Keeps.call (B := W.heap.size) (W := W) (by repeat (first | assumption | refine Keeps.alloc ?_ _ | refine Keeps.drew ?_ | refine Keeps.setCell ?_ (by first | (simp; done) | omega | (simp; omega)) _)) hb23))
  go_wp2_with fail
  have BV : Below w.heap.size w v23 := BW.trans (L23.below.mono BW.size)
  have yv := BV.size
  have d0 := L23.cell cW2 zW2
  have d1 := L23.cell cW3 zW3
  have dz : w.heap.size + 1 < v23.heap.size := by have := L23.below.size; omega
  clear cW0 cW1 cW2 cW3 cW4 cW5 cW6 cW7 fW0 fW1 fW2 fW3 fW4 fW5 fW6 fW7 zW0 zW1 zW2 zW3 zW4 zW5 zW6 zW7 C0c0 C0c1 C0f0 C0f1 C0z C1c0 C1c1 C1f0 C1f1 C1z C2c0 C2c1 C2f0 C2f1 C2z B3 BW kr ks k0 K0 K1
  refine (kx _).mono ?_
  rintro e w4 ⟨rfl, h4⟩
  have B4 : Below w.heap.size w w4 := BV.trans (h4.mono BV.size)
  have y4 := B4.size
  have d2 := (h4.cell (p := ⟨w.heap.size + 1, 0, none⟩) dz).trans d0
  have d3 := (h4.cell (p := ⟨w.heap.size + 1, 1, none⟩) dz).trans d1
  have dz4 := Nat.lt_of_lt_of_le dz h4.size
  have g4 : ¬ w.heap.size = w4.heap.size := by omega
  have g4' : ¬ w.heap.size + 1 = w4.heap.size := by omega
  clear h4 kx d0 d1 BV
  go_wp2_with fail
  refine (ky _).mono ?_
  rintro e w5 ⟨rfl, h5⟩
  have B5 : Below w.heap.size w w5 := Below.trans (by go_grown) (h5.mono (by first | (simp; done) | omega | (simp; omega)))
  have y5 := B5.size
  have E0 := box2 h5 (w4.heap.size) (.int .i64 x1) (.int .u64 x0) (by first | assumption | (simp [go_sem]; done) | (simp [go_sem]; done)) (by first | assumption | (simp [go_sem]; done) | (simp [go_sem]; done)) (by first | assumption | (simp [go_sem]; done) | (simp [go_sem]; done)) (by first | assumption | (simp [go_sem]; done) | (simp [go_sem]; done)) (by first | assumption | omega | (simp; done) | (simp; omega))
  obtain ⟨E0c0, E0c1, E0f0, E0f1, E0z⟩ := E0
  clear h5 ky B4
  go_wp2_with fail
  refine (kc _).mono ?_
  rintro e w6 ⟨rfl, h6⟩
  have B6 : Below w.heap.size w w6 := Below.trans (by go_grown) (h6.mono (by first | (simp; done) | omega | (simp; omega)))
  go_wp2_with fail
  go_returns
  exact ⟨rfl, by go_grown⟩
set_option maxHeartbeats 4000000 in
theorem div_fits_zno (a1 a0 b0 q1 q0 r1 r0 p1 p0 c x1 x0 t1 t0 j z : Int) (bz : ¬ b0 = 0) (c0 : (c != 0) = true) (j0 : (j != 0) = true)
    (k0 : ∀ w, Calls Try.prog 27 #[] w fun e w' => e = .returned (.bool true) ∧ Below w.heap.size w w')
    (kq : ∀ w, Calls Try.prog 34 #[.agg #[.int .i64 a1, .int .u64 a0], .agg #[.int .i64 0, .int .u64 b0]] w fun e w' => e = .returned (.tuple #[.agg #[.int .i64 q1, .int .u64 q0], .agg #[.int .i64 r1, .int .u64 r0], .int .i64 0]) ∧ Below w.heap.size w w')
    (km : ∀ w, Calls Try.prog 32 #[.agg #[.int .i64 q1, .int .u64 q0], .agg #[.int .i64 0, .int .u64 b0]] w fun e w' => e = .returned (.tuple #[.agg #[.int .i64 p1, .int .u64 p0], .int .i64 0]) ∧ Below w.heap.size w w')
    (ka : ∀ w, Calls Try.prog 28 #[.agg #[.int .i64 p1, .int .u64 p0], .agg #[.int .i64 r1, .int .u64 r0]] w fun e w' => e = .returned (.tuple #[.agg #[.int .i64 a1, .int .u64 a0], .int .i64 0]) ∧ Below w.heap.size w w')
    (kr : ∀ w, Calls Try.prog 25 #[.agg #[.int .i64 r1, .int .u64 r0]] w fun e w' => e = .returned (.int .i64 c) ∧ Below w.heap.size w w')
    (ks : ∀ w, Calls Try.prog 25 #[.agg #[.int .i64 a1, .int .u64 a0]] w fun e w' => e = .returned (.int .i64 c) ∧ Below w.heap.size w w')
    (kx : ∀ w, Calls Try.prog 19 #[.agg #[.int .i64 r1, .int .u64 r0]] w fun e w' => e = .returned (.tuple #[.agg #[.int .i64 x1, .int .u64 x0], .int .i64 0]) ∧ Below w.heap.size w w')
    (ky : ∀ w, Calls Try.prog 19 #[.agg #[.int .i64 0, .int .u64 b0]] w fun e w' => e = .returned (.tuple #[.agg #[.int .i64 t1, .int .u64 t0], .int .i64 j]) ∧ Below w.heap.size w w')
    (kc : ∀ w, Calls Try.prog 23 #[.agg #[.int .i64 x1, .int .u64 x0], .agg #[.int .i64 t1, .int .u64 t0]] w fun e w' => e = .returned (.int .i64 z) ∧ Below w.heap.size w w')
    (w : World) : Calls Try.prog 13 #[.agg #[.int .i64 a1, .int .u64 a0], .agg #[.int .i64 0, .int .u64 b0]] w fun e w' => e = .returned (.bool true) ∧ Below w.heap.size w w' := by
  go_enter Try.func13, Try.ntmps13
  go_wp2_with fail
  refine (kq _).mono ?_
  rintro e w1 ⟨rfl, h1⟩
  have B1 : Below w.heap.size w w1 := Below.trans (by go_grown) (h1.mono (by first | (simp; done) | omega | (simp; omega)))
  have y1 := B1.size
  have A0 := box2 h1 (w.heap.size) (.int .i64 a1) (.int .u64 a0) (by first | assumption | (simp [go_sem]; done) | (simp [go_sem]; done)) (by first | assumption | (simp [go_sem]; done) | (simp [go_sem]; done)) (by first | assumption | (simp [go_sem]; done) | (simp [go_sem]; done)) (by first | assumption | (simp [go_sem]; done) | (simp [go_sem]; done)) (by first | assumption | omega | (simp; done) | (simp; omega))
  have A1 := box2 h1 (w.heap.size + 1) (.int .i64 0) (.int .u64 b0) (by first | assumption | (simp [go_sem]; done) | (simp [go_sem]; done)) (by first | assumption | (simp [go_sem]; done) | (simp [go_sem]; done)) (by first | assumption | (simp [go_sem]; done) | (simp [go_sem]; done)) (by first | assumption | (simp [go_sem]; done) | (simp [go_sem]; done)) (by first | assumption | omega | (simp; done) | (simp; omega))
  obtain ⟨A0c0, A0c1, A0f0, A0f1, A0z⟩ := A0
  obtain ⟨A1c0, A1c1, A1f0, A1f1, A1z⟩ := A1
  (try (have m1_0 : ¬ w.heap.size = w1.heap.size := by omega)); (try (have m1_0' : ¬ w1.heap.size = w.heap.size := by omega))
  clear h1 kq
  go_wp2_with fail
  refine (km _).mono ?_
  rintro e w2 ⟨rfl, h2⟩
  have B2 : Below w.heap.size w w2 := Below.trans (by go_grown) (h2.mono (by first | (simp; done) | omega | (simp; omega)))
  have y2 := B2.size
  have B0 := box2 h2 (w.heap.size) (.int .i64 a1) (.int .u64 a0) (by first | assumption | (refine (Below.cell ?_ A0z).trans A0c0; go_grown; done) | (simp [go_sem, A0c0]; done) | (simp [go_sem, A0c0, A0z]; done) | (simp [go_sem, A0c0, A0c1, A0f0, A0f1, A0z, A1c0, A1c1, A1f0, A1f1, A1z]; done)) (by first | assumption | (refine (Below.cell ?_ A0z).trans A0c1; go_grown; done) | (simp [go_sem, A0c1]; done) | (simp [go_sem, A0c1, A0z]; done) | (simp [go_sem, A0c0, A0c1, A0f0, A0f1, A0z, A1c0, A1c1, A1f0, A1f1, A1z]; done)) (by first | assumption | (refine (Below.frozen ?_ A0z).trans A0f0; go_grown; done) | (simp [go_sem, A0f0]; done) | (simp [go_sem, A0f0, A0z]; done) | (simp [go_sem, A0c0, A0c1, A0f0, A0f1, A0z, A1c0, A1c1, A1f0, A1f1, A1z]; done)) (by first | assumption | (refine (Below.frozen ?_ A0z).trans A0f1; go_grown; done) | (simp [go_sem, A0f1]; done) | (simp [go_sem, A0f1, A0z]; done) | (simp [go_sem, A0c0, A0c1, A0f0, A0f1, A0z, A1c0, A1c1, A1f0, A1f1, A1z]; done)) (by first | assumption | omega | (simp; done) | (simp; omega))
  have B1 := box2 h2 (w.heap.size + 1) (.int .i64 0) (.int .u64 b0) (by first | assumption | (refine (Below.cell ?_ A1z).trans A1c0; go_grown; done) | (simp [go_sem, A1c0]; done) | (simp [go_sem, A1c0, A1z]; done) | (simp [go_sem, A0c0, A0c1, A0f0, A0f1, A0z, A1c0, A1c1, A1f0, A1f1, A1z]; done)) (by first | assumption | (refine (Below.cell ?_ A1z).trans A1c1; go_grown; done) | (simp [go_sem, A1c1]; done) | (simp [go_sem, A1c1, A1z]; done) | (simp [go_sem, A0c0, A0c1, A0f0, A0f1, A0z, A1c0, A1c1, A1f0, A1f1, A1z]; done)) (by first | assumption | (refine (Below.frozen ?_ A1z).trans A1f0; go_grown; done) | (simp [go_sem, A1f0]; done) | (simp [go_sem, A1f0, A1z]; done) | (simp [go_sem, A0c0, A0c1, A0f0, A0f1, A0z, A1c0, A1c1, A1f0, A1f1, A1z]; done)) (by first | assumption | (refine (Below.frozen ?_ A1z).trans A1f1; go_grown; done) | (simp [go_sem, A1f1]; done) | (simp [go_sem, A1f1, A1z]; done) | (simp [go_sem, A0c0, A0c1, A0f0, A0f1, A0z, A1c0, A1c1, A1f0, A1f1, A1z]; done)) (by first | assumption | omega | (simp; done) | (simp; omega))
  have B2 := box2 h2 (w1.heap.size + 1) (.int .i64 r1) (.int .u64 r0) (by first | assumption | (simp [go_sem]; done) | (simp [go_sem, A0c0, A0c1, A0f0, A0f1, A0z, A1c0, A1c1, A1f0, A1f1, A1z]; done)) (by first | assumption | (simp [go_sem]; done) | (simp [go_sem, A0c0, A0c1, A0f0, A0f1, A0z, A1c0, A1c1, A1f0, A1f1, A1z]; done)) (by first | assumption | (simp [go_sem]; done) | (simp [go_sem, A0c0, A0c1, A0f0, A0f1, A0z, A1c0, A1c1, A1f0, A1f1, A1z]; done)) (by first | assumption | (simp [go_sem]; done) | (simp [go_sem, A0c0, A0c1, A0f0, A0f1, A0z, A1c0, A1c1, A1f0, A1f1, A1z]; done)) (by first | assumption | omega | (simp; done) | (simp; omega))
  clear A0c0 A0c1 A0f0 A0f1 A0z A1c0 A1c1 A1f0 A1f1 A1z
  obtain ⟨B0c0, B0c1, B0f0, B0f1, B0z⟩ := B0
  obtain ⟨B1c0, B1c1, B1f0, B1f1, B1z⟩ := B1
  obtain ⟨B2c0, B2c1, B2f0, B2f1, B2z⟩ := B2
  (try (have m2_0 : ¬ w.heap.size = w2.heap.size := by omega)); (try (have m2_0' : ¬ w2.heap.size = w.heap.size := by omega))
  (try (have m2_1 : ¬ w1.heap.size = w2.heap.size := by omega)); (try (have m2_1' : ¬ w2.heap.size = w1.heap.size := by omega))
  clear h2 km B1
  go_wp2_with fail
  refine (ka _).mono ?_
  rintro e w3 ⟨rfl, h3⟩
  have B3 : Below w.heap.size w w3 := Below.trans (by go_grown) (h3.mono (by first | (simp; done) | omega | (simp; omega)))
  have y3 := B3.size
  have C0 := box2 h3 (w.heap.size) (.int .i64 a1) (.int .u64 a0) (by first | assumption | (refine (Below.cell ?_ B0z).trans B0c0; go_grown; done) | (simp [go_sem, B0c0]; done) | (simp [go_sem, B0c0, B0z]; done) | (simp [go_sem, B0c0, B0c1, B0f0, B0f1, B0z, B1c0, B1c1, B1f0, B1f1, B1z, B2c0, B2c1, B2f0, B2f1, B2z]; done)) (by first | assumption | (refine (Below.cell ?_ B0z).trans B0c1; go_grown; done) | (simp [go_sem, B0c1]; done) | (simp [go_sem, B0c1, B0z]; done) | (simp [go_sem, B0c0, B0c1, B0f0, B0f1, B0z, B1c0, B1c1, B1f0, B1f1, B1z, B2c0, B2c1, B2f0, B2f1, B2z]; done)) (by first | assumption | (refine (Below.frozen ?_ B0z).trans B0f0; go_grown; done) | (simp [go_sem, B0f0]; done) | (simp [go_sem, B0f0, B0z]; done) | (simp [go_sem, B0c0, B0c1, B0f0, B0f1, B0z, B1c0, B1c1, B1f0, B1f1, B1z, B2c0, B2c1, B2f0, B2f1, B2z]; done)) (by first | assumption | (refine (Below.frozen ?_ B0z).trans B0f1; go_grown; done) | (simp [go_sem, B0f1]; done) | (simp [go_sem, B0f1, B0z]; done) | (simp [go_sem, B0c0, B0c1, B0f0, B0f1, B0z, B1c0, B1c1, B1f0, B1f1, B1z, B2c0, B2c1, B2f0, B2f1, B2z]; done)) (by first | assumption | omega | (simp; done) | (simp; omega))
  have C1 := box2 h3 (w.heap.size + 1) (.int .i64 0) (.int .u64 b0) (by first | assumption | (refine (Below.cell ?_ B1z).trans B1c0; go_grown; done) | (simp [go_sem, B1c0]; done) | (simp [go_sem, B1c0, B1z]; done) | (simp [go_sem, B0c0, B0c1, B0f0, B0f1, B0z, B1c0, B1c1, B1f0, B1f1, B1z, B2c0, B2c1, B2f0, B2f1, B2z]; done)) (by first | assumption | (refine (Below.cell ?_ B1z).trans B1c1; go_grown; done) | (simp [go_sem, B1c1]; done) | (simp [go_sem, B1c1, B1z]; done) | (simp [go_sem, B0c0, B0c1, B0f0, B0f1, B0z, B1c0, B1c1, B1f0, B1f1, B1z, B2c0, B2c1, B2f0, B2f1, B2z]; done)) (by first | assumption | (refine (Below.frozen ?_ B1z).trans B1f0; go_grown; done) | (simp [go_sem, B1f0]; done) | (simp [go_sem, B1f0, B1z]; done) | (simp [go_sem, B0c0, B0c1, B0f0, B0f1, B0z, B1c0, B1c1, B1f0, B1f1, B1z, B2c0, B2c1, B2f0, B2f1, B2z]; done)) (by first | assumption | (refine (Below.frozen ?_ B1z).trans B1f1; go_grown; done) | (simp [go_sem, B1f1]; done) | (simp [go_sem, B1f1, B1z]; done) | (simp [go_sem, B0c0, B0c1, B0f0, B0f1, B0z, B1c0, B1c1, B1f0, B1f1, B1z, B2c0, B2c1, B2f0, B2f1, B2z]; done)) (by first | assumption | omega | (simp; done) | (simp; omega))
  have C2 := box2 h3 (w1.heap.size + 1) (.int .i64 r1) (.int .u64 r0) (by first | assumption | (refine (Below.cell ?_ B2z).trans B2c0; go_grown; done) | (simp [go_sem, B2c0]; done) | (simp [go_sem, B2c0, B2z]; done) | (simp [go_sem, B0c0, B0c1, B0f0, B0f1, B0z, B1c0, B1c1, B1f0, B1f1, B1z, B2c0, B2c1, B2f0, B2f1, B2z]; done)) (by first | assumption | (refine (Below.cell ?_ B2z).trans B2c1; go_grown; done) | (simp [go_sem, B2c1]; done) | (simp [go_sem, B2c1, B2z]; done) | (simp [go_sem, B0c0, B0c1, B0f0, B0f1, B0z, B1c0, B1c1, B1f0, B1f1, B1z, B2c0, B2c1, B2f0, B2f1, B2z]; done)) (by first | assumption | (refine (Below.frozen ?_ B2z).trans B2f0; go_grown; done) | (simp [go_sem, B2f0]; done) | (simp [go_sem, B2f0, B2z]; done) | (simp [go_sem, B0c0, B0c1, B0f0, B0f1, B0z, B1c0, B1c1, B1f0, B1f1, B1z, B2c0, B2c1, B2f0, B2f1, B2z]; done)) (by first | assumption | (refine (Below.frozen ?_ B2z).trans B2f1; go_grown; done) | (simp [go_sem, B2f1]; done) | (simp [go_sem, B2f1, B2z]; done) | (simp [go_sem, B0c0, B0c1, B0f0, B0f1, B0z, B1c0, B1c1, B1f0, B1f1, B1z, B2c0, B2c1, B2f0, B2f1, B2z]; done)) (by first | assumption | omega | (simp; done) | (simp; omega))
  clear B0c0 B0c1 B0f0 B0f1 B0z B1c0 B1c1 B1f0 B1f1 B1z B2c0 B2c1 B2f0 B2f1 B2z
  obtain ⟨C0c0, C0c1, C0f0, C0f1, C0z⟩ := C0
  obtain ⟨C1c0, C1c1, C1f0, C1f1, C1z⟩ := C1
  obtain ⟨C2c0, C2c1, C2f0, C2f1, C2z⟩ := C2
  (try (have m3_0 : ¬ w.heap.size = w3.heap.size := by omega)); (try (have m3_0' : ¬ w3.heap.size = w.heap.size := by omega))
  (try (have m3_1 : ¬ w1.heap.size = w3.heap.size := by omega)); (try (have m3_1' : ¬ w3.heap.size = w1.heap.size := by omega))
  (try (have m3_2 : ¬ w2.heap.size = w3.heap.size := by omega)); (try (have m3_2' : ¬ w3.heap.size = w2.heap.size := by omega))
  clear h3 ka B2
  go_wp2_with fail
  obtain ⟨W, hW⟩ : ∃ X, X = w3.alloc (Obj.cells #[.int .i64 a1, .int .u64 a0] 24) := ⟨_, rfl⟩
  have cW0 : W.cell? ⟨w.heap.size, 0, none⟩ = some (.int .i64 a1) := by rw [hW]; first | (refine (Below.cell ?_ C0z).trans C0c0; go_grown; done) | (simp [go_sem]; done)
  have fW0 : W.frozen? ⟨w.heap.size, 0, none⟩ = false := by rw [hW]; first | (refine (Below.frozen ?_ C0z).trans C0f0; go_grown; done) | (simp [go_sem]; done)
  have zW0 : w.heap.size < W.heap.size := by rw [hW]; first | omega | (simp; done) | (simp; omega)
  have cW1 : W.cell? ⟨w.heap.size, 1, none⟩ = some (.int .u64 a0) := by rw [hW]; first | (refine (Below.cell ?_ C0z).trans C0c1; go_grown; done) | (simp [go_sem]; done)
  have fW1 : W.frozen? ⟨w.heap.size, 1, none⟩ = false := by rw [hW]; first | (refine (Below.frozen ?_ C0z).trans C0f1; go_grown; done) | (simp [go_sem]; done)
  have zW1 : w.heap.size < W.heap.size := by rw [hW]; first | omega | (simp; done) | (simp; omega)
  have cW2 : W.cell? ⟨w.heap.size + 1, 0, none⟩ = some (.int .i64 0) := by rw [hW]; first | (refine (Below.cell ?_ C1z).trans C1c0; go_grown; done) | (simp [go_sem]; done)
  have fW2 : W.frozen? ⟨w.heap.size + 1, 0, none⟩ = false := by rw [hW]; first | (refine (Below.frozen ?_ C1z).trans C1f0; go_grown; done) | (simp [go_sem]; done)
  have zW2 : w.heap.size + 1 < W.heap.size := by rw [hW]; first | omega | (simp; done) | (simp; omega)
  have cW3 : W.cell? ⟨w.heap.size + 1, 1, none⟩ = some (.int .u64 b0) := by rw [hW]; first | (refine (Below.cell ?_ C1z).trans C1c1; go_grown; done) | (simp [go_sem]; done)
  have fW3 : W.frozen? ⟨w.heap.size + 1, 1, none⟩ = false := by rw [hW]; first | (refine (Below.frozen ?_ C1z).trans C1f1; go_grown; done) | (simp [go_sem]; done)
  have zW3 : w.heap.size + 1 < W.heap.size := by rw [hW]; first | omega | (simp; done) | (simp; omega)
  have cW4 : W.cell? ⟨w1.heap.size + 1, 0, none⟩ = some (.int .i64 r1) := by rw [hW]; first | (refine (Below.cell ?_ C2z).trans C2c0; go_grown; done) | (simp [go_sem]; done)
  have fW4 : W.frozen? ⟨w1.heap.size + 1, 0, none⟩ = false := by rw [hW]; first | (refine (Below.frozen ?_ C2z).trans C2f0; go_grown; done) | (simp [go_sem]; done)
  have zW4 : w1.heap.size + 1 < W.heap.size := by rw [hW]; first | omega | (simp; done) | (simp; omega)
  have cW5 : W.cell? ⟨w1.heap.size + 1, 1, none⟩ = some (.int .u64 r0) := by rw [hW]; first | (refine (Below.cell ?_ C2z).trans C2c1; go_grown; done) | (simp [go_sem]; done)
  have fW5 : W.frozen? ⟨w1.heap.size + 1, 1, none⟩ = false := by rw [hW]; first | (refine (Below.frozen ?_ C2z).trans C2f1; go_grown; done) | (simp [go_sem]; done)
  have zW5 : w1.heap.size + 1 < W.heap.size := by rw [hW]; first | omega | (simp; done) | (simp; omega)
  have cW6 : W.cell? ⟨w3.heap.size, 0, none⟩ = some (.int .i64 a1) := by rw [hW]; first | (simp [go_sem]; done)
  have fW6 : W.frozen? ⟨w3.heap.size, 0, none⟩ = false := by rw [hW]; first | (simp [go_sem]; done)
  have zW6 : w3.heap.size < W.heap.size := by rw [hW]; first | omega | (simp; done) | (simp; omega)
  have cW7 : W.cell? ⟨w3.heap.size, 1, none⟩ = some (.int .u64 a0) := by rw [hW]; first | (simp [go_sem]; done)
  have fW7 : W.frozen? ⟨w3.heap.size, 1, none⟩ = false := by rw [hW]; first | (simp [go_sem]; done)
  have zW7 : w3.heap.size < W.heap.size := by rw [hW]; first | omega | (simp; done) | (simp; omega)
  have BW : Below w.heap.size w W := by rw [hW]; go_grown
  rw [← hW]
  clear hW
  have K0 := Keeps.start (Nat.le_refl W.heap.size)
  have K1 := K0.drew
  go_region_held3 (fun w' => w'.cell? ⟨w.heap.size, 0, none⟩ = some (.int .i64 a1) ∧ w'.cell? ⟨w.heap.size, 1, none⟩ = some (.int .u64 a0) ∧ w'.cell? ⟨w1.heap.size + 1, 0, none⟩ = some (.int .i64 r1) ∧ w'.cell? ⟨w1.heap.size + 1, 1, none⟩ = some (.int .u64 r0) ∧ w'.cell? ⟨w3.heap.size, 0, none⟩ = some (.int .i64 a1) ∧ w'.cell? ⟨w3.heap.size, 1, none⟩ = some (.int .u64 a0) ∧ Keeps W.heap.size W w') ((refine (fun K => ⟨Keeps.cell K cW0 zW0, Keeps.cell K cW1 zW1, Keeps.cell K cW4 zW4, Keeps.cell K cW5 zW5, Keeps.cell K cW6 zW6, Keeps.cell K cW7 zW7, K⟩) (?_ : Keeps W.heap.size W _); (repeat (first | assumption | refine Keeps.alloc ?_ _ | refine Keeps.drew ?_ | refine Keeps.setCell ?_ (by first | (simp; done) | omega | (simp; omega)) _))))
    (first | (go_at_call 25; ((with_reducible refine (kr _).mono ?_); rintro e v21 ⟨rfl, hb21⟩); have L21 := Keeps.call (B := W.heap.size) (W := W) (by repeat (first | assumption | refine Keeps.alloc ?_ _ | refine Keeps.drew ?_ | refine Keeps.setCell ?_ (by first | (simp; done) | omega | (simp; omega)) _)) hb21) | (go_at_call 25; ((with_reducible refine (ks _).mono ?_); rintro e v22 ⟨rfl, hb22⟩); have L22 := Keeps.call (B := W.heap.size) (W := W) (by repeat (first | assumption | refine Keeps.alloc ?_ _ | refine Keeps.drew ?_ | refine Keeps.setCell ?_ (by first | (simp; done) | omega | (simp; omega)) _)) hb22) | (go_at_call 27; ((with_reducible refine (k0 _).mono ?_); rintro e v23 ⟨rfl, hb23⟩); have L23 := Keeps.call (B := W.heap.size) (W := W) (by repeat (first | assumption | refine Keeps.alloc ?_ _ | refine Keeps.drew ?_ | refine Keeps.setCell ?_ (by first | (simp; done) | omega | (simp; omega)) _)) hb23))
  go_wp2_with fail
  have BV : Below w.heap.size w v23 := BW.trans (L23.below.mono BW.size)
  have yv := BV.size
  have d0 := L23.cell cW2 zW2
  have d1 := L23.cell cW3 zW3
  have dz : w.heap.size + 1 < v23.heap.size := by have := L23.below.size; omega
  clear cW0 cW1 cW2 cW3 cW4 cW5 cW6 cW7 fW0 fW1 fW2 fW3 fW4 fW5 fW6 fW7 zW0 zW1 zW2 zW3 zW4 zW5 zW6 zW7 C0c0 C0c1 C0f0 C0f1 C0z C1c0 C1c1 C1f0 C1f1 C1z C2c0 C2c1 C2f0 C2f1 C2z B3 BW kr ks k0 K0 K1
  refine (kx _).mono ?_
  rintro e w4 ⟨rfl, h4⟩
  have B4 : Below w.heap.size w w4 := BV.trans (h4.mono BV.size)
  have y4 := B4.size
  have d2 := (h4.cell (p := ⟨w.heap.size + 1, 0, none⟩) dz).trans d0
  have d3 := (h4.cell (p := ⟨w.heap.size + 1, 1, none⟩) dz).trans d1
  have dz4 := Nat.lt_of_lt_of_le dz h4.size
  have g4 : ¬ w.heap.size = w4.heap.size := by omega
  have g4' : ¬ w.heap.size + 1 = w4.heap.size := by omega
  clear h4 kx d0 d1 BV
  go_wp2_with fail
  refine (ky _).mono ?_
  rintro e w5 ⟨rfl, h5⟩
  have B5 : Below w.heap.size w w5 := Below.trans (by go_grown) (h5.mono (by first | (simp; done) | omega | (simp; omega)))
  have y5 := B5.size
  have E0 := box2 h5 (w4.heap.size) (.int .i64 x1) (.int .u64 x0) (by first | assumption | (simp [go_sem]; done) | (simp [go_sem]; done)) (by first | assumption | (simp [go_sem]; done) | (simp [go_sem]; done)) (by first | assumption | (simp [go_sem]; done) | (simp [go_sem]; done)) (by first | assumption | (simp [go_sem]; done) | (simp [go_sem]; done)) (by first | assumption | omega | (simp; done) | (simp; omega))
  obtain ⟨E0c0, E0c1, E0f0, E0f1, E0z⟩ := E0
  clear h5 ky B4
  go_wp2_with fail
  go_returns
  exact ⟨rfl, by go_grown⟩
set_option maxHeartbeats 4000000 in
theorem div_fits_znf (a1 a0 b0 q1 q0 r1 r0 p1 p0 c x1 x0 t1 t0 j z : Int) (bz : ¬ b0 = 0) (c0 : (c != 0) = true) (j0 : (j != 0) = false) (z0 : z < 0)
    (k0 : ∀ w, Calls Try.prog 27 #[] w fun e w' => e = .returned (.bool true) ∧ Below w.heap.size w w')
    (kq : ∀ w, Calls Try.prog 34 #[.agg #[.int .i64 a1, .int .u64 a0], .agg #[.int .i64 0, .int .u64 b0]] w fun e w' => e = .returned (.tuple #[.agg #[.int .i64 q1, .int .u64 q0], .agg #[.int .i64 r1, .int .u64 r0], .int .i64 0]) ∧ Below w.heap.size w w')
    (km : ∀ w, Calls Try.prog 32 #[.agg #[.int .i64 q1, .int .u64 q0], .agg #[.int .i64 0, .int .u64 b0]] w fun e w' => e = .returned (.tuple #[.agg #[.int .i64 p1, .int .u64 p0], .int .i64 0]) ∧ Below w.heap.size w w')
    (ka : ∀ w, Calls Try.prog 28 #[.agg #[.int .i64 p1, .int .u64 p0], .agg #[.int .i64 r1, .int .u64 r0]] w fun e w' => e = .returned (.tuple #[.agg #[.int .i64 a1, .int .u64 a0], .int .i64 0]) ∧ Below w.heap.size w w')
    (kr : ∀ w, Calls Try.prog 25 #[.agg #[.int .i64 r1, .int .u64 r0]] w fun e w' => e = .returned (.int .i64 c) ∧ Below w.heap.size w w')
    (ks : ∀ w, Calls Try.prog 25 #[.agg #[.int .i64 a1, .int .u64 a0]] w fun e w' => e = .returned (.int .i64 c) ∧ Below w.heap.size w w')
    (kx : ∀ w, Calls Try.prog 19 #[.agg #[.int .i64 r1, .int .u64 r0]] w fun e w' => e = .returned (.tuple #[.agg #[.int .i64 x1, .int .u64 x0], .int .i64 0]) ∧ Below w.heap.size w w')
    (ky : ∀ w, Calls Try.prog 19 #[.agg #[.int .i64 0, .int .u64 b0]] w fun e w' => e = .returned (.tuple #[.agg #[.int .i64 t1, .int .u64 t0], .int .i64 j]) ∧ Below w.heap.size w w')
    (kc : ∀ w, Calls Try.prog 23 #[.agg #[.int .i64 x1, .int .u64 x0], .agg #[.int .i64 t1, .int .u64 t0]] w fun e w' => e = .returned (.int .i64 z) ∧ Below w.heap.size w w')
    (w : World) : Calls Try.prog 13 #[.agg #[.int .i64 a1, .int .u64 a0], .agg #[.int .i64 0, .int .u64 b0]] w fun e w' => e = .returned (.bool true) ∧ Below w.heap.size w w' := by
  go_enter Try.func13, Try.ntmps13
  go_wp2_with fail
  refine (kq _).mono ?_
  rintro e w1 ⟨rfl, h1⟩
  have B1 : Below w.heap.size w w1 := Below.trans (by go_grown) (h1.mono (by first | (simp; done) | omega | (simp; omega)))
  have y1 := B1.size
  have A0 := box2 h1 (w.heap.size) (.int .i64 a1) (.int .u64 a0) (by first | assumption | (simp [go_sem]; done) | (simp [go_sem]; done)) (by first | assumption | (simp [go_sem]; done) | (simp [go_sem]; done)) (by first | assumption | (simp [go_sem]; done) | (simp [go_sem]; done)) (by first | assumption | (simp [go_sem]; done) | (simp [go_sem]; done)) (by first | assumption | omega | (simp; done) | (simp; omega))
  have A1 := box2 h1 (w.heap.size + 1) (.int .i64 0) (.int .u64 b0) (by first | assumption | (simp [go_sem]; done) | (simp [go_sem]; done)) (by first | assumption | (simp [go_sem]; done) | (simp [go_sem]; done)) (by first | assumption | (simp [go_sem]; done) | (simp [go_sem]; done)) (by first | assumption | (simp [go_sem]; done) | (simp [go_sem]; done)) (by first | assumption | omega | (simp; done) | (simp; omega))
  obtain ⟨A0c0, A0c1, A0f0, A0f1, A0z⟩ := A0
  obtain ⟨A1c0, A1c1, A1f0, A1f1, A1z⟩ := A1
  (try (have m1_0 : ¬ w.heap.size = w1.heap.size := by omega)); (try (have m1_0' : ¬ w1.heap.size = w.heap.size := by omega))
  clear h1 kq
  go_wp2_with fail
  refine (km _).mono ?_
  rintro e w2 ⟨rfl, h2⟩
  have B2 : Below w.heap.size w w2 := Below.trans (by go_grown) (h2.mono (by first | (simp; done) | omega | (simp; omega)))
  have y2 := B2.size
  have B0 := box2 h2 (w.heap.size) (.int .i64 a1) (.int .u64 a0) (by first | assumption | (refine (Below.cell ?_ A0z).trans A0c0; go_grown; done) | (simp [go_sem, A0c0]; done) | (simp [go_sem, A0c0, A0z]; done) | (simp [go_sem, A0c0, A0c1, A0f0, A0f1, A0z, A1c0, A1c1, A1f0, A1f1, A1z]; done)) (by first | assumption | (refine (Below.cell ?_ A0z).trans A0c1; go_grown; done) | (simp [go_sem, A0c1]; done) | (simp [go_sem, A0c1, A0z]; done) | (simp [go_sem, A0c0, A0c1, A0f0, A0f1, A0z, A1c0, A1c1, A1f0, A1f1, A1z]; done)) (by first | assumption | (refine (Below.frozen ?_ A0z).trans A0f0; go_grown; done) | (simp [go_sem, A0f0]; done) | (simp [go_sem, A0f0, A0z]; done) | (simp [go_sem, A0c0, A0c1, A0f0, A0f1, A0z, A1c0, A1c1, A1f0, A1f1, A1z]; done)) (by first | assumption | (refine (Below.frozen ?_ A0z).trans A0f1; go_grown; done) | (simp [go_sem, A0f1]; done) | (simp [go_sem, A0f1, A0z]; done) | (simp [go_sem, A0c0, A0c1, A0f0, A0f1, A0z, A1c0, A1c1, A1f0, A1f1, A1z]; done)) (by first | assumption | omega | (simp; done) | (simp; omega))
  have B1 := box2 h2 (w.heap.size + 1) (.int .i64 0) (.int .u64 b0) (by first | assumption | (refine (Below.cell ?_ A1z).trans A1c0; go_grown; done) | (simp [go_sem, A1c0]; done) | (simp [go_sem, A1c0, A1z]; done) | (simp [go_sem, A0c0, A0c1, A0f0, A0f1, A0z, A1c0, A1c1, A1f0, A1f1, A1z]; done)) (by first | assumption | (refine (Below.cell ?_ A1z).trans A1c1; go_grown; done) | (simp [go_sem, A1c1]; done) | (simp [go_sem, A1c1, A1z]; done) | (simp [go_sem, A0c0, A0c1, A0f0, A0f1, A0z, A1c0, A1c1, A1f0, A1f1, A1z]; done)) (by first | assumption | (refine (Below.frozen ?_ A1z).trans A1f0; go_grown; done) | (simp [go_sem, A1f0]; done) | (simp [go_sem, A1f0, A1z]; done) | (simp [go_sem, A0c0, A0c1, A0f0, A0f1, A0z, A1c0, A1c1, A1f0, A1f1, A1z]; done)) (by first | assumption | (refine (Below.frozen ?_ A1z).trans A1f1; go_grown; done) | (simp [go_sem, A1f1]; done) | (simp [go_sem, A1f1, A1z]; done) | (simp [go_sem, A0c0, A0c1, A0f0, A0f1, A0z, A1c0, A1c1, A1f0, A1f1, A1z]; done)) (by first | assumption | omega | (simp; done) | (simp; omega))
  have B2 := box2 h2 (w1.heap.size + 1) (.int .i64 r1) (.int .u64 r0) (by first | assumption | (simp [go_sem]; done) | (simp [go_sem, A0c0, A0c1, A0f0, A0f1, A0z, A1c0, A1c1, A1f0, A1f1, A1z]; done)) (by first | assumption | (simp [go_sem]; done) | (simp [go_sem, A0c0, A0c1, A0f0, A0f1, A0z, A1c0, A1c1, A1f0, A1f1, A1z]; done)) (by first | assumption | (simp [go_sem]; done) | (simp [go_sem, A0c0, A0c1, A0f0, A0f1, A0z, A1c0, A1c1, A1f0, A1f1, A1z]; done)) (by first | assumption | (simp [go_sem]; done) | (simp [go_sem, A0c0, A0c1, A0f0, A0f1, A0z, A1c0, A1c1, A1f0, A1f1, A1z]; done)) (by first | assumption | omega | (simp; done) | (simp; omega))
  clear A0c0 A0c1 A0f0 A0f1 A0z A1c0 A1c1 A1f0 A1f1 A1z
  obtain ⟨B0c0, B0c1, B0f0, B0f1, B0z⟩ := B0
  obtain ⟨B1c0, B1c1, B1f0, B1f1, B1z⟩ := B1
  obtain ⟨B2c0, B2c1, B2f0, B2f1, B2z⟩ := B2
  (try (have m2_0 : ¬ w.heap.size = w2.heap.size := by omega)); (try (have m2_0' : ¬ w2.heap.size = w.heap.size := by omega))
  (try (have m2_1 : ¬ w1.heap.size = w2.heap.size := by omega)); (try (have m2_1' : ¬ w2.heap.size = w1.heap.size := by omega))
  clear h2 km B1
  go_wp2_with fail
  refine (ka _).mono ?_
  rintro e w3 ⟨rfl, h3⟩
  have B3 : Below w.heap.size w w3 := Below.trans (by go_grown) (h3.mono (by first | (simp; done) | omega | (simp; omega)))
  have y3 := B3.size
  have C0 := box2 h3 (w.heap.size) (.int .i64 a1) (.int .u64 a0) (by first | assumption | (refine (Below.cell ?_ B0z).trans B0c0; go_grown; done) | (simp [go_sem, B0c0]; done) | (simp [go_sem, B0c0, B0z]; done) | (simp [go_sem, B0c0, B0c1, B0f0, B0f1, B0z, B1c0, B1c1, B1f0, B1f1, B1z, B2c0, B2c1, B2f0, B2f1, B2z]; done)) (by first | assumption | (refine (Below.cell ?_ B0z).trans B0c1; go_grown; done) | (simp [go_sem, B0c1]; done) | (simp [go_sem, B0c1, B0z]; done) | (simp [go_sem, B0c0, B0c1, B0f0, B0f1, B0z, B1c0, B1c1, B1f0, B1f1, B1z, B2c0, B2c1, B2f0, B2f1, B2z]; done)) (by first | assumption | (refine (Below.frozen ?_ B0z).trans B0f0; go_grown; done) | (simp [go_sem, B0f0]; done) | (simp [go_sem, B0f0, B0z]; done) | (simp [go_sem, B0c0, B0c1, B0f0, B0f1, B0z, B1c0, B1c1, B1f0, B1f1, B1z, B2c0, B2c1, B2f0, B2f1, B2z]; done)) (by first | assumption | (refine (Below.frozen ?_ B0z).trans B0f1; go_grown; done) | (simp [go_sem, B0f1]; done) | (simp [go_sem, B0f1, B0z]; done) | (simp [go_sem, B0c0, B0c1, B0f0, B0f1, B0z, B1c0, B1c1, B1f0, B1f1, B1z, B2c0, B2c1, B2f0, B2f1, B2z]; done)) (by first | assumption | omega | (simp; done) | (simp; omega))
  have C1 := box2 h3 (w.heap.size + 1) (.int .i64 0) (.int .u64 b0) (by first | assumption | (refine (Below.cell ?_ B1z).trans B1c0; go_grown; done) | (simp [go_sem, B1c0]; done) | (simp [go_sem, B1c0, B1z]; done) | (simp [go_sem, B0c0, B0c1, B0f0, B0f1, B0z, B1c0, B1c1, B1f0, B1f1, B1z, B2c0, B2c1, B2f0, B2f1, B2z]; done)) (by first | assumption | (refine (Below.cell ?_ B1z).trans B1c1; go_grown; done) | (simp [go_sem, B1c1]; done) | (simp [go_sem, B1c1, B1z]; done) | (simp [go_sem, B0c0, B0c1, B0f0, B0f1, B0z, B1c0, B1c1, B1f0, B1f1, B1z, B2c0, B2c1, B2f0, B2f1, B2z]; done)) (by first | assumption | (refine (Below.frozen ?_ B1z).trans B1f0; go_grown; done) | (simp [go_sem, B1f0]; done) | (simp [go_sem, B1f0, B1z]; done) | (simp [go_sem, B0c0, B0c1, B0f0, B0f1, B0z, B1c0, B1c1, B1f0, B1f1, B1z, B2c0, B2c1, B2f0, B2f1, B2z]; done)) (by first | assumption | (refine (Below.frozen ?_ B1z).trans B1f1; go_grown; done) | (simp [go_sem, B1f1]; done) | (simp [go_sem, B1f1, B1z]; done) | (simp [go_sem, B0c0, B0c1, B0f0, B0f1, B0z, B1c0, B1c1, B1f0, B1f1, B1z, B2c0, B2c1, B2f0, B2f1, B2z]; done)) (by first | assumption | omega | (simp; done) | (simp; omega))
  have C2 := box2 h3 (w1.heap.size + 1) (.int .i64 r1) (.int .u64 r0) (by first | assumption | (refine (Below.cell ?_ B2z).trans B2c0; go_grown; done) | (simp [go_sem, B2c0]; done) | (simp [go_sem, B2c0, B2z]; done) | (simp [go_sem, B0c0, B0c1, B0f0, B0f1, B0z, B1c0, B1c1, B1f0, B1f1, B1z, B2c0, B2c1, B2f0, B2f1, B2z]; done)) (by first | assumption | (refine (Below.cell ?_ B2z).trans B2c1; go_grown; done) | (simp [go_sem, B2c1]; done) | (simp [go_sem, B2c1, B2z]; done) | (simp [go_sem, B0c0, B0c1, B0f0, B0f1, B0z, B1c0, B1c1, B1f0, B1f1, B1z, B2c0, B2c1, B2f0, B2f1, B2z]; done)) (by first | assumption | (refine (Below.frozen ?_ B2z).trans B2f0; go_grown; done) | (simp [go_sem, B2f0]; done) | (simp [go_sem, B2f0, B2z]; done) | (simp [go_sem, B0c0, B0c1, B0f0, B0f1, B0z, B1c0, B1c1, B1f0, B1f1, B1z, B2c0, B2c1, B2f0, B2f1, B2z]; done)) (by first | assumption | (refine (Below.frozen ?_ B2z).trans B2f1; go_grown; done) | (simp [go_sem, B2f1]; done) | (simp [go_sem, B2f1, B2z]; done) | (simp [go_sem, B0c0, B0c1, B0f0, B0f1, B0z, B1c0, B1c1, B1f0, B1f1, B1z, B2c0, B2c1, B2f0, B2f1, B2z]; done)) (by first | assumption | omega | (simp; done) | (simp; omega))
  clear B0c0 B0c1 B0f0 B0f1 B0z B1c0 B1c1 B1f0 B1f1 B1z B2c0 B2c1 B2f0 B2f1 B2z
  obtain ⟨C0c0, C0c1, C0f0, C0f1, C0z⟩ := C0
  obtain ⟨C1c0, C1c1, C1f0, C1f1, C1z⟩ := C1
  obtain ⟨C2c0, C2c1, C2f0, C2f1, C2z⟩ := C2
  (try (have m3_0 : ¬ w.heap.size = w3.heap.size := by omega)); (try (have m3_0' : ¬ w3.heap.size = w.heap.size := by omega))
  (try (have m3_1 : ¬ w1.heap.size = w3.heap.size := by omega)); (try (have m3_1' : ¬ w3.heap.size = w1.heap.size := by omega))
  (try (have m3_2 : ¬ w2.heap.size = w3.heap.size := by omega)); (try (have m3_2' : ¬ w3.heap.size = w2.heap.size := by omega))
  clear h3 ka B2
  go_wp2_with fail
  obtain ⟨W, hW⟩ : ∃ X, X = w3.alloc (Obj.cells #[.int .i64 a1, .int .u64 a0] 24) := ⟨_, rfl⟩
  have cW0 : W.cell? ⟨w.heap.size, 0, none⟩ = some (.int .i64 a1) := by rw [hW]; first | (refine (Below.cell ?_ C0z).trans C0c0; go_grown; done) | (simp [go_sem]; done)
  have fW0 : W.frozen? ⟨w.heap.size, 0, none⟩ = false := by rw [hW]; first | (refine (Below.frozen ?_ C0z).trans C0f0; go_grown; done) | (simp [go_sem]; done)
  have zW0 : w.heap.size < W.heap.size := by rw [hW]; first | omega | (simp; done) | (simp; omega)
  have cW1 : W.cell? ⟨w.heap.size, 1, none⟩ = some (.int .u64 a0) := by rw [hW]; first | (refine (Below.cell ?_ C0z).trans C0c1; go_grown; done) | (simp [go_sem]; done)
  have fW1 : W.frozen? ⟨w.heap.size, 1, none⟩ = false := by rw [hW]; first | (refine (Below.frozen ?_ C0z).trans C0f1; go_grown; done) | (simp [go_sem]; done)
  have zW1 : w.heap.size < W.heap.size := by rw [hW]; first | omega | (simp; done) | (simp; omega)
  have cW2 : W.cell? ⟨w.heap.size + 1, 0, none⟩ = some (.int .i64 0) := by rw [hW]; first | (refine (Below.cell ?_ C1z).trans C1c0; go_grown; done) | (simp [go_sem]; done)
  have fW2 : W.frozen? ⟨w.heap.size + 1, 0, none⟩ = false := by rw [hW]; first | (refine (Below.frozen ?_ C1z).trans C1f0; go_grown; done) | (simp [go_sem]; done)
  have zW2 : w.heap.size + 1 < W.heap.size := by rw [hW]; first | omega | (simp; done) | (simp; omega)
  have cW3 : W.cell? ⟨w.heap.size + 1, 1, none⟩ = some (.int .u64 b0) := by rw [hW]; first | (refine (Below.cell ?_ C1z).trans C1c1; go_grown; done) | (simp [go_sem]; done)
  have fW3 : W.frozen? ⟨w.heap.size + 1, 1, none⟩ = false := by rw [hW]; first | (refine (Below.frozen ?_ C1z).trans C1f1; go_grown; done) | (simp [go_sem]; done)
  have zW3 : w.heap.size + 1 < W.heap.size := by rw [hW]; first | omega | (simp; done) | (simp; omega)
  have cW4 : W.cell? ⟨w1.heap.size + 1, 0, none⟩ = some (.int .i64 r1) := by rw [hW]; first | (refine (Below.cell ?_ C2z).trans C2c0; go_grown; done) | (simp [go_sem]; done)
  have fW4 : W.frozen? ⟨w1.heap.size + 1, 0, none⟩ = false := by rw [hW]; first | (refine (Below.frozen ?_ C2z).trans C2f0; go_grown; done) | (simp [go_sem]; done)
  have zW4 : w1.heap.size + 1 < W.heap.size := by rw [hW]; first | omega | (simp; done) | (simp; omega)
  have cW5 : W.cell? ⟨w1.heap.size + 1, 1, none⟩ = some (.int .u64 r0) := by rw [hW]; first | (refine (Below.cell ?_ C2z).trans C2c1; go_grown; done) | (simp [go_sem]; done)
  have fW5 : W.frozen? ⟨w1.heap.size + 1, 1, none⟩ = false := by rw [hW]; first | (refine (Below.frozen ?_ C2z).trans C2f1; go_grown; done) | (simp [go_sem]; done)
  have zW5 : w1.heap.size + 1 < W.heap.size := by rw [hW]; first | omega | (simp; done) | (simp; omega)
  have cW6 : W.cell? ⟨w3.heap.size, 0, none⟩ = some (.int .i64 a1) := by rw [hW]; first | (simp [go_sem]; done)
  have fW6 : W.frozen? ⟨w3.heap.size, 0, none⟩ = false := by rw [hW]; first | (simp [go_sem]; done)
  have zW6 : w3.heap.size < W.heap.size := by rw [hW]; first | omega | (simp; done) | (simp; omega)
  have cW7 : W.cell? ⟨w3.heap.size, 1, none⟩ = some (.int .u64 a0) := by rw [hW]; first | (simp [go_sem]; done)
  have fW7 : W.frozen? ⟨w3.heap.size, 1, none⟩ = false := by rw [hW]; first | (simp [go_sem]; done)
  have zW7 : w3.heap.size < W.heap.size := by rw [hW]; first | omega | (simp; done) | (simp; omega)
  have BW : Below w.heap.size w W := by rw [hW]; go_grown
  rw [← hW]
  clear hW
  have K0 := Keeps.start (Nat.le_refl W.heap.size)
  have K1 := K0.drew
  go_region_held3 (fun w' => w'.cell? ⟨w.heap.size, 0, none⟩ = some (.int .i64 a1) ∧ w'.cell? ⟨w.heap.size, 1, none⟩ = some (.int .u64 a0) ∧ w'.cell? ⟨w1.heap.size + 1, 0, none⟩ = some (.int .i64 r1) ∧ w'.cell? ⟨w1.heap.size + 1, 1, none⟩ = some (.int .u64 r0) ∧ w'.cell? ⟨w3.heap.size, 0, none⟩ = some (.int .i64 a1) ∧ w'.cell? ⟨w3.heap.size, 1, none⟩ = some (.int .u64 a0) ∧ Keeps W.heap.size W w') ((refine (fun K => ⟨Keeps.cell K cW0 zW0, Keeps.cell K cW1 zW1, Keeps.cell K cW4 zW4, Keeps.cell K cW5 zW5, Keeps.cell K cW6 zW6, Keeps.cell K cW7 zW7, K⟩) (?_ : Keeps W.heap.size W _); (repeat (first | assumption | refine Keeps.alloc ?_ _ | refine Keeps.drew ?_ | refine Keeps.setCell ?_ (by first | (simp; done) | omega | (simp; omega)) _))))
    (first | (go_at_call 25; ((with_reducible refine (kr _).mono ?_); rintro e v21 ⟨rfl, hb21⟩); have L21 := Keeps.call (B := W.heap.size) (W := W) (by repeat (first | assumption | refine Keeps.alloc ?_ _ | refine Keeps.drew ?_ | refine Keeps.setCell ?_ (by first | (simp; done) | omega | (simp; omega)) _)) hb21) | (go_at_call 25; ((with_reducible refine (ks _).mono ?_); rintro e v22 ⟨rfl, hb22⟩); have L22 := Keeps.call (B := W.heap.size) (W := W) (by repeat (first | assumption | refine Keeps.alloc ?_ _ | refine Keeps.drew ?_ | refine Keeps.setCell ?_ (by first | (simp; done) | omega | (simp; omega)) _)) hb22) | (go_at_call 27; ((with_reducible refine (k0 _).mono ?_); rintro e v23 ⟨rfl, hb23⟩); have L23 := Keeps.call (B := W.heap.size) (W := W) (by repeat (first | assumption | refine Keeps.alloc ?_ _ | refine Keeps.drew ?_ | refine Keeps.setCell ?_ (by first | (simp; done) | omega | (simp; omega)) _)) hb23))
  go_wp2_with fail
  have BV : Below w.heap.size w v23 := BW.trans (L23.below.mono BW.size)
  have yv := BV.size
  have d0 := L23.cell cW2 zW2
  have d1 := L23.cell cW3 zW3
  have dz : w.heap.size + 1 < v23.heap.size := by have := L23.below.size; omega
  clear cW0 cW1 cW2 cW3 cW4 cW5 cW6 cW7 fW0 fW1 fW2 fW3 fW4 fW5 fW6 fW7 zW0 zW1 zW2 zW3 zW4 zW5 zW6 zW7 C0c0 C0c1 C0f0 C0f1 C0z C1c0 C1c1 C1f0 C1f1 C1z C2c0 C2c1 C2f0 C2f1 C2z B3 BW kr ks k0 K0 K1
  refine (kx _).mono ?_
  rintro e w4 ⟨rfl, h4⟩
  have B4 : Below w.heap.size w w4 := BV.trans (h4.mono BV.size)
  have y4 := B4.size
  have d2 := (h4.cell (p := ⟨w.heap.size + 1, 0, none⟩) dz).trans d0
  have d3 := (h4.cell (p := ⟨w.heap.size + 1, 1, none⟩) dz).trans d1
  have dz4 := Nat.lt_of_lt_of_le dz h4.size
  have g4 : ¬ w.heap.size = w4.heap.size := by omega
  have g4' : ¬ w.heap.size + 1 = w4.heap.size := by omega
  clear h4 kx d0 d1 BV
  go_wp2_with fail
  refine (ky _).mono ?_
  rintro e w5 ⟨rfl, h5⟩
  have B5 : Below w.heap.size w w5 := Below.trans (by go_grown) (h5.mono (by first | (simp; done) | omega | (simp; omega)))
  have y5 := B5.size
  have E0 := box2 h5 (w4.heap.size) (.int .i64 x1) (.int .u64 x0) (by first | assumption | (simp [go_sem]; done) | (simp [go_sem]; done)) (by first | assumption | (simp [go_sem]; done) | (simp [go_sem]; done)) (by first | assumption | (simp [go_sem]; done) | (simp [go_sem]; done)) (by first | assumption | (simp [go_sem]; done) | (simp [go_sem]; done)) (by first | assumption | omega | (simp; done) | (simp; omega))
  obtain ⟨E0c0, E0c1, E0f0, E0f1, E0z⟩ := E0
  clear h5 ky B4
  go_wp2_with fail
  refine (kc _).mono ?_
  rintro e w6 ⟨rfl, h6⟩
  have B6 : Below w.heap.size w w6 := Below.trans (by go_grown) (h6.mono (by first | (simp; done) | omega | (simp; omega)))
  go_wp2_with fail
  go_returns
  exact ⟨rfl, by go_grown⟩
end Go.Proofs.Ytjnjfdlmfinhfaa
