/- WideDivides: the walks. (gen_wdiv.py) -/
import Derived.Test.YtjnjfdlmfinhfaaQuo
import Derived.Test.YtjnjfdlmfinhfaaWalive
import Derived.Test.YtjnjfdlmfinhfaaWadd
import Derived.Test.YtjnjfdlmfinhfaaWneg
import Derived.Test.YtjnjfdlmfinhfaaHid
import Derived.Deep.RegionHeld3
import Derived.Deep.DeepCutAuto
namespace Go.Proofs.Ytjnjfdlmfinhfaa
set_option linter.unusedVariables false
open Go.RowKit W
set_option maxHeartbeats 4000000 in
theorem div_zero (a1 a0 : Int)
    (k0 : ∀ w, Calls Try.prog 27 #[] w fun e w' => e = .returned (.bool true) ∧ Below w.heap.size w w')
    (kq : ∀ w, Calls Try.prog 34 #[.agg #[.int .i64 a1, .int .u64 a0], .agg #[.int .i64 0, .int .u64 0]] w fun e w' => e = .returned (.tuple #[.agg #[.int .i64 0, .int .u64 0], .agg #[.int .i64 0, .int .u64 0], .int .i64 11]) ∧ Below w.heap.size w w')
    (w : World) : Calls Try.prog 13 #[.agg #[.int .i64 a1, .int .u64 a0], .agg #[.int .i64 0, .int .u64 0]] w fun e w' => e = .returned (.bool true) ∧ Below w.heap.size w w' := by
  go_enter Try.func13, Try.ntmps13
  go_wp2_with fail
  refine (kq _).mono ?_
  rintro e w1 ⟨rfl, h1⟩
  have B1 : Below w.heap.size w w1 := Below.trans (by go_grown) (h1.mono (by first | (simp; done) | omega | (simp; omega)))
  have y1 := B1.size
  have A0 := box2 h1 (w.heap.size) (.int .i64 a1) (.int .u64 a0) (by first | assumption | (simp [go_sem]; done) | (simp [go_sem]; done)) (by first | assumption | (simp [go_sem]; done) | (simp [go_sem]; done)) (by first | assumption | (simp [go_sem]; done) | (simp [go_sem]; done)) (by first | assumption | (simp [go_sem]; done) | (simp [go_sem]; done)) (by first | assumption | omega | (simp; done) | (simp; omega))
  have A1 := box2 h1 (w.heap.size + 1) (.int .i64 0) (.int .u64 0) (by first | assumption | (simp [go_sem]; done) | (simp [go_sem]; done)) (by first | assumption | (simp [go_sem]; done) | (simp [go_sem]; done)) (by first | assumption | (simp [go_sem]; done) | (simp [go_sem]; done)) (by first | assumption | (simp [go_sem]; done) | (simp [go_sem]; done)) (by first | assumption | omega | (simp; done) | (simp; omega))
  obtain ⟨A0c0, A0c1, A0f0, A0f1, A0z⟩ := A0
  obtain ⟨A1c0, A1c1, A1f0, A1f1, A1z⟩ := A1
  (try (have m1_0 : ¬ w.heap.size = w1.heap.size := by omega)); (try (have m1_0' : ¬ w1.heap.size = w.heap.size := by omega))
  clear h1 kq
  go_wp2_with fail
  refine (k0 _).mono ?_
  rintro e w2 ⟨rfl, h2⟩
  have B2 : Below w.heap.size w w2 := Below.trans (by go_grown) (h2.mono (by first | (simp; done) | omega | (simp; omega)))
  have y2 := B2.size
  clear A0c0 A0c1 A0f0 A0f1 A0z A1c0 A1c1 A1f0 A1f1 A1z
  (try (have m2_0 : ¬ w.heap.size = w2.heap.size := by omega)); (try (have m2_0' : ¬ w2.heap.size = w.heap.size := by omega))
  (try (have m2_1 : ¬ w1.heap.size = w2.heap.size := by omega)); (try (have m2_1' : ¬ w2.heap.size = w1.heap.size := by omega))
  clear h2 k0 B1
  go_wp2_with fail
  go_returns
  exact ⟨rfl, B2⟩
set_option maxHeartbeats 4000000 in
theorem div_over (a1 a0 b1 b0 : Int) (bz : ¬ b1 = 0)
    (k0 : ∀ w, Calls Try.prog 27 #[] w fun e w' => e = .returned (.bool true) ∧ Below w.heap.size w w')
    (kq : ∀ w, Calls Try.prog 34 #[.agg #[.int .i64 a1, .int .u64 a0], .agg #[.int .i64 b1, .int .u64 b0]] w fun e w' => e = .returned (.tuple #[.agg #[.int .i64 0, .int .u64 0], .agg #[.int .i64 0, .int .u64 0], .int .i64 10]) ∧ Below w.heap.size w w')
    (kn : ∀ w, Calls Try.prog 17 #[.agg #[.int .i64 a1, .int .u64 a0]] w fun e w' => e = .returned (.tuple #[.agg #[.int .i64 0, .int .u64 0], .int .i64 10]) ∧ Below w.heap.size w w')
    (ko : ∀ w, Calls Try.prog 21 #[.int .i64 (-1)] w fun e w' => e = .returned (.agg #[.int .i64 b1, .int .u64 b0]) ∧ Below w.heap.size w w')
    (w : World) : Calls Try.prog 13 #[.agg #[.int .i64 a1, .int .u64 a0], .agg #[.int .i64 b1, .int .u64 b0]] w fun e w' => e = .returned (.bool true) ∧ Below w.heap.size w w' := by
  go_enter Try.func13, Try.ntmps13
  go_wp2_with fail
  refine (kq _).mono ?_
  rintro e w1 ⟨rfl, h1⟩
  have B1 : Below w.heap.size w w1 := Below.trans (by go_grown) (h1.mono (by first | (simp; done) | omega | (simp; omega)))
  have y1 := B1.size
  have A0 := box2 h1 (w.heap.size) (.int .i64 a1) (.int .u64 a0) (by first | assumption | (simp [go_sem]; done) | (simp [go_sem]; done)) (by first | assumption | (simp [go_sem]; done) | (simp [go_sem]; done)) (by first | assumption | (simp [go_sem]; done) | (simp [go_sem]; done)) (by first | assumption | (simp [go_sem]; done) | (simp [go_sem]; done)) (by first | assumption | omega | (simp; done) | (simp; omega))
  have A1 := box2 h1 (w.heap.size + 1) (.int .i64 b1) (.int .u64 b0) (by first | assumption | (simp [go_sem]; done) | (simp [go_sem]; done)) (by first | assumption | (simp [go_sem]; done) | (simp [go_sem]; done)) (by first | assumption | (simp [go_sem]; done) | (simp [go_sem]; done)) (by first | assumption | (simp [go_sem]; done) | (simp [go_sem]; done)) (by first | assumption | omega | (simp; done) | (simp; omega))
  obtain ⟨A0c0, A0c1, A0f0, A0f1, A0z⟩ := A0
  obtain ⟨A1c0, A1c1, A1f0, A1f1, A1z⟩ := A1
  (try (have m1_0 : ¬ w.heap.size = w1.heap.size := by omega)); (try (have m1_0' : ¬ w1.heap.size = w.heap.size := by omega))
  clear h1 kq
  go_wp2_with fail
  refine (kn _).mono ?_
  rintro e w2 ⟨rfl, h2⟩
  have B2 : Below w.heap.size w w2 := Below.trans (by go_grown) (h2.mono (by first | (simp; done) | omega | (simp; omega)))
  have y2 := B2.size
  have B0 := box2 h2 (w.heap.size + 1) (.int .i64 b1) (.int .u64 b0) (by first | assumption | (refine (Below.cell ?_ A1z).trans A1c0; go_grown; done) | (simp [go_sem, A1c0]; done) | (simp [go_sem, A1c0, A1z]; done) | (simp [go_sem, A0c0, A0c1, A0f0, A0f1, A0z, A1c0, A1c1, A1f0, A1f1, A1z]; done)) (by first | assumption | (refine (Below.cell ?_ A1z).trans A1c1; go_grown; done) | (simp [go_sem, A1c1]; done) | (simp [go_sem, A1c1, A1z]; done) | (simp [go_sem, A0c0, A0c1, A0f0, A0f1, A0z, A1c0, A1c1, A1f0, A1f1, A1z]; done)) (by first | assumption | (refine (Below.frozen ?_ A1z).trans A1f0; go_grown; done) | (simp [go_sem, A1f0]; done) | (simp [go_sem, A1f0, A1z]; done) | (simp [go_sem, A0c0, A0c1, A0f0, A0f1, A0z, A1c0, A1c1, A1f0, A1f1, A1z]; done)) (by first | assumption | (refine (Below.frozen ?_ A1z).trans A1f1; go_grown; done) | (simp [go_sem, A1f1]; done) | (simp [go_sem, A1f1, A1z]; done) | (simp [go_sem, A0c0, A0c1, A0f0, A0f1, A0z, A1c0, A1c1, A1f0, A1f1, A1z]; done)) (by first | assumption | omega | (simp; done) | (simp; omega))
  clear A0c0 A0c1 A0f0 A0f1 A0z A1c0 A1c1 A1f0 A1f1 A1z
  obtain ⟨B0c0, B0c1, B0f0, B0f1, B0z⟩ := B0
  (try (have m2_0 : ¬ w.heap.size = w2.heap.size := by omega)); (try (have m2_0' : ¬ w2.heap.size = w.heap.size := by omega))
  (try (have m2_1 : ¬ w1.heap.size = w2.heap.size := by omega)); (try (have m2_1' : ¬ w2.heap.size = w1.heap.size := by omega))
  clear h2 kn B1
  go_wp2_with fail
  obtain ⟨W, hW⟩ : ∃ X, X = w2.alloc (Obj.cells #[.int .i64 0, .int .u64 0] 24) := ⟨_, rfl⟩
  have cW0 : W.cell? ⟨w.heap.size + 1, 0, none⟩ = some (.int .i64 b1) := by rw [hW]; first | (refine (Below.cell ?_ B0z).trans B0c0; go_grown; done) | (simp [go_sem]; done)
  have fW0 : W.frozen? ⟨w.heap.size + 1, 0, none⟩ = false := by rw [hW]; first | (refine (Below.frozen ?_ B0z).trans B0f0; go_grown; done) | (simp [go_sem]; done)
  have zW0 : w.heap.size + 1 < W.heap.size := by rw [hW]; first | omega | (simp; done) | (simp; omega)
  have cW1 : W.cell? ⟨w.heap.size + 1, 1, none⟩ = some (.int .u64 b0) := by rw [hW]; first | (refine (Below.cell ?_ B0z).trans B0c1; go_grown; done) | (simp [go_sem]; done)
  have fW1 : W.frozen? ⟨w.heap.size + 1, 1, none⟩ = false := by rw [hW]; first | (refine (Below.frozen ?_ B0z).trans B0f1; go_grown; done) | (simp [go_sem]; done)
  have zW1 : w.heap.size + 1 < W.heap.size := by rw [hW]; first | omega | (simp; done) | (simp; omega)
  have cW2 : W.cell? ⟨w2.heap.size, 0, none⟩ = some (.int .i64 0) := by rw [hW]; first | (simp [go_sem]; done)
  have fW2 : W.frozen? ⟨w2.heap.size, 0, none⟩ = false := by rw [hW]; first | (simp [go_sem]; done)
  have zW2 : w2.heap.size < W.heap.size := by rw [hW]; first | omega | (simp; done) | (simp; omega)
  have cW3 : W.cell? ⟨w2.heap.size, 1, none⟩ = some (.int .u64 0) := by rw [hW]; first | (simp [go_sem]; done)
  have fW3 : W.frozen? ⟨w2.heap.size, 1, none⟩ = false := by rw [hW]; first | (simp [go_sem]; done)
  have zW3 : w2.heap.size < W.heap.size := by rw [hW]; first | omega | (simp; done) | (simp; omega)
  have BW : Below w.heap.size w W := by rw [hW]; go_grown
  rw [← hW]
  clear hW
  have K0 := Keeps.start (Nat.le_refl W.heap.size)
  have K1 := K0.drew
  go_region_held3 (fun w' => w'.cell? ⟨w.heap.size + 1, 0, none⟩ = some (.int .i64 b1) ∧ w'.cell? ⟨w.heap.size + 1, 1, none⟩ = some (.int .u64 b0) ∧ w'.cell? ⟨w2.heap.size, 0, none⟩ = some (.int .i64 0) ∧ w'.cell? ⟨w2.heap.size, 1, none⟩ = some (.int .u64 0) ∧ Keeps W.heap.size W w') ((refine (fun K => ⟨Keeps.cell K cW0 zW0, Keeps.cell K cW1 zW1, Keeps.cell K cW2 zW2, Keeps.cell K cW3 zW3, K⟩) (?_ : Keeps W.heap.size W _); (repeat (first | assumption | refine Keeps.alloc ?_ _ | refine Keeps.drew ?_ | refine Keeps.setCell ?_ (by first | (simp; done) | omega | (simp; omega)) _))))
    (first | (go_at_call 21; ((with_reducible refine (ko _).mono ?_); rintro e v22 ⟨rfl, hb22⟩); have L22 := Keeps.call (B := W.heap.size) (W := W) (by repeat (first | assumption | refine Keeps.alloc ?_ _ | refine Keeps.drew ?_ | refine Keeps.setCell ?_ (by first | (simp; done) | omega | (simp; omega)) _)) hb22) | (go_at_call 27; ((with_reducible refine (k0 _).mono ?_); rintro e v23 ⟨rfl, hb23⟩); have L23 := Keeps.call (B := W.heap.size) (W := W) (by repeat (first | assumption | refine Keeps.alloc ?_ _ | refine Keeps.drew ?_ | refine Keeps.setCell ?_ (by first | (simp; done) | omega | (simp; omega)) _)) hb23))
  go_wp2_with fail
  go_returns
  exact ⟨rfl, BW.trans (L23.below.mono BW.size)⟩
end Go.Proofs.Ytjnjfdlmfinhfaa
