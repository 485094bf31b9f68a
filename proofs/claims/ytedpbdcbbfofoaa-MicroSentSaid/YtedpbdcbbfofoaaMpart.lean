/- micro: fit, part. -/
import Derived.Test.YtedpbdcbbfofoaaQuo
import Derived.Test.YtedpbdcbbfofoaaWsmall
import Derived.Test.YtedpbdcbbfofoaaWof
import Derived.Deep.DeepCutAuto
import Derived.Deep.RegionWith
namespace Go.Proofs.Ytedpbdcbbfofoaa
set_option linter.unusedVariables false
open Go.RowKit W
set_option maxHeartbeats 1000000 in
theorem fit_err (a b e : Int) (n : (e != 0) = true) (w : World) :
    Calls Try.prog 42 #[.agg #[.int .i64 a, .int .u64 b], .int .i64 e] w fun x w' => x = .returned (.tuple #[.int .i64 0, .int .i64 e]) ∧ Below w.heap.size w w' := by
  go_enter Try.func42, Try.ntmps42
  go_wp2_with fail
  go_returns
  exact ⟨rfl, by go_grown⟩
set_option maxHeartbeats 1000000 in
theorem fit_walk (a b v : Int) (t : Bool) (c : ∀ w, Calls Try.prog 48 #[.agg #[.int .i64 a, .int .u64 b]] w fun e w' => e = .returned (.tuple #[.int .i64 v, .bool t]) ∧ Below w.heap.size w w') (w : World) :
    Calls Try.prog 42 #[.agg #[.int .i64 a, .int .u64 b], .int .i64 0] w fun x w' => x = .returned (.tuple #[.int .i64 (if t then v else 0), .int .i64 (if t then 0 else 10)]) ∧ Below w.heap.size w w' := by
  cases t
  all_goals
    go_enter Try.func42, Try.ntmps42
    go_wp2_with fail
    refine (c _).mono ?_
    rintro e w1 ⟨rfl, h1⟩
    have B1 : Below w.heap.size w w1 := Below.trans (by go_grown) (h1.mono (by simp))
    go_wp2_with fail
    go_returns
    exact ⟨rfl, B1⟩
set_option maxHeartbeats 4000000 in
theorem part_walk (a b c a1 a0 b1 b0 c1 c0 p1 p0 q1 q0 r1 r0 e v x : Int)
    (ka : ∀ w, Calls Try.prog 32 #[.int .i64 a] w fun e w' => e = .returned (.agg #[.int .i64 a1, .int .u64 a0]) ∧ Below w.heap.size w w')
    (kb : ∀ w, Calls Try.prog 32 #[.int .i64 b] w fun e w' => e = .returned (.agg #[.int .i64 b1, .int .u64 b0]) ∧ Below w.heap.size w w')
    (kc : ∀ w, Calls Try.prog 32 #[.int .i64 c] w fun e w' => e = .returned (.agg #[.int .i64 c1, .int .u64 c0]) ∧ Below w.heap.size w w')
    (km : ∀ w, Calls Try.prog 40 #[.agg #[.int .i64 a1, .int .u64 a0], .agg #[.int .i64 b1, .int .u64 b0]] w fun e w' => e = .returned (.tuple #[.agg #[.int .i64 p1, .int .u64 p0], .int .i64 0]) ∧ Below w.heap.size w w')
    (kq : ∀ w, Calls Try.prog 31 #[.agg #[.int .i64 p1, .int .u64 p0], .agg #[.int .i64 c1, .int .u64 c0]] w fun x w' => x = .returned (.tuple #[.agg #[.int .i64 q1, .int .u64 q0], .agg #[.int .i64 r1, .int .u64 r0], .int .i64 e]) ∧ Below w.heap.size w w')
    (kf : ∀ w, Calls Try.prog 42 #[.agg #[.int .i64 q1, .int .u64 q0], .int .i64 e] w fun y w' => y = .returned (.tuple #[.int .i64 v, .int .i64 x]) ∧ Below w.heap.size w w') (w : World) :
    Calls Try.prog 27 #[.int .i64 a, .int .i64 b, .int .i64 c] w fun y w' => y = .returned (.tuple #[.int .i64 v, .int .i64 x]) ∧ Below w.heap.size w w' := by
  go_enter Try.func27, Try.ntmps27
  go_wp2_with fail
  refine (ka _).mono ?_
  rintro e w1 ⟨rfl, h1⟩
  have B1 : Below w.heap.size w w1 := Below.trans (by go_grown) (h1.mono (by first | (simp; done) | omega | (simp; omega)))
  have y1 := B1.size
  clear h1 ka
  go_wp2_with fail
  refine (kb _).mono ?_
  rintro e w2 ⟨rfl, h2⟩
  have B2 : Below w.heap.size w w2 := Below.trans (by go_grown) (h2.mono (by first | (simp; done) | omega | (simp; omega)))
  have y2 := B2.size
  clear h2 kb B1
  go_wp2_with fail
  refine (km _).mono ?_
  rintro e w3 ⟨rfl, h3⟩
  have B3 : Below w.heap.size w w3 := Below.trans (by go_grown) (h3.mono (by first | (simp; done) | omega | (simp; omega)))
  have y3 := B3.size
  clear h3 km B2
  go_wp2_with fail
  obtain ⟨W, hW⟩ : ∃ X, X = w3.alloc (Obj.cells #[.int .i64 p1, .int .u64 p0] 30) := ⟨_, rfl⟩
  have cW0 : W.cell? ⟨w3.heap.size, 0, none⟩ = some (.int .i64 p1) := by rw [hW]; first | (simp [go_sem]; done)
  have fW0 : W.frozen? ⟨w3.heap.size, 0, none⟩ = false := by rw [hW]; first | (simp [go_sem]; done)
  have zW0 : w3.heap.size < W.heap.size := by rw [hW]; first | omega | (simp; done) | (simp; omega)
  have cW1 : W.cell? ⟨w3.heap.size, 1, none⟩ = some (.int .u64 p0) := by rw [hW]; first | (simp [go_sem]; done)
  have fW1 : W.frozen? ⟨w3.heap.size, 1, none⟩ = false := by rw [hW]; first | (simp [go_sem]; done)
  have zW1 : w3.heap.size < W.heap.size := by rw [hW]; first | omega | (simp; done) | (simp; omega)
  have BW : Below w.heap.size w W := by rw [hW]; go_grown
  rw [← hW]
  clear hW
  clear B3
  go_cut [9, 10, 11] (fun ev x y W' => ∃ X Y : Nat, ev = .int .i64 e ∧ x = .pointer (some ⟨X, 0, none⟩) ∧ y = .pointer (some ⟨Y, 0, none⟩) ∧ Box2 W' X (.int .i64 q1) (.int .u64 q0) ∧ Below w.heap.size w W')
  case first =>
    have K0 := Keeps.start (Nat.le_refl W.heap.size)
    have K1 := K0.drew
    go_region_held3 (fun w' => w'.cell? ⟨w3.heap.size, 0, none⟩ = some (.int .i64 p1) ∧ w'.cell? ⟨w3.heap.size, 1, none⟩ = some (.int .u64 p0) ∧ Keeps W.heap.size W w') ((refine (fun K => ⟨Keeps.cell K cW0 zW0, Keeps.cell K cW1 zW1, K⟩) (?_ : Keeps W.heap.size W _); (repeat (first | assumption | refine Keeps.alloc ?_ _ | refine Keeps.drew ?_ | refine Keeps.setCell ?_ (by first | (simp; done) | omega | (simp; omega)) _))))
      (first
      | (go_at_call 32; refine (kc _).mono ?_; rintro e w4 ⟨rfl, hb⟩; have K2 := Keeps.call (B := W.heap.size) (W := W) (by repeat (first | assumption | refine Keeps.alloc ?_ _ | refine Keeps.drew ?_ | refine Keeps.setCell ?_ (by first | (simp; done) | omega | (simp; omega)) _)) hb; obtain ⟨bc2, bf2, bs2⟩ := bcell hb; (try simp only [World.size_alloc, World.size_drew] at bc2 bf2 bs2); (try (have ow40 : W.heap.size < w4.heap.size := by omega)); (try (have ow41 : W.heap.size ≤ w4.heap.size := by omega)); (try (have ow42 : ¬ W.heap.size = w4.heap.size := by omega)); (try (have ow43 : ¬ w4.heap.size = W.heap.size := by omega)); (try (have ow44 : W.heap.size + 1 < w4.heap.size := by omega)); (try (have ow45 : W.heap.size + 1 ≤ w4.heap.size := by omega)); (try (have ow46 : ¬ W.heap.size + 1 = w4.heap.size := by omega)); (try (have ow47 : ¬ w4.heap.size = W.heap.size + 1 := by omega)))
      | (go_at_call 31; refine (kq _).mono ?_; rintro e w5 ⟨rfl, hb'⟩; have K3 := Keeps.call (B := W.heap.size) (W := W) (by repeat (first | assumption | refine Keeps.alloc ?_ _ | refine Keeps.drew ?_ | refine Keeps.setCell ?_ (by first | (simp; done) | omega | (simp; omega)) _)) hb'; obtain ⟨bc3, bf3, bs3⟩ := bcell hb'; (try simp only [World.size_alloc] at bc3 bf3 bs3); (try (have ow50 : W.heap.size < w5.heap.size := by omega)); (try (have ow51 : W.heap.size ≤ w5.heap.size := by omega)); (try (have ow52 : ¬ W.heap.size = w5.heap.size := by omega)); (try (have ow53 : ¬ w5.heap.size = W.heap.size := by omega)); (try (have ow54 : W.heap.size + 1 < w5.heap.size := by omega)); (try (have ow55 : W.heap.size + 1 ≤ w5.heap.size := by omega)); (try (have ow56 : ¬ W.heap.size + 1 = w5.heap.size := by omega)); (try (have ow57 : ¬ w5.heap.size = W.heap.size + 1 := by omega)); (try (have ow58 : w4.heap.size < w5.heap.size := by omega)); (try (have ow59 : w4.heap.size ≤ w5.heap.size := by omega)); (try (have ow510 : ¬ w4.heap.size = w5.heap.size := by omega)); (try (have ow511 : ¬ w5.heap.size = w4.heap.size := by omega)); (try (have ow512 : w4.heap.size + 1 < w5.heap.size := by omega)); (try (have ow513 : w4.heap.size + 1 ≤ w5.heap.size := by omega)); (try (have ow514 : ¬ w4.heap.size + 1 = w5.heap.size := by omega)); (try (have ow515 : ¬ w5.heap.size = w4.heap.size + 1 := by omega))))
    all_goals
      go_wp2_with fail
      go_meet
      case rel =>
        refine ⟨_, _, rfl, rfl, rfl, ⟨?_, ?_, ?_, ?_, ?_⟩, ?_⟩
        · first | (go_simp; done) | (go_simp; refine World.cell?_setCell_same' _ _ _ ?_; go_simp; done)
        · first | (go_simp; done) | (go_simp; refine World.cell?_setCell_same' _ _ _ ?_; go_simp; done)
        · first | (go_simp; done) | (go_simp; refine World.cell?_setCell_same' _ _ _ ?_; go_simp; done)
        · first | (go_simp; done) | (go_simp; refine World.cell?_setCell_same' _ _ _ ?_; go_simp; done)
        · first | (simp; done) | omega | (simp; omega)
        · refine BW.trans (Below.mono (Keeps.below (B := W.heap.size) (W := W) ?_) BW.size)
          repeat (first | assumption | refine Keeps.alloc ?_ _ | refine Keeps.drew ?_ | refine Keeps.setCell ?_ (by first | (simp; done) | omega | (simp; omega)) _)
  case rest =>
    obtain ⟨X, Y, rfl, rfl, rfl, bx, BX⟩ := hcut
    obtain ⟨x0, x1, x2, x3, x4⟩ := bx
    go_wp2_with fail
    refine (kf _).mono ?_
    rintro e w6 ⟨rfl, h6⟩
    have B6 := BX.trans (h6.mono BX.size)
    go_wp2_with fail
    go_returns
    exact ⟨rfl, B6⟩
end Go.Proofs.Ytedpbdcbbfofoaa
