/- The reference of layer 2: Product, Ratio, Scale: the walks. (gen_mref.py) -/
import Derived.Test.YtedpbdcbbfofoaaMref
namespace Go.Proofs.Ytedpbdcbbfofoaa
set_option linter.unusedVariables false
open Go.RowKit W
set_option maxHeartbeats 4000000 in
theorem rproduct_yes (a b m n t q v r : Int) (x y : Bool)
    (ka : ∀ w, Calls Try.prog 21 #[.int .i64 a] w fun e w' => e = .returned (.tuple #[mgV m, .bool x]) ∧ Below w.heap.size w w')
    (kb : ∀ w, Calls Try.prog 21 #[.int .i64 b] w fun e w' => e = .returned (.tuple #[magV 0 n false, .bool y]) ∧ Below w.heap.size w w')
    (kt : ∀ w, Calls Try.prog 20 #[mgV m, .int .u64 n] w fun e w' => e = .returned (mgV t) ∧ Below w.heap.size w w')
    (kq : ∀ w, Calls Try.prog 29 #[mgV t, .int .u64 1000000] w fun e w' => e = .returned (.tuple #[mgV q, .int .u64 r]) ∧ Below w.heap.size w w')
    (ks : ∀ w, Calls Try.prog 30 #[mgV q, .bool (x != y)] w fun e w' => e = .returned (.tuple #[.int .i64 v, .bool true]) ∧ Below w.heap.size w w')
    (w : World) : Calls Try.prog 16 #[.int .i64 a, .int .i64 b] w fun e w' => e = .returned (.tuple #[.int .i64 v, .int .i64 0]) ∧ Below w.heap.size w w' := by
  go_enter Try.func16, Try.ntmps16
  go_wp2_with fail
  refine (ka _).mono ?_
  rintro e w1 ⟨rfl, h1⟩
  have B1 : Below w.heap.size w w1 := Below.trans (by go_grown) (h1.mono (by first | (simp; done) | omega | (simp; omega)))
  have y1 := B1.size
  clear h1 ka
  go_wp2_with fail
  refine (kb _).mono ?_
  rintro e w2 ⟨rfl, h2⟩
  have B2 : Below w.heap.size w w2 := Below.trans (by go_grown) (h2.mono (by first | (simp; done) | omega | (simp; omega)))
  have y2 := B2.size
  have B0 := box3 h2 (w1.heap.size) (.int .u64 (mh m)) (.int .u64 (ml m)) (.bool (mo m)) (by first | assumption | (simp [go_sem]; done) | (simp [go_sem]; done)) (by first | assumption | (simp [go_sem]; done) | (simp [go_sem]; done)) (by first | assumption | (simp [go_sem]; done) | (simp [go_sem]; done)) (by first | assumption | (simp [go_sem]; done) | (simp [go_sem]; done)) (by first | assumption | (simp [go_sem]; done) | (simp [go_sem]; done)) (by first | assumption | (simp [go_sem]; done) | (simp [go_sem]; done)) (by first | assumption | omega | (simp; done) | (simp; omega))
  obtain ⟨B0c0, B0c1, B0c2, B0f0, B0f1, B0f2, B0z⟩ := B0
  clear h2 kb B1
  go_wp2_with fail
  refine (kt _).mono ?_
  rintro e w3 ⟨rfl, h3⟩
  have B3 : Below w.heap.size w w3 := Below.trans (by go_grown) (h3.mono (by first | (simp; done) | omega | (simp; omega)))
  have y3 := B3.size
  clear B0c0 B0c1 B0c2 B0f0 B0f1 B0f2 B0z
  clear h3 kt B2
  go_wp2_with fail
  refine (kq _).mono ?_
  rintro e w4 ⟨rfl, h4⟩
  have B4 : Below w.heap.size w w4 := Below.trans (by go_grown) (h4.mono (by first | (simp; done) | omega | (simp; omega)))
  have y4 := B4.size
  clear h4 kq B3
  go_wp2_with fail
  refine (ks _).mono ?_
  rintro e w5 ⟨rfl, h5⟩
  have B5 : Below w.heap.size w w5 := Below.trans (by go_grown) (h5.mono (by first | (simp; done) | omega | (simp; omega)))
  have y5 := B5.size
  clear h5 ks B4
  go_wp2_with fail
  go_returns
  exact ⟨rfl, by go_grown⟩
set_option maxHeartbeats 4000000 in
theorem rproduct_no (a b m n t q v r : Int) (x y : Bool)
    (ka : ∀ w, Calls Try.prog 21 #[.int .i64 a] w fun e w' => e = .returned (.tuple #[mgV m, .bool x]) ∧ Below w.heap.size w w')
    (kb : ∀ w, Calls Try.prog 21 #[.int .i64 b] w fun e w' => e = .returned (.tuple #[magV 0 n false, .bool y]) ∧ Below w.heap.size w w')
    (kt : ∀ w, Calls Try.prog 20 #[mgV m, .int .u64 n] w fun e w' => e = .returned (mgV t) ∧ Below w.heap.size w w')
    (kq : ∀ w, Calls Try.prog 29 #[mgV t, .int .u64 1000000] w fun e w' => e = .returned (.tuple #[mgV q, .int .u64 r]) ∧ Below w.heap.size w w')
    (ks : ∀ w, Calls Try.prog 30 #[mgV q, .bool (x != y)] w fun e w' => e = .returned (.tuple #[.int .i64 v, .bool false]) ∧ Below w.heap.size w w')
    (w : World) : Calls Try.prog 16 #[.int .i64 a, .int .i64 b] w fun e w' => e = .returned (.tuple #[.int .i64 0, .int .i64 10]) ∧ Below w.heap.size w w' := by
  go_enter Try.func16, Try.ntmps16
  go_wp2_with fail
  refine (ka _).mono ?_
  rintro e w1 ⟨rfl, h1⟩
  have B1 : Below w.heap.size w w1 := Below.trans (by go_grown) (h1.mono (by first | (simp; done) | omega | (simp; omega)))
  have y1 := B1.size
  clear h1 ka
  go_wp2_with fail
  refine (kb _).mono ?_
  rintro e w2 ⟨rfl, h2⟩
  have B2 : Below w.heap.size w w2 := Below.trans (by go_grown) (h2.mono (by first | (simp; done) | omega | (simp; omega)))
  have y2 := B2.size
  have B0 := box3 h2 (w1.heap.size) (.int .u64 (mh m)) (.int .u64 (ml m)) (.bool (mo m)) (by first | assumption | (simp [go_sem]; done) | (simp [go_sem]; done)) (by first | assumption | (simp [go_sem]; done) | (simp [go_sem]; done)) (by first | assumption | (simp [go_sem]; done) | (simp [go_sem]; done)) (by first | assumption | (simp [go_sem]; done) | (simp [go_sem]; done)) (by first | assumption | (simp [go_sem]; done) | (simp [go_sem]; done)) (by first | assumption | (simp [go_sem]; done) | (simp [go_sem]; done)) (by first | assumption | omega | (simp; done) | (simp; omega))
  obtain ⟨B0c0, B0c1, B0c2, B0f0, B0f1, B0f2, B0z⟩ := B0
  clear h2 kb B1
  go_wp2_with fail
  refine (kt _).mono ?_
  rintro e w3 ⟨rfl, h3⟩
  have B3 : Below w.heap.size w w3 := Below.trans (by go_grown) (h3.mono (by first | (simp; done) | omega | (simp; omega)))
  have y3 := B3.size
  clear B0c0 B0c1 B0c2 B0f0 B0f1 B0f2 B0z
  clear h3 kt B2
  go_wp2_with fail
  refine (kq _).mono ?_
  rintro e w4 ⟨rfl, h4⟩
  have B4 : Below w.heap.size w w4 := Below.trans (by go_grown) (h4.mono (by first | (simp; done) | omega | (simp; omega)))
  have y4 := B4.size
  clear h4 kq B3
  go_wp2_with fail
  refine (ks _).mono ?_
  rintro e w5 ⟨rfl, h5⟩
  have B5 : Below w.heap.size w w5 := Below.trans (by go_grown) (h5.mono (by first | (simp; done) | omega | (simp; omega)))
  have y5 := B5.size
  clear h5 ks B4
  go_wp2_with fail
  go_returns
  exact ⟨rfl, by go_grown⟩
set_option maxHeartbeats 4000000 in
theorem rratio_zero (a : Int)
    (w : World) : Calls Try.prog 18 #[.int .i64 a, .int .i64 0] w fun e w' => e = .returned (.tuple #[.int .i64 0, .int .i64 11]) ∧ Below w.heap.size w w' := by
  go_enter Try.func18, Try.ntmps18
  go_wp2_with fail
  go_returns
  exact ⟨rfl, by go_grown⟩
set_option maxHeartbeats 4000000 in
theorem rratio_yes (a b m n t q v r : Int) (x y : Bool) (b0 : (b == 0) = false) (nn : (n == 9223372036854775808) = false)
    (ka : ∀ w, Calls Try.prog 21 #[.int .i64 a] w fun e w' => e = .returned (.tuple #[mgV m, .bool x]) ∧ Below w.heap.size w w')
    (kb : ∀ w, Calls Try.prog 21 #[.int .i64 b] w fun e w' => e = .returned (.tuple #[magV 0 n false, .bool y]) ∧ Below w.heap.size w w')
    (kt : ∀ w, Calls Try.prog 20 #[mgV m, .int .u64 1000000] w fun e w' => e = .returned (mgV t) ∧ Below w.heap.size w w')
    (kq : ∀ w, Calls Try.prog 29 #[mgV t, .int .u64 n] w fun e w' => e = .returned (.tuple #[mgV q, .int .u64 r]) ∧ Below w.heap.size w w')
    (ks : ∀ w, Calls Try.prog 30 #[mgV q, .bool (x != y)] w fun e w' => e = .returned (.tuple #[.int .i64 v, .bool true]) ∧ Below w.heap.size w w')
    (w : World) : Calls Try.prog 18 #[.int .i64 a, .int .i64 b] w fun e w' => e = .returned (.tuple #[.int .i64 v, .int .i64 0]) ∧ Below w.heap.size w w' := by
  go_enter Try.func18, Try.ntmps18
  go_wp2_with fail
  refine (ka _).mono ?_
  rintro e w1 ⟨rfl, h1⟩
  have B1 : Below w.heap.size w w1 := Below.trans (by go_grown) (h1.mono (by first | (simp; done) | omega | (simp; omega)))
  have y1 := B1.size
  clear h1 ka
  go_wp2_with fail
  refine (kb _).mono ?_
  rintro e w2 ⟨rfl, h2⟩
  have B2 : Below w.heap.size w w2 := Below.trans (by go_grown) (h2.mono (by first | (simp; done) | omega | (simp; omega)))
  have y2 := B2.size
  have B0 := box3 h2 (w1.heap.size) (.int .u64 (mh m)) (.int .u64 (ml m)) (.bool (mo m)) (by first | assumption | (simp [go_sem]; done) | (simp [go_sem]; done)) (by first | assumption | (simp [go_sem]; done) | (simp [go_sem]; done)) (by first | assumption | (simp [go_sem]; done) | (simp [go_sem]; done)) (by first | assumption | (simp [go_sem]; done) | (simp [go_sem]; done)) (by first | assumption | (simp [go_sem]; done) | (simp [go_sem]; done)) (by first | assumption | (simp [go_sem]; done) | (simp [go_sem]; done)) (by first | assumption | omega | (simp; done) | (simp; omega))
  obtain ⟨B0c0, B0c1, B0c2, B0f0, B0f1, B0f2, B0z⟩ := B0
  clear h2 kb B1
  go_wp2_with fail
  refine (kt _).mono ?_
  rintro e w3 ⟨rfl, h3⟩
  have B3 : Below w.heap.size w w3 := Below.trans (by go_grown) (h3.mono (by first | (simp; done) | omega | (simp; omega)))
  have y3 := B3.size
  have C0 := box3 h3 (w2.heap.size) (.int .u64 0) (.int .u64 n) (.bool false) (by first | assumption | (simp [go_sem]; done) | (simp [go_sem, B0c0, B0c1, B0c2, B0f0, B0f1, B0f2, B0z]; done)) (by first | assumption | (simp [go_sem]; done) | (simp [go_sem, B0c0, B0c1, B0c2, B0f0, B0f1, B0f2, B0z]; done)) (by first | assumption | (simp [go_sem]; done) | (simp [go_sem, B0c0, B0c1, B0c2, B0f0, B0f1, B0f2, B0z]; done)) (by first | assumption | (simp [go_sem]; done) | (simp [go_sem, B0c0, B0c1, B0c2, B0f0, B0f1, B0f2, B0z]; done)) (by first | assumption | (simp [go_sem]; done) | (simp [go_sem, B0c0, B0c1, B0c2, B0f0, B0f1, B0f2, B0z]; done)) (by first | assumption | (simp [go_sem]; done) | (simp [go_sem, B0c0, B0c1, B0c2, B0f0, B0f1, B0f2, B0z]; done)) (by first | assumption | omega | (simp; done) | (simp; omega))
  clear B0c0 B0c1 B0c2 B0f0 B0f1 B0f2 B0z
  obtain ⟨C0c0, C0c1, C0c2, C0f0, C0f1, C0f2, C0z⟩ := C0
  clear h3 kt B2
  go_wp2_with fail
  refine (kq _).mono ?_
  rintro e w4 ⟨rfl, h4⟩
  have B4 : Below w.heap.size w w4 := Below.trans (by go_grown) (h4.mono (by first | (simp; done) | omega | (simp; omega)))
  have y4 := B4.size
  have D0 := box3 h4 (w3.heap.size + 1) (.int .u64 0) (.int .u64 0) (.bool false) (by first | assumption | (simp [go_sem]; done) | (simp [go_sem, C0c0, C0c1, C0c2, C0f0, C0f1, C0f2, C0z]; done)) (by first | assumption | (simp [go_sem]; done) | (simp [go_sem, C0c0, C0c1, C0c2, C0f0, C0f1, C0f2, C0z]; done)) (by first | assumption | (simp [go_sem]; done) | (simp [go_sem, C0c0, C0c1, C0c2, C0f0, C0f1, C0f2, C0z]; done)) (by first | assumption | (simp [go_sem]; done) | (simp [go_sem, C0c0, C0c1, C0c2, C0f0, C0f1, C0f2, C0z]; done)) (by first | assumption | (simp [go_sem]; done) | (simp [go_sem, C0c0, C0c1, C0c2, C0f0, C0f1, C0f2, C0z]; done)) (by first | assumption | (simp [go_sem]; done) | (simp [go_sem, C0c0, C0c1, C0c2, C0f0, C0f1, C0f2, C0z]; done)) (by first | assumption | omega | (simp; done) | (simp; omega))
  clear C0c0 C0c1 C0c2 C0f0 C0f1 C0f2 C0z
  obtain ⟨D0c0, D0c1, D0c2, D0f0, D0f1, D0f2, D0z⟩ := D0
  clear h4 kq B3
  go_wp2_with fail
  refine (ks _).mono ?_
  rintro e w5 ⟨rfl, h5⟩
  have B5 : Below w.heap.size w w5 := Below.trans (by go_grown) (h5.mono (by first | (simp; done) | omega | (simp; omega)))
  have y5 := B5.size
  clear D0c0 D0c1 D0c2 D0f0 D0f1 D0f2 D0z
  clear h5 ks B4
  go_wp2_with fail
  go_returns
  exact ⟨rfl, by go_grown⟩
set_option maxHeartbeats 4000000 in
theorem rratio_no (a b m n t q v r : Int) (x y : Bool) (b0 : (b == 0) = false) (nn : (n == 9223372036854775808) = false)
    (ka : ∀ w, Calls Try.prog 21 #[.int .i64 a] w fun e w' => e = .returned (.tuple #[mgV m, .bool x]) ∧ Below w.heap.size w w')
    (kb : ∀ w, Calls Try.prog 21 #[.int .i64 b] w fun e w' => e = .returned (.tuple #[magV 0 n false, .bool y]) ∧ Below w.heap.size w w')
    (kt : ∀ w, Calls Try.prog 20 #[mgV m, .int .u64 1000000] w fun e w' => e = .returned (mgV t) ∧ Below w.heap.size w w')
    (kq : ∀ w, Calls Try.prog 29 #[mgV t, .int .u64 n] w fun e w' => e = .returned (.tuple #[mgV q, .int .u64 r]) ∧ Below w.heap.size w w')
    (ks : ∀ w, Calls Try.prog 30 #[mgV q, .bool (x != y)] w fun e w' => e = .returned (.tuple #[.int .i64 v, .bool false]) ∧ Below w.heap.size w w')
    (w : World) : Calls Try.prog 18 #[.int .i64 a, .int .i64 b] w fun e w' => e = .returned (.tuple #[.int .i64 0, .int .i64 10]) ∧ Below w.heap.size w w' := by
  go_enter Try.func18, Try.ntmps18
  go_wp2_with fail
  refine (ka _).mono ?_
  rintro e w1 ⟨rfl, h1⟩
  have B1 : Below w.heap.size w w1 := Below.trans (by go_grown) (h1.mono (by first | (simp; done) | omega | (simp; omega)))
  have y1 := B1.size
  clear h1 ka
  go_wp2_with fail
  refine (kb _).mono ?_
  rintro e w2 ⟨rfl, h2⟩
  have B2 : Below w.heap.size w w2 := Below.trans (by go_grown) (h2.mono (by first | (simp; done) | omega | (simp; omega)))
  have y2 := B2.size
  have B0 := box3 h2 (w1.heap.size) (.int .u64 (mh m)) (.int .u64 (ml m)) (.bool (mo m)) (by first | assumption | (simp [go_sem]; done) | (simp [go_sem]; done)) (by first | assumption | (simp [go_sem]; done) | (simp [go_sem]; done)) (by first | assumption | (simp [go_sem]; done) | (simp [go_sem]; done)) (by first | assumption | (simp [go_sem]; done) | (simp [go_sem]; done)) (by first | assumption | (simp [go_sem]; done) | (simp [go_sem]; done)) (by first | assumption | (simp [go_sem]; done) | (simp [go_sem]; done)) (by first | assumption | omega | (simp; done) | (simp; omega))
  obtain ⟨B0c0, B0c1, B0c2, B0f0, B0f1, B0f2, B0z⟩ := B0
  clear h2 kb B1
  go_wp2_with fail
  refine (kt _).mono ?_
  rintro e w3 ⟨rfl, h3⟩
  have B3 : Below w.heap.size w w3 := Below.trans (by go_grown) (h3.mono (by first | (simp; done) | omega | (simp; omega)))
  have y3 := B3.size
  have C0 := box3 h3 (w2.heap.size) (.int .u64 0) (.int .u64 n) (.bool false) (by first | assumption | (simp [go_sem]; done) | (simp [go_sem, B0c0, B0c1, B0c2, B0f0, B0f1, B0f2, B0z]; done)) (by first | assumption | (simp [go_sem]; done) | (simp [go_sem, B0c0, B0c1, B0c2, B0f0, B0f1, B0f2, B0z]; done)) (by first | assumption | (simp [go_sem]; done) | (simp [go_sem, B0c0, B0c1, B0c2, B0f0, B0f1, B0f2, B0z]; done)) (by first | assumption | (simp [go_sem]; done) | (simp [go_sem, B0c0, B0c1, B0c2, B0f0, B0f1, B0f2, B0z]; done)) (by first | assumption | (simp [go_sem]; done) | (simp [go_sem, B0c0, B0c1, B0c2, B0f0, B0f1, B0f2, B0z]; done)) (by first | assumption | (simp [go_sem]; done) | (simp [go_sem, B0c0, B0c1, B0c2, B0f0, B0f1, B0f2, B0z]; done)) (by first | assumption | omega | (simp; done) | (simp; omega))
  clear B0c0 B0c1 B0c2 B0f0 B0f1 B0f2 B0z
  obtain ⟨C0c0, C0c1, C0c2, C0f0, C0f1, C0f2, C0z⟩ := C0
  clear h3 kt B2
  go_wp2_with fail
  refine (kq _).mono ?_
  rintro e w4 ⟨rfl, h4⟩
  have B4 : Below w.heap.size w w4 := Below.trans (by go_grown) (h4.mono (by first | (simp; done) | omega | (simp; omega)))
  have y4 := B4.size
  have D0 := box3 h4 (w3.heap.size + 1) (.int .u64 0) (.int .u64 0) (.bool false) (by first | assumption | (simp [go_sem]; done) | (simp [go_sem, C0c0, C0c1, C0c2, C0f0, C0f1, C0f2, C0z]; done)) (by first | assumption | (simp [go_sem]; done) | (simp [go_sem, C0c0, C0c1, C0c2, C0f0, C0f1, C0f2, C0z]; done)) (by first | assumption | (simp [go_sem]; done) | (simp [go_sem, C0c0, C0c1, C0c2, C0f0, C0f1, C0f2, C0z]; done)) (by first | assumption | (simp [go_sem]; done) | (simp [go_sem, C0c0, C0c1, C0c2, C0f0, C0f1, C0f2, C0z]; done)) (by first | assumption | (simp [go_sem]; done) | (simp [go_sem, C0c0, C0c1, C0c2, C0f0, C0f1, C0f2, C0z]; done)) (by first | assumption | (simp [go_sem]; done) | (simp [go_sem, C0c0, C0c1, C0c2, C0f0, C0f1, C0f2, C0z]; done)) (by first | assumption | omega | (simp; done) | (simp; omega))
  clear C0c0 C0c1 C0c2 C0f0 C0f1 C0f2 C0z
  obtain ⟨D0c0, D0c1, D0c2, D0f0, D0f1, D0f2, D0z⟩ := D0
  clear h4 kq B3
  go_wp2_with fail
  refine (ks _).mono ?_
  rintro e w5 ⟨rfl, h5⟩
  have B5 : Below w.heap.size w w5 := Below.trans (by go_grown) (h5.mono (by first | (simp; done) | omega | (simp; omega)))
  have y5 := B5.size
  clear D0c0 D0c1 D0c2 D0f0 D0f1 D0f2 D0z
  clear h5 ks B4
  go_wp2_with fail
  go_returns
  exact ⟨rfl, by go_grown⟩
set_option maxHeartbeats 4000000 in
theorem rratio_least_yes (a b m t z v : Int) (x y : Bool) (b0 : (b == 0) = false) (ez : IntKind.u64.wrap (IntKind.u64.wrap (mh t * 2) + ml t / 9223372036854775808) = z)
    (ka : ∀ w, Calls Try.prog 21 #[.int .i64 a] w fun e w' => e = .returned (.tuple #[mgV m, .bool x]) ∧ Below w.heap.size w w')
    (kb : ∀ w, Calls Try.prog 21 #[.int .i64 b] w fun e w' => e = .returned (.tuple #[magV 0 9223372036854775808 false, .bool y]) ∧ Below w.heap.size w w')
    (kt : ∀ w, Calls Try.prog 20 #[mgV m, .int .u64 1000000] w fun e w' => e = .returned (mgV t) ∧ Below w.heap.size w w')
    (ks : ∀ w, Calls Try.prog 30 #[magV 0 z false, .bool (x != y)] w fun e w' => e = .returned (.tuple #[.int .i64 v, .bool true]) ∧ Below w.heap.size w w')
    (w : World) : Calls Try.prog 18 #[.int .i64 a, .int .i64 b] w fun e w' => e = .returned (.tuple #[.int .i64 v, .int .i64 0]) ∧ Below w.heap.size w w' := by
  go_enter Try.func18, Try.ntmps18
  go_wp2_with fail
  refine (ka _).mono ?_
  rintro e w1 ⟨rfl, h1⟩
  have B1 : Below w.heap.size w w1 := Below.trans (by go_grown) (h1.mono (by first | (simp; done) | omega | (simp; omega)))
  have y1 := B1.size
  clear h1 ka
  go_wp2_with fail
  refine (kb _).mono ?_
  rintro e w2 ⟨rfl, h2⟩
  have B2 : Below w.heap.size w w2 := Below.trans (by go_grown) (h2.mono (by first | (simp; done) | omega | (simp; omega)))
  have y2 := B2.size
  have B0 := box3 h2 (w1.heap.size) (.int .u64 (mh m)) (.int .u64 (ml m)) (.bool (mo m)) (by first | assumption | (simp [go_sem]; done) | (simp [go_sem]; done)) (by first | assumption | (simp [go_sem]; done) | (simp [go_sem]; done)) (by first | assumption | (simp [go_sem]; done) | (simp [go_sem]; done)) (by first | assumption | (simp [go_sem]; done) | (simp [go_sem]; done)) (by first | assumption | (simp [go_sem]; done) | (simp [go_sem]; done)) (by first | assumption | (simp [go_sem]; done) | (simp [go_sem]; done)) (by first | assumption | omega | (simp; done) | (simp; omega))
  obtain ⟨B0c0, B0c1, B0c2, B0f0, B0f1, B0f2, B0z⟩ := B0
  clear h2 kb B1
  go_wp2_with fail
  refine (kt _).mono ?_
  rintro e w3 ⟨rfl, h3⟩
  have B3 : Below w.heap.size w w3 := Below.trans (by go_grown) (h3.mono (by first | (simp; done) | omega | (simp; omega)))
  have y3 := B3.size
  have C0 := box3 h3 (w2.heap.size) (.int .u64 0) (.int .u64 9223372036854775808) (.bool false) (by first | assumption | (simp [go_sem]; done) | (simp [go_sem, B0c0, B0c1, B0c2, B0f0, B0f1, B0f2, B0z]; done)) (by first | assumption | (simp [go_sem]; done) | (simp [go_sem, B0c0, B0c1, B0c2, B0f0, B0f1, B0f2, B0z]; done)) (by first | assumption | (simp [go_sem]; done) | (simp [go_sem, B0c0, B0c1, B0c2, B0f0, B0f1, B0f2, B0z]; done)) (by first | assumption | (simp [go_sem]; done) | (simp [go_sem, B0c0, B0c1, B0c2, B0f0, B0f1, B0f2, B0z]; done)) (by first | assumption | (simp [go_sem]; done) | (simp [go_sem, B0c0, B0c1, B0c2, B0f0, B0f1, B0f2, B0z]; done)) (by first | assumption | (simp [go_sem]; done) | (simp [go_sem, B0c0, B0c1, B0c2, B0f0, B0f1, B0f2, B0z]; done)) (by first | assumption | omega | (simp; done) | (simp; omega))
  clear B0c0 B0c1 B0c2 B0f0 B0f1 B0f2 B0z
  obtain ⟨C0c0, C0c1, C0c2, C0f0, C0f1, C0f2, C0z⟩ := C0
  clear h3 kt B2
  go_wp2_with fail
  refine (ks _).mono ?_
  rintro e w4 ⟨rfl, h4⟩
  have B4 : Below w.heap.size w w4 := Below.trans (by go_grown) (h4.mono (by first | (simp; done) | omega | (simp; omega)))
  have y4 := B4.size
  clear C0c0 C0c1 C0c2 C0f0 C0f1 C0f2 C0z
  clear h4 ks B3
  go_wp2_with fail
  go_returns
  exact ⟨rfl, by go_grown⟩
set_option maxHeartbeats 4000000 in
theorem rratio_least_no (a b m t z v : Int) (x y : Bool) (b0 : (b == 0) = false) (ez : IntKind.u64.wrap (IntKind.u64.wrap (mh t * 2) + ml t / 9223372036854775808) = z)
    (ka : ∀ w, Calls Try.prog 21 #[.int .i64 a] w fun e w' => e = .returned (.tuple #[mgV m, .bool x]) ∧ Below w.heap.size w w')
    (kb : ∀ w, Calls Try.prog 21 #[.int .i64 b] w fun e w' => e = .returned (.tuple #[magV 0 9223372036854775808 false, .bool y]) ∧ Below w.heap.size w w')
    (kt : ∀ w, Calls Try.prog 20 #[mgV m, .int .u64 1000000] w fun e w' => e = .returned (mgV t) ∧ Below w.heap.size w w')
    (ks : ∀ w, Calls Try.prog 30 #[magV 0 z false, .bool (x != y)] w fun e w' => e = .returned (.tuple #[.int .i64 v, .bool false]) ∧ Below w.heap.size w w')
    (w : World) : Calls Try.prog 18 #[.int .i64 a, .int .i64 b] w fun e w' => e = .returned (.tuple #[.int .i64 0, .int .i64 10]) ∧ Below w.heap.size w w' := by
  go_enter Try.func18, Try.ntmps18
  go_wp2_with fail
  refine (ka _).mono ?_
  rintro e w1 ⟨rfl, h1⟩
  have B1 : Below w.heap.size w w1 := Below.trans (by go_grown) (h1.mono (by first | (simp; done) | omega | (simp; omega)))
  have y1 := B1.size
  clear h1 ka
  go_wp2_with fail
  refine (kb _).mono ?_
  rintro e w2 ⟨rfl, h2⟩
  have B2 : Below w.heap.size w w2 := Below.trans (by go_grown) (h2.mono (by first | (simp; done) | omega | (simp; omega)))
  have y2 := B2.size
  have B0 := box3 h2 (w1.heap.size) (.int .u64 (mh m)) (.int .u64 (ml m)) (.bool (mo m)) (by first | assumption | (simp [go_sem]; done) | (simp [go_sem]; done)) (by first | assumption | (simp [go_sem]; done) | (simp [go_sem]; done)) (by first | assumption | (simp [go_sem]; done) | (simp [go_sem]; done)) (by first | assumption | (simp [go_sem]; done) | (simp [go_sem]; done)) (by first | assumption | (simp [go_sem]; done) | (simp [go_sem]; done)) (by first | assumption | (simp [go_sem]; done) | (simp [go_sem]; done)) (by first | assumption | omega | (simp; done) | (simp; omega))
  obtain ⟨B0c0, B0c1, B0c2, B0f0, B0f1, B0f2, B0z⟩ := B0
  clear h2 kb B1
  go_wp2_with fail
  refine (kt _).mono ?_
  rintro e w3 ⟨rfl, h3⟩
  have B3 : Below w.heap.size w w3 := Below.trans (by go_grown) (h3.mono (by first | (simp; done) | omega | (simp; omega)))
  have y3 := B3.size
  have C0 := box3 h3 (w2.heap.size) (.int .u64 0) (.int .u64 9223372036854775808) (.bool false) (by first | assumption | (simp [go_sem]; done) | (simp [go_sem, B0c0, B0c1, B0c2, B0f0, B0f1, B0f2, B0z]; done)) (by first | assumption | (simp [go_sem]; done) | (simp [go_sem, B0c0, B0c1, B0c2, B0f0, B0f1, B0f2, B0z]; done)) (by first | assumption | (simp [go_sem]; done) | (simp [go_sem, B0c0, B0c1, B0c2, B0f0, B0f1, B0f2, B0z]; done)) (by first | assumption | (simp [go_sem]; done) | (simp [go_sem, B0c0, B0c1, B0c2, B0f0, B0f1, B0f2, B0z]; done)) (by first | assumption | (simp [go_sem]; done) | (simp [go_sem, B0c0, B0c1, B0c2, B0f0, B0f1, B0f2, B0z]; done)) (by first | assumption | (simp [go_sem]; done) | (simp [go_sem, B0c0, B0c1, B0c2, B0f0, B0f1, B0f2, B0z]; done)) (by first | assumption | omega | (simp; done) | (simp; omega))
  clear B0c0 B0c1 B0c2 B0f0 B0f1 B0f2 B0z
  obtain ⟨C0c0, C0c1, C0c2, C0f0, C0f1, C0f2, C0z⟩ := C0
  clear h3 kt B2
  go_wp2_with fail
  refine (ks _).mono ?_
  rintro e w4 ⟨rfl, h4⟩
  have B4 : Below w.heap.size w w4 := Below.trans (by go_grown) (h4.mono (by first | (simp; done) | omega | (simp; omega)))
  have y4 := B4.size
  clear C0c0 C0c1 C0c2 C0f0 C0f1 C0f2 C0z
  clear h4 ks B3
  go_wp2_with fail
  go_returns
  exact ⟨rfl, by go_grown⟩
set_option maxHeartbeats 4000000 in
theorem rscale_low (v r : Int) (h : r < 1000)
    (w : World) : Calls Try.prog 12 #[.int .i64 v, .int .i64 r] w fun e w' => e = .returned (.tuple #[.int .i64 0, .int .i64 23]) ∧ Below w.heap.size w w' := by
  go_enter Try.func12, Try.ntmps12
  go_wp2_with fail
  go_returns
  exact ⟨rfl, by go_grown⟩
set_option maxHeartbeats 4000000 in
theorem rscale_high (v r : Int) (h : ¬ r < 1000) (h' : 1000000 < r)
    (w : World) : Calls Try.prog 12 #[.int .i64 v, .int .i64 r] w fun e w' => e = .returned (.tuple #[.int .i64 0, .int .i64 23]) ∧ Below w.heap.size w w' := by
  go_enter Try.func12, Try.ntmps12
  go_wp2_with fail
  go_returns
  exact ⟨rfl, by go_grown⟩
set_option maxHeartbeats 4000000 in
theorem rscale_far (v r : Int) (h : ¬ r < 1000) (h' : ¬ 1000000 < r)
    (kf : ∀ w, Calls Try.prog 28 #[.int .i64 v] w fun e w' => e = .returned (.bool true) ∧ Below w.heap.size w w')
    (w : World) : Calls Try.prog 12 #[.int .i64 v, .int .i64 r] w fun e w' => e = .returned (.tuple #[.int .i64 0, .int .i64 22]) ∧ Below w.heap.size w w' := by
  go_enter Try.func12, Try.ntmps12
  go_wp2_with fail
  refine (kf _).mono ?_
  rintro e w1 ⟨rfl, h1⟩
  have B1 : Below w.heap.size w w1 := Below.trans (by go_grown) (h1.mono (by first | (simp; done) | omega | (simp; omega)))
  have y1 := B1.size
  clear h1 kf
  go_wp2_with fail
  go_returns
  exact ⟨rfl, by go_grown⟩
set_option maxHeartbeats 4000000 in
theorem rscale_some (v r m t q z l : Int) (x ok : Bool) (h : ¬ r < 1000) (h' : ¬ 1000000 < r) (er : IntKind.u64.wrap r = r)
    (kf : ∀ w, Calls Try.prog 28 #[.int .i64 v] w fun e w' => e = .returned (.bool false) ∧ Below w.heap.size w w')
    (ka : ∀ w, Calls Try.prog 21 #[.int .i64 v] w fun e w' => e = .returned (.tuple #[mgV m, .bool x]) ∧ Below w.heap.size w w')
    (kt : ∀ w, Calls Try.prog 20 #[mgV m, .int .u64 1000000] w fun e w' => e = .returned (mgV t) ∧ Below w.heap.size w w')
    (kq : ∀ w, Calls Try.prog 29 #[mgV t, .int .u64 r] w fun e w' => e = .returned (.tuple #[mgV q, .int .u64 l]) ∧ Below w.heap.size w w')
    (ks : ∀ w, Calls Try.prog 30 #[mgV q, .bool x] w fun e w' => e = .returned (.tuple #[.int .i64 z, .bool ok]) ∧ Below w.heap.size w w')
    (w : World) : Calls Try.prog 12 #[.int .i64 v, .int .i64 r] w fun e w' => e = .returned (.tuple #[.int .i64 z, .int .i64 0]) ∧ Below w.heap.size w w' := by
  go_enter Try.func12, Try.ntmps12
  go_wp2_with fail
  refine (kf _).mono ?_
  rintro e w1 ⟨rfl, h1⟩
  have B1 : Below w.heap.size w w1 := Below.trans (by go_grown) (h1.mono (by first | (simp; done) | omega | (simp; omega)))
  have y1 := B1.size
  clear h1 kf
  go_wp2_with fail
  refine (ka _).mono ?_
  rintro e w2 ⟨rfl, h2⟩
  have B2 : Below w.heap.size w w2 := Below.trans (by go_grown) (h2.mono (by first | (simp; done) | omega | (simp; omega)))
  have y2 := B2.size
  clear h2 ka B1
  go_wp2_with fail
  refine (kt _).mono ?_
  rintro e w3 ⟨rfl, h3⟩
  have B3 : Below w.heap.size w w3 := Below.trans (by go_grown) (h3.mono (by first | (simp; done) | omega | (simp; omega)))
  have y3 := B3.size
  clear h3 kt B2
  go_wp2_with fail
  refine (kq _).mono ?_
  rintro e w4 ⟨rfl, h4⟩
  have B4 : Below w.heap.size w w4 := Below.trans (by go_grown) (h4.mono (by first | (simp; done) | omega | (simp; omega)))
  have y4 := B4.size
  clear h4 kq B3
  go_wp2_with fail
  refine (ks _).mono ?_
  rintro e w5 ⟨rfl, h5⟩
  have B5 : Below w.heap.size w w5 := Below.trans (by go_grown) (h5.mono (by first | (simp; done) | omega | (simp; omega)))
  have y5 := B5.size
  clear h5 ks B4
  go_wp2_with fail
  go_returns
  exact ⟨rfl, by go_grown⟩
end Go.Proofs.Ytedpbdcbbfofoaa
