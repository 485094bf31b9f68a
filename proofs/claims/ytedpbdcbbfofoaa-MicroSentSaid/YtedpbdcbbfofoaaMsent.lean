/- MicroSent: the walks. (gen_msent.py) -/
import Derived.Test.YtedpbdcbbfofoaaMrefb
namespace Go.Proofs.Ytedpbdcbbfofoaa
set_option linter.unusedVariables false
open Go.RowKit W
set_option maxHeartbeats 4000000 in
theorem sent_bad_a (v r f : Int) (e0 : (f != 0) = true) (h : 1000000000000000 < v)
    (k1 : ∀ w, Calls Try.prog 11 #[.int .i64 v, .int .i64 r] w fun e w' => e = .returned (.tuple #[.int .i64 0, .int .i64 f]) ∧ Below w.heap.size w w')
    (k2 : ∀ w, Calls Try.prog 11 #[.int .i64 7, .int .i64 1000000] w fun e w' => e = .returned (.tuple #[.int .i64 7, .int .i64 0]) ∧ Below w.heap.size w w')
    (w : World) : Calls Try.prog 9 #[.int .i64 v, .int .i64 r] w fun e w' => e = .returned (.bool true) ∧ Below w.heap.size w w' := by
  go_enter Try.func9, Try.ntmps9
  go_wp2_with fail
  refine (k1 _).mono ?_
  rintro e w1 ⟨rfl, h1⟩
  have B1 : Below w.heap.size w w1 := Below.trans (by go_grown) (h1.mono (by first | (simp; done) | omega | (simp; omega)))
  have y1 := B1.size
  clear h1 k1
  go_wp2_with fail
  refine (k2 _).mono ?_
  rintro e w2 ⟨rfl, h2⟩
  have B2 : Below w.heap.size w w2 := Below.trans (by go_grown) (h2.mono (by first | (simp; done) | omega | (simp; omega)))
  have y2 := B2.size
  clear h2 k2 B1
  go_wp2_with fail
  go_returns
  exact ⟨rfl, by go_grown⟩
set_option maxHeartbeats 4000000 in
theorem sent_bad_b (v r f : Int) (e0 : (f != 0) = true) (h0 : ¬ 1000000000000000 < v) (h : v < -1000000000000000)
    (k1 : ∀ w, Calls Try.prog 11 #[.int .i64 v, .int .i64 r] w fun e w' => e = .returned (.tuple #[.int .i64 0, .int .i64 f]) ∧ Below w.heap.size w w')
    (k2 : ∀ w, Calls Try.prog 11 #[.int .i64 7, .int .i64 1000000] w fun e w' => e = .returned (.tuple #[.int .i64 7, .int .i64 0]) ∧ Below w.heap.size w w')
    (w : World) : Calls Try.prog 9 #[.int .i64 v, .int .i64 r] w fun e w' => e = .returned (.bool true) ∧ Below w.heap.size w w' := by
  go_enter Try.func9, Try.ntmps9
  go_wp2_with fail
  refine (k1 _).mono ?_
  rintro e w1 ⟨rfl, h1⟩
  have B1 : Below w.heap.size w w1 := Below.trans (by go_grown) (h1.mono (by first | (simp; done) | omega | (simp; omega)))
  have y1 := B1.size
  clear h1 k1
  go_wp2_with fail
  refine (k2 _).mono ?_
  rintro e w2 ⟨rfl, h2⟩
  have B2 : Below w.heap.size w w2 := Below.trans (by go_grown) (h2.mono (by first | (simp; done) | omega | (simp; omega)))
  have y2 := B2.size
  clear h2 k2 B1
  go_wp2_with fail
  go_returns
  exact ⟨rfl, by go_grown⟩
set_option maxHeartbeats 4000000 in
theorem sent_bad_c (v r f : Int) (e0 : (f != 0) = true) (h0 : ¬ 1000000000000000 < v) (h1 : ¬ v < -1000000000000000) (h : r < 1000)
    (k1 : ∀ w, Calls Try.prog 11 #[.int .i64 v, .int .i64 r] w fun e w' => e = .returned (.tuple #[.int .i64 0, .int .i64 f]) ∧ Below w.heap.size w w')
    (k2 : ∀ w, Calls Try.prog 11 #[.int .i64 7, .int .i64 1000000] w fun e w' => e = .returned (.tuple #[.int .i64 7, .int .i64 0]) ∧ Below w.heap.size w w')
    (w : World) : Calls Try.prog 9 #[.int .i64 v, .int .i64 r] w fun e w' => e = .returned (.bool true) ∧ Below w.heap.size w w' := by
  go_enter Try.func9, Try.ntmps9
  go_wp2_with fail
  refine (k1 _).mono ?_
  rintro e w1 ⟨rfl, h1⟩
  have B1 : Below w.heap.size w w1 := Below.trans (by go_grown) (h1.mono (by first | (simp; done) | omega | (simp; omega)))
  have y1 := B1.size
  clear h1 k1
  go_wp2_with fail
  refine (k2 _).mono ?_
  rintro e w2 ⟨rfl, h2⟩
  have B2 : Below w.heap.size w w2 := Below.trans (by go_grown) (h2.mono (by first | (simp; done) | omega | (simp; omega)))
  have y2 := B2.size
  clear h2 k2 B1
  go_wp2_with fail
  go_returns
  exact ⟨rfl, by go_grown⟩
set_option maxHeartbeats 4000000 in
theorem sent_bad_d (v r f : Int) (e0 : (f != 0) = true) (h0 : ¬ 1000000000000000 < v) (h1 : ¬ v < -1000000000000000) (h2 : ¬ r < 1000) (h : 1000000 < r)
    (k1 : ∀ w, Calls Try.prog 11 #[.int .i64 v, .int .i64 r] w fun e w' => e = .returned (.tuple #[.int .i64 0, .int .i64 f]) ∧ Below w.heap.size w w')
    (k2 : ∀ w, Calls Try.prog 11 #[.int .i64 7, .int .i64 1000000] w fun e w' => e = .returned (.tuple #[.int .i64 7, .int .i64 0]) ∧ Below w.heap.size w w')
    (w : World) : Calls Try.prog 9 #[.int .i64 v, .int .i64 r] w fun e w' => e = .returned (.bool true) ∧ Below w.heap.size w w' := by
  go_enter Try.func9, Try.ntmps9
  go_wp2_with fail
  refine (k1 _).mono ?_
  rintro e w1 ⟨rfl, h1⟩
  have B1 : Below w.heap.size w w1 := Below.trans (by go_grown) (h1.mono (by first | (simp; done) | omega | (simp; omega)))
  have y1 := B1.size
  clear h1 k1
  go_wp2_with fail
  refine (k2 _).mono ?_
  rintro e w2 ⟨rfl, h2⟩
  have B2 : Below w.heap.size w w2 := Below.trans (by go_grown) (h2.mono (by first | (simp; done) | omega | (simp; omega)))
  have y2 := B2.size
  clear h2 k2 B1
  go_wp2_with fail
  go_returns
  exact ⟨rfl, by go_grown⟩
set_option maxHeartbeats 4000000 in
theorem sent_niul (v r m n H Lo l d x y v1 : Int) (p q o : Bool) (er : IntKind.u64.wrap r = r) (ed : IntKind.i64.wrap (IntKind.u64.wrap (Lo - l)) = d) (dr : ¬ r ≤ d) (x0 : x < 0) (v0 : v < 0) (c1 : ¬ Lo < l) (u0 : (r == 1000000) = true) (u1 : (x != v) = false) (l0 : v < 1000000000000000) (l1 : x ≤ y) (ev : IntKind.i64.wrap (v + 1) = v1)
    (k1 : ∀ w, Calls Try.prog 11 #[.int .i64 v, .int .i64 r] w fun e w' => e = .returned (.tuple #[.int .i64 x, .int .i64 0]) ∧ Below w.heap.size w w')
    (k2 : ∀ w, Calls Try.prog 21 #[.int .i64 v] w fun e w' => e = .returned (.tuple #[magV 0 m false, .bool p]) ∧ Below w.heap.size w w')
    (k3 : ∀ w, Calls Try.prog 21 #[.int .i64 x] w fun e w' => e = .returned (.tuple #[magV 0 n false, .bool q]) ∧ Below w.heap.size w w')
    (k4 : ∀ w, Calls Try.prog 20 #[magV 0 m false, .int .u64 1000000] w fun e w' => e = .returned (magV H Lo false) ∧ Below w.heap.size w w')
    (k5 : ∀ w, Calls Try.prog 20 #[magV 0 n false, .int .u64 r] w fun e w' => e = .returned (magV H l false) ∧ Below w.heap.size w w')
    (k6 : ∀ w, Calls Try.prog 21 #[.int .i64 d] w fun e w' => e = .returned (.tuple #[magV 0 d false, .bool o]) ∧ Below w.heap.size w w')
    (k7 : ∀ w, Calls Try.prog 11 #[.int .i64 v1, .int .i64 r] w fun e w' => e = .returned (.tuple #[.int .i64 y, .int .i64 0]) ∧ Below w.heap.size w w')
    (w : World) : Calls Try.prog 9 #[.int .i64 v, .int .i64 r] w fun e w' => e = .returned (.bool true) ∧ Below w.heap.size w w' := by
  go_enter Try.func9, Try.ntmps9
  go_wp2_with fail
  refine (k1 _).mono ?_
  rintro e w1 ⟨rfl, h1⟩
  have B1 : Below w.heap.size w w1 := Below.trans (by go_grown) (h1.mono (by first | (simp; done) | omega | (simp; omega)))
  have y1 := B1.size
  (try (have m1_0 : ¬ w.heap.size = w1.heap.size := by omega)); (try (have m1_0' : ¬ w1.heap.size = w.heap.size := by omega))
  clear h1 k1
  go_wp2_with fail
  refine (k2 _).mono ?_
  rintro e w2 ⟨rfl, h2⟩
  have B2 : Below w.heap.size w w2 := Below.trans (by go_grown) (h2.mono (by first | (simp; done) | omega | (simp; omega)))
  have y2 := B2.size
  (try (have m2_0 : ¬ w.heap.size = w2.heap.size := by omega)); (try (have m2_0' : ¬ w2.heap.size = w.heap.size := by omega))
  (try (have m2_1 : ¬ w1.heap.size = w2.heap.size := by omega)); (try (have m2_1' : ¬ w2.heap.size = w1.heap.size := by omega))
  clear h2 k2 B1
  go_wp2_with fail
  refine (k3 _).mono ?_
  rintro e w3 ⟨rfl, h3⟩
  have B3 : Below w.heap.size w w3 := Below.trans (by go_grown) (h3.mono (by first | (simp; done) | omega | (simp; omega)))
  have y3 := B3.size
  have C0 := box3 h3 (w2.heap.size) (.int .u64 0) (.int .u64 m) (.bool false) (by first | assumption | (simp [go_sem]; done) | (simp [go_sem]; done)) (by first | assumption | (simp [go_sem]; done) | (simp [go_sem]; done)) (by first | assumption | (simp [go_sem]; done) | (simp [go_sem]; done)) (by first | assumption | (simp [go_sem]; done) | (simp [go_sem]; done)) (by first | assumption | (simp [go_sem]; done) | (simp [go_sem]; done)) (by first | assumption | (simp [go_sem]; done) | (simp [go_sem]; done)) (by first | assumption | omega | (simp; done) | (simp; omega))
  obtain ⟨C0c0, C0c1, C0c2, C0f0, C0f1, C0f2, C0z⟩ := C0
  (try (have m3_0 : ¬ w.heap.size = w3.heap.size := by omega)); (try (have m3_0' : ¬ w3.heap.size = w.heap.size := by omega))
  (try (have m3_1 : ¬ w1.heap.size = w3.heap.size := by omega)); (try (have m3_1' : ¬ w3.heap.size = w1.heap.size := by omega))
  (try (have m3_2 : ¬ w2.heap.size = w3.heap.size := by omega)); (try (have m3_2' : ¬ w3.heap.size = w2.heap.size := by omega))
  clear h3 k3 B2
  go_wp2_with fail
  refine (k4 _).mono ?_
  rintro e w4 ⟨rfl, h4⟩
  have B4 : Below w.heap.size w w4 := Below.trans (by go_grown) (h4.mono (by first | (simp; done) | omega | (simp; omega)))
  have y4 := B4.size
  have D0 := box3 h4 (w3.heap.size) (.int .u64 0) (.int .u64 n) (.bool false) (by first | assumption | (simp [go_sem]; done) | (simp [go_sem, C0c0, C0c1, C0c2, C0f0, C0f1, C0f2, C0z]; done)) (by first | assumption | (simp [go_sem]; done) | (simp [go_sem, C0c0, C0c1, C0c2, C0f0, C0f1, C0f2, C0z]; done)) (by first | assumption | (simp [go_sem]; done) | (simp [go_sem, C0c0, C0c1, C0c2, C0f0, C0f1, C0f2, C0z]; done)) (by first | assumption | (simp [go_sem]; done) | (simp [go_sem, C0c0, C0c1, C0c2, C0f0, C0f1, C0f2, C0z]; done)) (by first | assumption | (simp [go_sem]; done) | (simp [go_sem, C0c0, C0c1, C0c2, C0f0, C0f1, C0f2, C0z]; done)) (by first | assumption | (simp [go_sem]; done) | (simp [go_sem, C0c0, C0c1, C0c2, C0f0, C0f1, C0f2, C0z]; done)) (by first | assumption | omega | (simp; done) | (simp; omega))
  clear C0c0 C0c1 C0c2 C0f0 C0f1 C0f2 C0z
  obtain ⟨D0c0, D0c1, D0c2, D0f0, D0f1, D0f2, D0z⟩ := D0
  (try (have m4_0 : ¬ w.heap.size = w4.heap.size := by omega)); (try (have m4_0' : ¬ w4.heap.size = w.heap.size := by omega))
  (try (have m4_1 : ¬ w1.heap.size = w4.heap.size := by omega)); (try (have m4_1' : ¬ w4.heap.size = w1.heap.size := by omega))
  (try (have m4_2 : ¬ w2.heap.size = w4.heap.size := by omega)); (try (have m4_2' : ¬ w4.heap.size = w2.heap.size := by omega))
  (try (have m4_3 : ¬ w3.heap.size = w4.heap.size := by omega)); (try (have m4_3' : ¬ w4.heap.size = w3.heap.size := by omega))
  clear h4 k4 B3
  go_wp2_with fail
  refine (k5 _).mono ?_
  rintro e w5 ⟨rfl, h5⟩
  have B5 : Below w.heap.size w w5 := Below.trans (by go_grown) (h5.mono (by first | (simp; done) | omega | (simp; omega)))
  have y5 := B5.size
  have E0 := box3 h5 (w4.heap.size) (.int .u64 H) (.int .u64 Lo) (.bool false) (by first | assumption | (simp [go_sem]; done) | (simp [go_sem, D0c0, D0c1, D0c2, D0f0, D0f1, D0f2, D0z]; done)) (by first | assumption | (simp [go_sem]; done) | (simp [go_sem, D0c0, D0c1, D0c2, D0f0, D0f1, D0f2, D0z]; done)) (by first | assumption | (simp [go_sem]; done) | (simp [go_sem, D0c0, D0c1, D0c2, D0f0, D0f1, D0f2, D0z]; done)) (by first | assumption | (simp [go_sem]; done) | (simp [go_sem, D0c0, D0c1, D0c2, D0f0, D0f1, D0f2, D0z]; done)) (by first | assumption | (simp [go_sem]; done) | (simp [go_sem, D0c0, D0c1, D0c2, D0f0, D0f1, D0f2, D0z]; done)) (by first | assumption | (simp [go_sem]; done) | (simp [go_sem, D0c0, D0c1, D0c2, D0f0, D0f1, D0f2, D0z]; done)) (by first | assumption | omega | (simp; done) | (simp; omega))
  clear D0c0 D0c1 D0c2 D0f0 D0f1 D0f2 D0z
  obtain ⟨E0c0, E0c1, E0c2, E0f0, E0f1, E0f2, E0z⟩ := E0
  (try (have m5_0 : ¬ w.heap.size = w5.heap.size := by omega)); (try (have m5_0' : ¬ w5.heap.size = w.heap.size := by omega))
  (try (have m5_1 : ¬ w1.heap.size = w5.heap.size := by omega)); (try (have m5_1' : ¬ w5.heap.size = w1.heap.size := by omega))
  (try (have m5_2 : ¬ w2.heap.size = w5.heap.size := by omega)); (try (have m5_2' : ¬ w5.heap.size = w2.heap.size := by omega))
  (try (have m5_3 : ¬ w3.heap.size = w5.heap.size := by omega)); (try (have m5_3' : ¬ w5.heap.size = w3.heap.size := by omega))
  (try (have m5_4 : ¬ w4.heap.size = w5.heap.size := by omega)); (try (have m5_4' : ¬ w5.heap.size = w4.heap.size := by omega))
  clear h5 k5 B4
  go_wp2_with fail
  refine (k6 _).mono ?_
  rintro e w6 ⟨rfl, h6⟩
  have B6 : Below w.heap.size w w6 := Below.trans (by go_grown) (h6.mono (by first | (simp; done) | omega | (simp; omega)))
  have y6 := B6.size
  have F0 := box3 h6 (w4.heap.size) (.int .u64 H) (.int .u64 Lo) (.bool false) (by first | assumption | (refine (Below.cell ?_ E0z).trans E0c0; go_grown; done) | (simp [go_sem, E0c0]; done) | (simp [go_sem, E0c0, E0z]; done) | (simp [go_sem, E0c0, E0c1, E0c2, E0f0, E0f1, E0f2, E0z]; done)) (by first | assumption | (refine (Below.cell ?_ E0z).trans E0c1; go_grown; done) | (simp [go_sem, E0c1]; done) | (simp [go_sem, E0c1, E0z]; done) | (simp [go_sem, E0c0, E0c1, E0c2, E0f0, E0f1, E0f2, E0z]; done)) (by first | assumption | (refine (Below.cell ?_ E0z).trans E0c2; go_grown; done) | (simp [go_sem, E0c2]; done) | (simp [go_sem, E0c2, E0z]; done) | (simp [go_sem, E0c0, E0c1, E0c2, E0f0, E0f1, E0f2, E0z]; done)) (by first | assumption | (refine (Below.frozen ?_ E0z).trans E0f0; go_grown; done) | (simp [go_sem, E0f0]; done) | (simp [go_sem, E0f0, E0z]; done) | (simp [go_sem, E0c0, E0c1, E0c2, E0f0, E0f1, E0f2, E0z]; done)) (by first | assumption | (refine (Below.frozen ?_ E0z).trans E0f1; go_grown; done) | (simp [go_sem, E0f1]; done) | (simp [go_sem, E0f1, E0z]; done) | (simp [go_sem, E0c0, E0c1, E0c2, E0f0, E0f1, E0f2, E0z]; done)) (by first | assumption | (refine (Below.frozen ?_ E0z).trans E0f2; go_grown; done) | (simp [go_sem, E0f2]; done) | (simp [go_sem, E0f2, E0z]; done) | (simp [go_sem, E0c0, E0c1, E0c2, E0f0, E0f1, E0f2, E0z]; done)) (by first | assumption | omega | (simp; done) | (simp; omega))
  have F1 := box3 h6 (w5.heap.size) (.int .u64 H) (.int .u64 l) (.bool false) (by first | assumption | (simp [go_sem]; done) | (simp [go_sem, E0c0, E0c1, E0c2, E0f0, E0f1, E0f2, E0z]; done)) (by first | assumption | (simp [go_sem]; done) | (simp [go_sem, E0c0, E0c1, E0c2, E0f0, E0f1, E0f2, E0z]; done)) (by first | assumption | (simp [go_sem]; done) | (simp [go_sem, E0c0, E0c1, E0c2, E0f0, E0f1, E0f2, E0z]; done)) (by first | assumption | (simp [go_sem]; done) | (simp [go_sem, E0c0, E0c1, E0c2, E0f0, E0f1, E0f2, E0z]; done)) (by first | assumption | (simp [go_sem]; done) | (simp [go_sem, E0c0, E0c1, E0c2, E0f0, E0f1, E0f2, E0z]; done)) (by first | assumption | (simp [go_sem]; done) | (simp [go_sem, E0c0, E0c1, E0c2, E0f0, E0f1, E0f2, E0z]; done)) (by first | assumption | omega | (simp; done) | (simp; omega))
  clear E0c0 E0c1 E0c2 E0f0 E0f1 E0f2 E0z
  obtain ⟨F0c0, F0c1, F0c2, F0f0, F0f1, F0f2, F0z⟩ := F0
  obtain ⟨F1c0, F1c1, F1c2, F1f0, F1f1, F1f2, F1z⟩ := F1
  (try (have m6_0 : ¬ w.heap.size = w6.heap.size := by omega)); (try (have m6_0' : ¬ w6.heap.size = w.heap.size := by omega))
  (try (have m6_1 : ¬ w1.heap.size = w6.heap.size := by omega)); (try (have m6_1' : ¬ w6.heap.size = w1.heap.size := by omega))
  (try (have m6_2 : ¬ w2.heap.size = w6.heap.size := by omega)); (try (have m6_2' : ¬ w6.heap.size = w2.heap.size := by omega))
  (try (have m6_3 : ¬ w3.heap.size = w6.heap.size := by omega)); (try (have m6_3' : ¬ w6.heap.size = w3.heap.size := by omega))
  (try (have m6_4 : ¬ w4.heap.size = w6.heap.size := by omega)); (try (have m6_4' : ¬ w6.heap.size = w4.heap.size := by omega))
  (try (have m6_5 : ¬ w5.heap.size = w6.heap.size := by omega)); (try (have m6_5' : ¬ w6.heap.size = w5.heap.size := by omega))
  clear h6 k6 B5
  go_wp2_with fail
  refine (k7 _).mono ?_
  rintro e w7 ⟨rfl, h7⟩
  have B7 : Below w.heap.size w w7 := Below.trans (by go_grown) (h7.mono (by first | (simp; done) | omega | (simp; omega)))
  have y7 := B7.size
  clear F0c0 F0c1 F0c2 F0f0 F0f1 F0f2 F0z F1c0 F1c1 F1c2 F1f0 F1f1 F1f2 F1z
  (try (have m7_0 : ¬ w.heap.size = w7.heap.size := by omega)); (try (have m7_0' : ¬ w7.heap.size = w.heap.size := by omega))
  (try (have m7_1 : ¬ w1.heap.size = w7.heap.size := by omega)); (try (have m7_1' : ¬ w7.heap.size = w1.heap.size := by omega))
  (try (have m7_2 : ¬ w2.heap.size = w7.heap.size := by omega)); (try (have m7_2' : ¬ w7.heap.size = w2.heap.size := by omega))
  (try (have m7_3 : ¬ w3.heap.size = w7.heap.size := by omega)); (try (have m7_3' : ¬ w7.heap.size = w3.heap.size := by omega))
  (try (have m7_4 : ¬ w4.heap.size = w7.heap.size := by omega)); (try (have m7_4' : ¬ w7.heap.size = w4.heap.size := by omega))
  (try (have m7_5 : ¬ w5.heap.size = w7.heap.size := by omega)); (try (have m7_5' : ¬ w7.heap.size = w5.heap.size := by omega))
  (try (have m7_6 : ¬ w6.heap.size = w7.heap.size := by omega)); (try (have m7_6' : ¬ w7.heap.size = w6.heap.size := by omega))
  clear h7 k7 B6
  go_wp2_with fail
  go_returns
  exact ⟨rfl, by go_grown⟩
set_option maxHeartbeats 4000000 in
theorem sent_niol (v r m n H Lo l d x y v1 : Int) (p q o : Bool) (er : IntKind.u64.wrap r = r) (ed : IntKind.i64.wrap (IntKind.u64.wrap (Lo - l)) = d) (dr : ¬ r ≤ d) (x0 : x < 0) (v0 : v < 0) (c1 : ¬ Lo < l) (u0 : (r == 1000000) = false) (l0 : v < 1000000000000000) (l1 : x ≤ y) (ev : IntKind.i64.wrap (v + 1) = v1)
    (k1 : ∀ w, Calls Try.prog 11 #[.int .i64 v, .int .i64 r] w fun e w' => e = .returned (.tuple #[.int .i64 x, .int .i64 0]) ∧ Below w.heap.size w w')
    (k2 : ∀ w, Calls Try.prog 21 #[.int .i64 v] w fun e w' => e = .returned (.tuple #[magV 0 m false, .bool p]) ∧ Below w.heap.size w w')
    (k3 : ∀ w, Calls Try.prog 21 #[.int .i64 x] w fun e w' => e = .returned (.tuple #[magV 0 n false, .bool q]) ∧ Below w.heap.size w w')
    (k4 : ∀ w, Calls Try.prog 20 #[magV 0 m false, .int .u64 1000000] w fun e w' => e = .returned (magV H Lo false) ∧ Below w.heap.size w w')
    (k5 : ∀ w, Calls Try.prog 20 #[magV 0 n false, .int .u64 r] w fun e w' => e = .returned (magV H l false) ∧ Below w.heap.size w w')
    (k6 : ∀ w, Calls Try.prog 21 #[.int .i64 d] w fun e w' => e = .returned (.tuple #[magV 0 d false, .bool o]) ∧ Below w.heap.size w w')
    (k7 : ∀ w, Calls Try.prog 11 #[.int .i64 v1, .int .i64 r] w fun e w' => e = .returned (.tuple #[.int .i64 y, .int .i64 0]) ∧ Below w.heap.size w w')
    (w : World) : Calls Try.prog 9 #[.int .i64 v, .int .i64 r] w fun e w' => e = .returned (.bool true) ∧ Below w.heap.size w w' := by
  go_enter Try.func9, Try.ntmps9
  go_wp2_with fail
  refine (k1 _).mono ?_
  rintro e w1 ⟨rfl, h1⟩
  have B1 : Below w.heap.size w w1 := Below.trans (by go_grown) (h1.mono (by first | (simp; done) | omega | (simp; omega)))
  have y1 := B1.size
  (try (have m1_0 : ¬ w.heap.size = w1.heap.size := by omega)); (try (have m1_0' : ¬ w1.heap.size = w.heap.size := by omega))
  clear h1 k1
  go_wp2_with fail
  refine (k2 _).mono ?_
  rintro e w2 ⟨rfl, h2⟩
  have B2 : Below w.heap.size w w2 := Below.trans (by go_grown) (h2.mono (by first | (simp; done) | omega | (simp; omega)))
  have y2 := B2.size
  (try (have m2_0 : ¬ w.heap.size = w2.heap.size := by omega)); (try (have m2_0' : ¬ w2.heap.size = w.heap.size := by omega))
  (try (have m2_1 : ¬ w1.heap.size = w2.heap.size := by omega)); (try (have m2_1' : ¬ w2.heap.size = w1.heap.size := by omega))
  clear h2 k2 B1
  go_wp2_with fail
  refine (k3 _).mono ?_
  rintro e w3 ⟨rfl, h3⟩
  have B3 : Below w.heap.size w w3 := Below.trans (by go_grown) (h3.mono (by first | (simp; done) | omega | (simp; omega)))
  have y3 := B3.size
  have C0 := box3 h3 (w2.heap.size) (.int .u64 0) (.int .u64 m) (.bool false) (by first | assumption | (simp [go_sem]; done) | (simp [go_sem]; done)) (by first | assumption | (simp [go_sem]; done) | (simp [go_sem]; done)) (by first | assumption | (simp [go_sem]; done) | (simp [go_sem]; done)) (by first | assumption | (simp [go_sem]; done) | (simp [go_sem]; done)) (by first | assumption | (simp [go_sem]; done) | (simp [go_sem]; done)) (by first | assumption | (simp [go_sem]; done) | (simp [go_sem]; done)) (by first | assumption | omega | (simp; done) | (simp; omega))
  obtain ⟨C0c0, C0c1, C0c2, C0f0, C0f1, C0f2, C0z⟩ := C0
  (try (have m3_0 : ¬ w.heap.size = w3.heap.size := by omega)); (try (have m3_0' : ¬ w3.heap.size = w.heap.size := by omega))
  (try (have m3_1 : ¬ w1.heap.size = w3.heap.size := by omega)); (try (have m3_1' : ¬ w3.heap.size = w1.heap.size := by omega))
  (try (have m3_2 : ¬ w2.heap.size = w3.heap.size := by omega)); (try (have m3_2' : ¬ w3.heap.size = w2.heap.size := by omega))
  clear h3 k3 B2
  go_wp2_with fail
  refine (k4 _).mono ?_
  rintro e w4 ⟨rfl, h4⟩
  have B4 : Below w.heap.size w w4 := Below.trans (by go_grown) (h4.mono (by first | (simp; done) | omega | (simp; omega)))
  have y4 := B4.size
  have D0 := box3 h4 (w3.heap.size) (.int .u64 0) (.int .u64 n) (.bool false) (by first | assumption | (simp [go_sem]; done) | (simp [go_sem, C0c0, C0c1, C0c2, C0f0, C0f1, C0f2, C0z]; done)) (by first | assumption | (simp [go_sem]; done) | (simp [go_sem, C0c0, C0c1, C0c2, C0f0, C0f1, C0f2, C0z]; done)) (by first | assumption | (simp [go_sem]; done) | (simp [go_sem, C0c0, C0c1, C0c2, C0f0, C0f1, C0f2, C0z]; done)) (by first | assumption | (simp [go_sem]; done) | (simp [go_sem, C0c0, C0c1, C0c2, C0f0, C0f1, C0f2, C0z]; done)) (by first | assumption | (simp [go_sem]; done) | (simp [go_sem, C0c0, C0c1, C0c2, C0f0, C0f1, C0f2, C0z]; done)) (by first | assumption | (simp [go_sem]; done) | (simp [go_sem, C0c0, C0c1, C0c2, C0f0, C0f1, C0f2, C0z]; done)) (by first | assumption | omega | (simp; done) | (simp; omega))
  clear C0c0 C0c1 C0c2 C0f0 C0f1 C0f2 C0z
  obtain ⟨D0c0, D0c1, D0c2, D0f0, D0f1, D0f2, D0z⟩ := D0
  (try (have m4_0 : ¬ w.heap.size = w4.heap.size := by omega)); (try (have m4_0' : ¬ w4.heap.size = w.heap.size := by omega))
  (try (have m4_1 : ¬ w1.heap.size = w4.heap.size := by omega)); (try (have m4_1' : ¬ w4.heap.size = w1.heap.size := by omega))
  (try (have m4_2 : ¬ w2.heap.size = w4.heap.size := by omega)); (try (have m4_2' : ¬ w4.heap.size = w2.heap.size := by omega))
  (try (have m4_3 : ¬ w3.heap.size = w4.heap.size := by omega)); (try (have m4_3' : ¬ w4.heap.size = w3.heap.size := by omega))
  clear h4 k4 B3
  go_wp2_with fail
  refine (k5 _).mono ?_
  rintro e w5 ⟨rfl, h5⟩
  have B5 : Below w.heap.size w w5 := Below.trans (by go_grown) (h5.mono (by first | (simp; done) | omega | (simp; omega)))
  have y5 := B5.size
  have E0 := box3 h5 (w4.heap.size) (.int .u64 H) (.int .u64 Lo) (.bool false) (by first | assumption | (simp [go_sem]; done) | (simp [go_sem, D0c0, D0c1, D0c2, D0f0, D0f1, D0f2, D0z]; done)) (by first | assumption | (simp [go_sem]; done) | (simp [go_sem, D0c0, D0c1, D0c2, D0f0, D0f1, D0f2, D0z]; done)) (by first | assumption | (simp [go_sem]; done) | (simp [go_sem, D0c0, D0c1, D0c2, D0f0, D0f1, D0f2, D0z]; done)) (by first | assumption | (simp [go_sem]; done) | (simp [go_sem, D0c0, D0c1, D0c2, D0f0, D0f1, D0f2, D0z]; done)) (by first | assumption | (simp [go_sem]; done) | (simp [go_sem, D0c0, D0c1, D0c2, D0f0, D0f1, D0f2, D0z]; done)) (by first | assumption | (simp [go_sem]; done) | (simp [go_sem, D0c0, D0c1, D0c2, D0f0, D0f1, D0f2, D0z]; done)) (by first | assumption | omega | (simp; done) | (simp; omega))
  clear D0c0 D0c1 D0c2 D0f0 D0f1 D0f2 D0z
  obtain ⟨E0c0, E0c1, E0c2, E0f0, E0f1, E0f2, E0z⟩ := E0
  (try (have m5_0 : ¬ w.heap.size = w5.heap.size := by omega)); (try (have m5_0' : ¬ w5.heap.size = w.heap.size := by omega))
  (try (have m5_1 : ¬ w1.heap.size = w5.heap.size := by omega)); (try (have m5_1' : ¬ w5.heap.size = w1.heap.size := by omega))
  (try (have m5_2 : ¬ w2.heap.size = w5.heap.size := by omega)); (try (have m5_2' : ¬ w5.heap.size = w2.heap.size := by omega))
  (try (have m5_3 : ¬ w3.heap.size = w5.heap.size := by omega)); (try (have m5_3' : ¬ w5.heap.size = w3.heap.size := by omega))
  (try (have m5_4 : ¬ w4.heap.size = w5.heap.size := by omega)); (try (have m5_4' : ¬ w5.heap.size = w4.heap.size := by omega))
  clear h5 k5 B4
  go_wp2_with fail
  refine (k6 _).mono ?_
  rintro e w6 ⟨rfl, h6⟩
  have B6 : Below w.heap.size w w6 := Below.trans (by go_grown) (h6.mono (by first | (simp; done) | omega | (simp; omega)))
  have y6 := B6.size
  have F0 := box3 h6 (w4.heap.size) (.int .u64 H) (.int .u64 Lo) (.bool false) (by first | assumption | (refine (Below.cell ?_ E0z).trans E0c0; go_grown; done) | (simp [go_sem, E0c0]; done) | (simp [go_sem, E0c0, E0z]; done) | (simp [go_sem, E0c0, E0c1, E0c2, E0f0, E0f1, E0f2, E0z]; done)) (by first | assumption | (refine (Below.cell ?_ E0z).trans E0c1; go_grown; done) | (simp [go_sem, E0c1]; done) | (simp [go_sem, E0c1, E0z]; done) | (simp [go_sem, E0c0, E0c1, E0c2, E0f0, E0f1, E0f2, E0z]; done)) (by first | assumption | (refine (Below.cell ?_ E0z).trans E0c2; go_grown; done) | (simp [go_sem, E0c2]; done) | (simp [go_sem, E0c2, E0z]; done) | (simp [go_sem, E0c0, E0c1, E0c2, E0f0, E0f1, E0f2, E0z]; done)) (by first | assumption | (refine (Below.frozen ?_ E0z).trans E0f0; go_grown; done) | (simp [go_sem, E0f0]; done) | (simp [go_sem, E0f0, E0z]; done) | (simp [go_sem, E0c0, E0c1, E0c2, E0f0, E0f1, E0f2, E0z]; done)) (by first | assumption | (refine (Below.frozen ?_ E0z).trans E0f1; go_grown; done) | (simp [go_sem, E0f1]; done) | (simp [go_sem, E0f1, E0z]; done) | (simp [go_sem, E0c0, E0c1, E0c2, E0f0, E0f1, E0f2, E0z]; done)) (by first | assumption | (refine (Below.frozen ?_ E0z).trans E0f2; go_grown; done) | (simp [go_sem, E0f2]; done) | (simp [go_sem, E0f2, E0z]; done) | (simp [go_sem, E0c0, E0c1, E0c2, E0f0, E0f1, E0f2, E0z]; done)) (by first | assumption | omega | (simp; done) | (simp; omega))
  have F1 := box3 h6 (w5.heap.size) (.int .u64 H) (.int .u64 l) (.bool false) (by first | assumption | (simp [go_sem]; done) | (simp [go_sem, E0c0, E0c1, E0c2, E0f0, E0f1, E0f2, E0z]; done)) (by first | assumption | (simp [go_sem]; done) | (simp [go_sem, E0c0, E0c1, E0c2, E0f0, E0f1, E0f2, E0z]; done)) (by first | assumption | (simp [go_sem]; done) | (simp [go_sem, E0c0, E0c1, E0c2, E0f0, E0f1, E0f2, E0z]; done)) (by first | assumption | (simp [go_sem]; done) | (simp [go_sem, E0c0, E0c1, E0c2, E0f0, E0f1, E0f2, E0z]; done)) (by first | assumption | (simp [go_sem]; done) | (simp [go_sem, E0c0, E0c1, E0c2, E0f0, E0f1, E0f2, E0z]; done)) (by first | assumption | (simp [go_sem]; done) | (simp [go_sem, E0c0, E0c1, E0c2, E0f0, E0f1, E0f2, E0z]; done)) (by first | assumption | omega | (simp; done) | (simp; omega))
  clear E0c0 E0c1 E0c2 E0f0 E0f1 E0f2 E0z
  obtain ⟨F0c0, F0c1, F0c2, F0f0, F0f1, F0f2, F0z⟩ := F0
  obtain ⟨F1c0, F1c1, F1c2, F1f0, F1f1, F1f2, F1z⟩ := F1
  (try (have m6_0 : ¬ w.heap.size = w6.heap.size := by omega)); (try (have m6_0' : ¬ w6.heap.size = w.heap.size := by omega))
  (try (have m6_1 : ¬ w1.heap.size = w6.heap.size := by omega)); (try (have m6_1' : ¬ w6.heap.size = w1.heap.size := by omega))
  (try (have m6_2 : ¬ w2.heap.size = w6.heap.size := by omega)); (try (have m6_2' : ¬ w6.heap.size = w2.heap.size := by omega))
  (try (have m6_3 : ¬ w3.heap.size = w6.heap.size := by omega)); (try (have m6_3' : ¬ w6.heap.size = w3.heap.size := by omega))
  (try (have m6_4 : ¬ w4.heap.size = w6.heap.size := by omega)); (try (have m6_4' : ¬ w6.heap.size = w4.heap.size := by omega))
  (try (have m6_5 : ¬ w5.heap.size = w6.heap.size := by omega)); (try (have m6_5' : ¬ w6.heap.size = w5.heap.size := by omega))
  clear h6 k6 B5
  go_wp2_with fail
  refine (k7 _).mono ?_
  rintro e w7 ⟨rfl, h7⟩
  have B7 : Below w.heap.size w w7 := Below.trans (by go_grown) (h7.mono (by first | (simp; done) | omega | (simp; omega)))
  have y7 := B7.size
  clear F0c0 F0c1 F0c2 F0f0 F0f1 F0f2 F0z F1c0 F1c1 F1c2 F1f0 F1f1 F1f2 F1z
  (try (have m7_0 : ¬ w.heap.size = w7.heap.size := by omega)); (try (have m7_0' : ¬ w7.heap.size = w.heap.size := by omega))
  (try (have m7_1 : ¬ w1.heap.size = w7.heap.size := by omega)); (try (have m7_1' : ¬ w7.heap.size = w1.heap.size := by omega))
  (try (have m7_2 : ¬ w2.heap.size = w7.heap.size := by omega)); (try (have m7_2' : ¬ w7.heap.size = w2.heap.size := by omega))
  (try (have m7_3 : ¬ w3.heap.size = w7.heap.size := by omega)); (try (have m7_3' : ¬ w7.heap.size = w3.heap.size := by omega))
  (try (have m7_4 : ¬ w4.heap.size = w7.heap.size := by omega)); (try (have m7_4' : ¬ w7.heap.size = w4.heap.size := by omega))
  (try (have m7_5 : ¬ w5.heap.size = w7.heap.size := by omega)); (try (have m7_5' : ¬ w7.heap.size = w5.heap.size := by omega))
  (try (have m7_6 : ¬ w6.heap.size = w7.heap.size := by omega)); (try (have m7_6' : ¬ w7.heap.size = w6.heap.size := by omega))
  clear h7 k7 B6
  go_wp2_with fail
  go_returns
  exact ⟨rfl, by go_grown⟩
set_option maxHeartbeats 4000000 in
theorem sent_njul (v r m n H Lo l d x h y v1 : Int) (p q o : Bool) (er : IntKind.u64.wrap r = r) (ed : IntKind.i64.wrap (IntKind.u64.wrap (Lo - l)) = d) (dr : ¬ r ≤ d) (x0 : x < 0) (v0 : v < 0) (c0 : ¬ H < h) (c0' : (h == H) = false) (u0 : (r == 1000000) = true) (u1 : (x != v) = false) (l0 : v < 1000000000000000) (l1 : x ≤ y) (ev : IntKind.i64.wrap (v + 1) = v1)
    (k1 : ∀ w, Calls Try.prog 11 #[.int .i64 v, .int .i64 r] w fun e w' => e = .returned (.tuple #[.int .i64 x, .int .i64 0]) ∧ Below w.heap.size w w')
    (k2 : ∀ w, Calls Try.prog 21 #[.int .i64 v] w fun e w' => e = .returned (.tuple #[magV 0 m false, .bool p]) ∧ Below w.heap.size w w')
    (k3 : ∀ w, Calls Try.prog 21 #[.int .i64 x] w fun e w' => e = .returned (.tuple #[magV 0 n false, .bool q]) ∧ Below w.heap.size w w')
    (k4 : ∀ w, Calls Try.prog 20 #[magV 0 m false, .int .u64 1000000] w fun e w' => e = .returned (magV H Lo false) ∧ Below w.heap.size w w')
    (k5 : ∀ w, Calls Try.prog 20 #[magV 0 n false, .int .u64 r] w fun e w' => e = .returned (magV h l false) ∧ Below w.heap.size w w')
    (k6 : ∀ w, Calls Try.prog 21 #[.int .i64 d] w fun e w' => e = .returned (.tuple #[magV 0 d false, .bool o]) ∧ Below w.heap.size w w')
    (k7 : ∀ w, Calls Try.prog 11 #[.int .i64 v1, .int .i64 r] w fun e w' => e = .returned (.tuple #[.int .i64 y, .int .i64 0]) ∧ Below w.heap.size w w')
    (w : World) : Calls Try.prog 9 #[.int .i64 v, .int .i64 r] w fun e w' => e = .returned (.bool true) ∧ Below w.heap.size w w' := by
  go_enter Try.func9, Try.ntmps9
  go_wp2_with fail
  refine (k1 _).mono ?_
  rintro e w1 ⟨rfl, h1⟩
  have B1 : Below w.heap.size w w1 := Below.trans (by go_grown) (h1.mono (by first | (simp; done) | omega | (simp; omega)))
  have y1 := B1.size
  (try (have m1_0 : ¬ w.heap.size = w1.heap.size := by omega)); (try (have m1_0' : ¬ w1.heap.size = w.heap.size := by omega))
  clear h1 k1
  go_wp2_with fail
  refine (k2 _).mono ?_
  rintro e w2 ⟨rfl, h2⟩
  have B2 : Below w.heap.size w w2 := Below.trans (by go_grown) (h2.mono (by first | (simp; done) | omega | (simp; omega)))
  have y2 := B2.size
  (try (have m2_0 : ¬ w.heap.size = w2.heap.size := by omega)); (try (have m2_0' : ¬ w2.heap.size = w.heap.size := by omega))
  (try (have m2_1 : ¬ w1.heap.size = w2.heap.size := by omega)); (try (have m2_1' : ¬ w2.heap.size = w1.heap.size := by omega))
  clear h2 k2 B1
  go_wp2_with fail
  refine (k3 _).mono ?_
  rintro e w3 ⟨rfl, h3⟩
  have B3 : Below w.heap.size w w3 := Below.trans (by go_grown) (h3.mono (by first | (simp; done) | omega | (simp; omega)))
  have y3 := B3.size
  have C0 := box3 h3 (w2.heap.size) (.int .u64 0) (.int .u64 m) (.bool false) (by first | assumption | (simp [go_sem]; done) | (simp [go_sem]; done)) (by first | assumption | (simp [go_sem]; done) | (simp [go_sem]; done)) (by first | assumption | (simp [go_sem]; done) | (simp [go_sem]; done)) (by first | assumption | (simp [go_sem]; done) | (simp [go_sem]; done)) (by first | assumption | (simp [go_sem]; done) | (simp [go_sem]; done)) (by first | assumption | (simp [go_sem]; done) | (simp [go_sem]; done)) (by first | assumption | omega | (simp; done) | (simp; omega))
  obtain ⟨C0c0, C0c1, C0c2, C0f0, C0f1, C0f2, C0z⟩ := C0
  (try (have m3_0 : ¬ w.heap.size = w3.heap.size := by omega)); (try (have m3_0' : ¬ w3.heap.size = w.heap.size := by omega))
  (try (have m3_1 : ¬ w1.heap.size = w3.heap.size := by omega)); (try (have m3_1' : ¬ w3.heap.size = w1.heap.size := by omega))
  (try (have m3_2 : ¬ w2.heap.size = w3.heap.size := by omega)); (try (have m3_2' : ¬ w3.heap.size = w2.heap.size := by omega))
  clear h3 k3 B2
  go_wp2_with fail
  refine (k4 _).mono ?_
  rintro e w4 ⟨rfl, h4⟩
  have B4 : Below w.heap.size w w4 := Below.trans (by go_grown) (h4.mono (by first | (simp; done) | omega | (simp; omega)))
  have y4 := B4.size
  have D0 := box3 h4 (w3.heap.size) (.int .u64 0) (.int .u64 n) (.bool false) (by first | assumption | (simp [go_sem]; done) | (simp [go_sem, C0c0, C0c1, C0c2, C0f0, C0f1, C0f2, C0z]; done)) (by first | assumption | (simp [go_sem]; done) | (simp [go_sem, C0c0, C0c1, C0c2, C0f0, C0f1, C0f2, C0z]; done)) (by first | assumption | (simp [go_sem]; done) | (simp [go_sem, C0c0, C0c1, C0c2, C0f0, C0f1, C0f2, C0z]; done)) (by first | assumption | (simp [go_sem]; done) | (simp [go_sem, C0c0, C0c1, C0c2, C0f0, C0f1, C0f2, C0z]; done)) (by first | assumption | (simp [go_sem]; done) | (simp [go_sem, C0c0, C0c1, C0c2, C0f0, C0f1, C0f2, C0z]; done)) (by first | assumption | (simp [go_sem]; done) | (simp [go_sem, C0c0, C0c1, C0c2, C0f0, C0f1, C0f2, C0z]; done)) (by first | assumption | omega | (simp; done) | (simp; omega))
  clear C0c0 C0c1 C0c2 C0f0 C0f1 C0f2 C0z
  obtain ⟨D0c0, D0c1, D0c2, D0f0, D0f1, D0f2, D0z⟩ := D0
  (try (have m4_0 : ¬ w.heap.size = w4.heap.size := by omega)); (try (have m4_0' : ¬ w4.heap.size = w.heap.size := by omega))
  (try (have m4_1 : ¬ w1.heap.size = w4.heap.size := by omega)); (try (have m4_1' : ¬ w4.heap.size = w1.heap.size := by omega))
  (try (have m4_2 : ¬ w2.heap.size = w4.heap.size := by omega)); (try (have m4_2' : ¬ w4.heap.size = w2.heap.size := by omega))
  (try (have m4_3 : ¬ w3.heap.size = w4.heap.size := by omega)); (try (have m4_3' : ¬ w4.heap.size = w3.heap.size := by omega))
  clear h4 k4 B3
  go_wp2_with fail
  refine (k5 _).mono ?_
  rintro e w5 ⟨rfl, h5⟩
  have B5 : Below w.heap.size w w5 := Below.trans (by go_grown) (h5.mono (by first | (simp; done) | omega | (simp; omega)))
  have y5 := B5.size
  have E0 := box3 h5 (w4.heap.size) (.int .u64 H) (.int .u64 Lo) (.bool false) (by first | assumption | (simp [go_sem]; done) | (simp [go_sem, D0c0, D0c1, D0c2, D0f0, D0f1, D0f2, D0z]; done)) (by first | assumption | (simp [go_sem]; done) | (simp [go_sem, D0c0, D0c1, D0c2, D0f0, D0f1, D0f2, D0z]; done)) (by first | assumption | (simp [go_sem]; done) | (simp [go_sem, D0c0, D0c1, D0c2, D0f0, D0f1, D0f2, D0z]; done)) (by first | assumption | (simp [go_sem]; done) | (simp [go_sem, D0c0, D0c1, D0c2, D0f0, D0f1, D0f2, D0z]; done)) (by first | assumption | (simp [go_sem]; done) | (simp [go_sem, D0c0, D0c1, D0c2, D0f0, D0f1, D0f2, D0z]; done)) (by first | assumption | (simp [go_sem]; done) | (simp [go_sem, D0c0, D0c1, D0c2, D0f0, D0f1, D0f2, D0z]; done)) (by first | assumption | omega | (simp; done) | (simp; omega))
  clear D0c0 D0c1 D0c2 D0f0 D0f1 D0f2 D0z
  obtain ⟨E0c0, E0c1, E0c2, E0f0, E0f1, E0f2, E0z⟩ := E0
  (try (have m5_0 : ¬ w.heap.size = w5.heap.size := by omega)); (try (have m5_0' : ¬ w5.heap.size = w.heap.size := by omega))
  (try (have m5_1 : ¬ w1.heap.size = w5.heap.size := by omega)); (try (have m5_1' : ¬ w5.heap.size = w1.heap.size := by omega))
  (try (have m5_2 : ¬ w2.heap.size = w5.heap.size := by omega)); (try (have m5_2' : ¬ w5.heap.size = w2.heap.size := by omega))
  (try (have m5_3 : ¬ w3.heap.size = w5.heap.size := by omega)); (try (have m5_3' : ¬ w5.heap.size = w3.heap.size := by omega))
  (try (have m5_4 : ¬ w4.heap.size = w5.heap.size := by omega)); (try (have m5_4' : ¬ w5.heap.size = w4.heap.size := by omega))
  clear h5 k5 B4
  go_wp2_with fail
  refine (k6 _).mono ?_
  rintro e w6 ⟨rfl, h6⟩
  have B6 : Below w.heap.size w w6 := Below.trans (by go_grown) (h6.mono (by first | (simp; done) | omega | (simp; omega)))
  have y6 := B6.size
  have F0 := box3 h6 (w4.heap.size) (.int .u64 H) (.int .u64 Lo) (.bool false) (by first | assumption | (refine (Below.cell ?_ E0z).trans E0c0; go_grown; done) | (simp [go_sem, E0c0]; done) | (simp [go_sem, E0c0, E0z]; done) | (simp [go_sem, E0c0, E0c1, E0c2, E0f0, E0f1, E0f2, E0z]; done)) (by first | assumption | (refine (Below.cell ?_ E0z).trans E0c1; go_grown; done) | (simp [go_sem, E0c1]; done) | (simp [go_sem, E0c1, E0z]; done) | (simp [go_sem, E0c0, E0c1, E0c2, E0f0, E0f1, E0f2, E0z]; done)) (by first | assumption | (refine (Below.cell ?_ E0z).trans E0c2; go_grown; done) | (simp [go_sem, E0c2]; done) | (simp [go_sem, E0c2, E0z]; done) | (simp [go_sem, E0c0, E0c1, E0c2, E0f0, E0f1, E0f2, E0z]; done)) (by first | assumption | (refine (Below.frozen ?_ E0z).trans E0f0; go_grown; done) | (simp [go_sem, E0f0]; done) | (simp [go_sem, E0f0, E0z]; done) | (simp [go_sem, E0c0, E0c1, E0c2, E0f0, E0f1, E0f2, E0z]; done)) (by first | assumption | (refine (Below.frozen ?_ E0z).trans E0f1; go_grown; done) | (simp [go_sem, E0f1]; done) | (simp [go_sem, E0f1, E0z]; done) | (simp [go_sem, E0c0, E0c1, E0c2, E0f0, E0f1, E0f2, E0z]; done)) (by first | assumption | (refine (Below.frozen ?_ E0z).trans E0f2; go_grown; done) | (simp [go_sem, E0f2]; done) | (simp [go_sem, E0f2, E0z]; done) | (simp [go_sem, E0c0, E0c1, E0c2, E0f0, E0f1, E0f2, E0z]; done)) (by first | assumption | omega | (simp; done) | (simp; omega))
  have F1 := box3 h6 (w5.heap.size) (.int .u64 h) (.int .u64 l) (.bool false) (by first | assumption | (simp [go_sem]; done) | (simp [go_sem, E0c0, E0c1, E0c2, E0f0, E0f1, E0f2, E0z]; done)) (by first | assumption | (simp [go_sem]; done) | (simp [go_sem, E0c0, E0c1, E0c2, E0f0, E0f1, E0f2, E0z]; done)) (by first | assumption | (simp [go_sem]; done) | (simp [go_sem, E0c0, E0c1, E0c2, E0f0, E0f1, E0f2, E0z]; done)) (by first | assumption | (simp [go_sem]; done) | (simp [go_sem, E0c0, E0c1, E0c2, E0f0, E0f1, E0f2, E0z]; done)) (by first | assumption | (simp [go_sem]; done) | (simp [go_sem, E0c0, E0c1, E0c2, E0f0, E0f1, E0f2, E0z]; done)) (by first | assumption | (simp [go_sem]; done) | (simp [go_sem, E0c0, E0c1, E0c2, E0f0, E0f1, E0f2, E0z]; done)) (by first | assumption | omega | (simp; done) | (simp; omega))
  clear E0c0 E0c1 E0c2 E0f0 E0f1 E0f2 E0z
  obtain ⟨F0c0, F0c1, F0c2, F0f0, F0f1, F0f2, F0z⟩ := F0
  obtain ⟨F1c0, F1c1, F1c2, F1f0, F1f1, F1f2, F1z⟩ := F1
  (try (have m6_0 : ¬ w.heap.size = w6.heap.size := by omega)); (try (have m6_0' : ¬ w6.heap.size = w.heap.size := by omega))
  (try (have m6_1 : ¬ w1.heap.size = w6.heap.size := by omega)); (try (have m6_1' : ¬ w6.heap.size = w1.heap.size := by omega))
  (try (have m6_2 : ¬ w2.heap.size = w6.heap.size := by omega)); (try (have m6_2' : ¬ w6.heap.size = w2.heap.size := by omega))
  (try (have m6_3 : ¬ w3.heap.size = w6.heap.size := by omega)); (try (have m6_3' : ¬ w6.heap.size = w3.heap.size := by omega))
  (try (have m6_4 : ¬ w4.heap.size = w6.heap.size := by omega)); (try (have m6_4' : ¬ w6.heap.size = w4.heap.size := by omega))
  (try (have m6_5 : ¬ w5.heap.size = w6.heap.size := by omega)); (try (have m6_5' : ¬ w6.heap.size = w5.heap.size := by omega))
  clear h6 k6 B5
  go_wp2_with fail
  refine (k7 _).mono ?_
  rintro e w7 ⟨rfl, h7⟩
  have B7 : Below w.heap.size w w7 := Below.trans (by go_grown) (h7.mono (by first | (simp; done) | omega | (simp; omega)))
  have y7 := B7.size
  clear F0c0 F0c1 F0c2 F0f0 F0f1 F0f2 F0z F1c0 F1c1 F1c2 F1f0 F1f1 F1f2 F1z
  (try (have m7_0 : ¬ w.heap.size = w7.heap.size := by omega)); (try (have m7_0' : ¬ w7.heap.size = w.heap.size := by omega))
  (try (have m7_1 : ¬ w1.heap.size = w7.heap.size := by omega)); (try (have m7_1' : ¬ w7.heap.size = w1.heap.size := by omega))
  (try (have m7_2 : ¬ w2.heap.size = w7.heap.size := by omega)); (try (have m7_2' : ¬ w7.heap.size = w2.heap.size := by omega))
  (try (have m7_3 : ¬ w3.heap.size = w7.heap.size := by omega)); (try (have m7_3' : ¬ w7.heap.size = w3.heap.size := by omega))
  (try (have m7_4 : ¬ w4.heap.size = w7.heap.size := by omega)); (try (have m7_4' : ¬ w7.heap.size = w4.heap.size := by omega))
  (try (have m7_5 : ¬ w5.heap.size = w7.heap.size := by omega)); (try (have m7_5' : ¬ w7.heap.size = w5.heap.size := by omega))
  (try (have m7_6 : ¬ w6.heap.size = w7.heap.size := by omega)); (try (have m7_6' : ¬ w7.heap.size = w6.heap.size := by omega))
  clear h7 k7 B6
  go_wp2_with fail
  go_returns
  exact ⟨rfl, by go_grown⟩
set_option maxHeartbeats 4000000 in
theorem sent_njol (v r m n H Lo l d x h y v1 : Int) (p q o : Bool) (er : IntKind.u64.wrap r = r) (ed : IntKind.i64.wrap (IntKind.u64.wrap (Lo - l)) = d) (dr : ¬ r ≤ d) (x0 : x < 0) (v0 : v < 0) (c0 : ¬ H < h) (c0' : (h == H) = false) (u0 : (r == 1000000) = false) (l0 : v < 1000000000000000) (l1 : x ≤ y) (ev : IntKind.i64.wrap (v + 1) = v1)
    (k1 : ∀ w, Calls Try.prog 11 #[.int .i64 v, .int .i64 r] w fun e w' => e = .returned (.tuple #[.int .i64 x, .int .i64 0]) ∧ Below w.heap.size w w')
    (k2 : ∀ w, Calls Try.prog 21 #[.int .i64 v] w fun e w' => e = .returned (.tuple #[magV 0 m false, .bool p]) ∧ Below w.heap.size w w')
    (k3 : ∀ w, Calls Try.prog 21 #[.int .i64 x] w fun e w' => e = .returned (.tuple #[magV 0 n false, .bool q]) ∧ Below w.heap.size w w')
    (k4 : ∀ w, Calls Try.prog 20 #[magV 0 m false, .int .u64 1000000] w fun e w' => e = .returned (magV H Lo false) ∧ Below w.heap.size w w')
    (k5 : ∀ w, Calls Try.prog 20 #[magV 0 n false, .int .u64 r] w fun e w' => e = .returned (magV h l false) ∧ Below w.heap.size w w')
    (k6 : ∀ w, Calls Try.prog 21 #[.int .i64 d] w fun e w' => e = .returned (.tuple #[magV 0 d false, .bool o]) ∧ Below w.heap.size w w')
    (k7 : ∀ w, Calls Try.prog 11 #[.int .i64 v1, .int .i64 r] w fun e w' => e = .returned (.tuple #[.int .i64 y, .int .i64 0]) ∧ Below w.heap.size w w')
    (w : World) : Calls Try.prog 9 #[.int .i64 v, .int .i64 r] w fun e w' => e = .returned (.bool true) ∧ Below w.heap.size w w' := by
  go_enter Try.func9, Try.ntmps9
  go_wp2_with fail
  refine (k1 _).mono ?_
  rintro e w1 ⟨rfl, h1⟩
  have B1 : Below w.heap.size w w1 := Below.trans (by go_grown) (h1.mono (by first | (simp; done) | omega | (simp; omega)))
  have y1 := B1.size
  (try (have m1_0 : ¬ w.heap.size = w1.heap.size := by omega)); (try (have m1_0' : ¬ w1.heap.size = w.heap.size := by omega))
  clear h1 k1
  go_wp2_with fail
  refine (k2 _).mono ?_
  rintro e w2 ⟨rfl, h2⟩
  have B2 : Below w.heap.size w w2 := Below.trans (by go_grown) (h2.mono (by first | (simp; done) | omega | (simp; omega)))
  have y2 := B2.size
  (try (have m2_0 : ¬ w.heap.size = w2.heap.size := by omega)); (try (have m2_0' : ¬ w2.heap.size = w.heap.size := by omega))
  (try (have m2_1 : ¬ w1.heap.size = w2.heap.size := by omega)); (try (have m2_1' : ¬ w2.heap.size = w1.heap.size := by omega))
  clear h2 k2 B1
  go_wp2_with fail
  refine (k3 _).mono ?_
  rintro e w3 ⟨rfl, h3⟩
  have B3 : Below w.heap.size w w3 := Below.trans (by go_grown) (h3.mono (by first | (simp; done) | omega | (simp; omega)))
  have y3 := B3.size
  have C0 := box3 h3 (w2.heap.size) (.int .u64 0) (.int .u64 m) (.bool false) (by first | assumption | (simp [go_sem]; done) | (simp [go_sem]; done)) (by first | assumption | (simp [go_sem]; done) | (simp [go_sem]; done)) (by first | assumption | (simp [go_sem]; done) | (simp [go_sem]; done)) (by first | assumption | (simp [go_sem]; done) | (simp [go_sem]; done)) (by first | assumption | (simp [go_sem]; done) | (simp [go_sem]; done)) (by first | assumption | (simp [go_sem]; done) | (simp [go_sem]; done)) (by first | assumption | omega | (simp; done) | (simp; omega))
  obtain ⟨C0c0, C0c1, C0c2, C0f0, C0f1, C0f2, C0z⟩ := C0
  (try (have m3_0 : ¬ w.heap.size = w3.heap.size := by omega)); (try (have m3_0' : ¬ w3.heap.size = w.heap.size := by omega))
  (try (have m3_1 : ¬ w1.heap.size = w3.heap.size := by omega)); (try (have m3_1' : ¬ w3.heap.size = w1.heap.size := by omega))
  (try (have m3_2 : ¬ w2.heap.size = w3.heap.size := by omega)); (try (have m3_2' : ¬ w3.heap.size = w2.heap.size := by omega))
  clear h3 k3 B2
  go_wp2_with fail
  refine (k4 _).mono ?_
  rintro e w4 ⟨rfl, h4⟩
  have B4 : Below w.heap.size w w4 := Below.trans (by go_grown) (h4.mono (by first | (simp; done) | omega | (simp; omega)))
  have y4 := B4.size
  have D0 := box3 h4 (w3.heap.size) (.int .u64 0) (.int .u64 n) (.bool false) (by first | assumption | (simp [go_sem]; done) | (simp [go_sem, C0c0, C0c1, C0c2, C0f0, C0f1, C0f2, C0z]; done)) (by first | assumption | (simp [go_sem]; done) | (simp [go_sem, C0c0, C0c1, C0c2, C0f0, C0f1, C0f2, C0z]; done)) (by first | assumption | (simp [go_sem]; done) | (simp [go_sem, C0c0, C0c1, C0c2, C0f0, C0f1, C0f2, C0z]; done)) (by first | assumption | (simp [go_sem]; done) | (simp [go_sem, C0c0, C0c1, C0c2, C0f0, C0f1, C0f2, C0z]; done)) (by first | assumption | (simp [go_sem]; done) | (simp [go_sem, C0c0, C0c1, C0c2, C0f0, C0f1, C0f2, C0z]; done)) (by first | assumption | (simp [go_sem]; done) | (simp [go_sem, C0c0, C0c1, C0c2, C0f0, C0f1, C0f2, C0z]; done)) (by first | assumption | omega | (simp; done) | (simp; omega))
  clear C0c0 C0c1 C0c2 C0f0 C0f1 C0f2 C0z
  obtain ⟨D0c0, D0c1, D0c2, D0f0, D0f1, D0f2, D0z⟩ := D0
  (try (have m4_0 : ¬ w.heap.size = w4.heap.size := by omega)); (try (have m4_0' : ¬ w4.heap.size = w.heap.size := by omega))
  (try (have m4_1 : ¬ w1.heap.size = w4.heap.size := by omega)); (try (have m4_1' : ¬ w4.heap.size = w1.heap.size := by omega))
  (try (have m4_2 : ¬ w2.heap.size = w4.heap.size := by omega)); (try (have m4_2' : ¬ w4.heap.size = w2.heap.size := by omega))
  (try (have m4_3 : ¬ w3.heap.size = w4.heap.size := by omega)); (try (have m4_3' : ¬ w4.heap.size = w3.heap.size := by omega))
  clear h4 k4 B3
  go_wp2_with fail
  refine (k5 _).mono ?_
  rintro e w5 ⟨rfl, h5⟩
  have B5 : Below w.heap.size w w5 := Below.trans (by go_grown) (h5.mono (by first | (simp; done) | omega | (simp; omega)))
  have y5 := B5.size
  have E0 := box3 h5 (w4.heap.size) (.int .u64 H) (.int .u64 Lo) (.bool false) (by first | assumption | (simp [go_sem]; done) | (simp [go_sem, D0c0, D0c1, D0c2, D0f0, D0f1, D0f2, D0z]; done)) (by first | assumption | (simp [go_sem]; done) | (simp [go_sem, D0c0, D0c1, D0c2, D0f0, D0f1, D0f2, D0z]; done)) (by first | assumption | (simp [go_sem]; done) | (simp [go_sem, D0c0, D0c1, D0c2, D0f0, D0f1, D0f2, D0z]; done)) (by first | assumption | (simp [go_sem]; done) | (simp [go_sem, D0c0, D0c1, D0c2, D0f0, D0f1, D0f2, D0z]; done)) (by first | assumption | (simp [go_sem]; done) | (simp [go_sem, D0c0, D0c1, D0c2, D0f0, D0f1, D0f2, D0z]; done)) (by first | assumption | (simp [go_sem]; done) | (simp [go_sem, D0c0, D0c1, D0c2, D0f0, D0f1, D0f2, D0z]; done)) (by first | assumption | omega | (simp; done) | (simp; omega))
  clear D0c0 D0c1 D0c2 D0f0 D0f1 D0f2 D0z
  obtain ⟨E0c0, E0c1, E0c2, E0f0, E0f1, E0f2, E0z⟩ := E0
  (try (have m5_0 : ¬ w.heap.size = w5.heap.size := by omega)); (try (have m5_0' : ¬ w5.heap.size = w.heap.size := by omega))
  (try (have m5_1 : ¬ w1.heap.size = w5.heap.size := by omega)); (try (have m5_1' : ¬ w5.heap.size = w1.heap.size := by omega))
  (try (have m5_2 : ¬ w2.heap.size = w5.heap.size := by omega)); (try (have m5_2' : ¬ w5.heap.size = w2.heap.size := by omega))
  (try (have m5_3 : ¬ w3.heap.size = w5.heap.size := by omega)); (try (have m5_3' : ¬ w5.heap.size = w3.heap.size := by omega))
  (try (have m5_4 : ¬ w4.heap.size = w5.heap.size := by omega)); (try (have m5_4' : ¬ w5.heap.size = w4.heap.size := by omega))
  clear h5 k5 B4
  go_wp2_with fail
  refine (k6 _).mono ?_
  rintro e w6 ⟨rfl, h6⟩
  have B6 : Below w.heap.size w w6 := Below.trans (by go_grown) (h6.mono (by first | (simp; done) | omega | (simp; omega)))
  have y6 := B6.size
  have F0 := box3 h6 (w4.heap.size) (.int .u64 H) (.int .u64 Lo) (.bool false) (by first | assumption | (refine (Below.cell ?_ E0z).trans E0c0; go_grown; done) | (simp [go_sem, E0c0]; done) | (simp [go_sem, E0c0, E0z]; done) | (simp [go_sem, E0c0, E0c1, E0c2, E0f0, E0f1, E0f2, E0z]; done)) (by first | assumption | (refine (Below.cell ?_ E0z).trans E0c1; go_grown; done) | (simp [go_sem, E0c1]; done) | (simp [go_sem, E0c1, E0z]; done) | (simp [go_sem, E0c0, E0c1, E0c2, E0f0, E0f1, E0f2, E0z]; done)) (by first | assumption | (refine (Below.cell ?_ E0z).trans E0c2; go_grown; done) | (simp [go_sem, E0c2]; done) | (simp [go_sem, E0c2, E0z]; done) | (simp [go_sem, E0c0, E0c1, E0c2, E0f0, E0f1, E0f2, E0z]; done)) (by first | assumption | (refine (Below.frozen ?_ E0z).trans E0f0; go_grown; done) | (simp [go_sem, E0f0]; done) | (simp [go_sem, E0f0, E0z]; done) | (simp [go_sem, E0c0, E0c1, E0c2, E0f0, E0f1, E0f2, E0z]; done)) (by first | assumption | (refine (Below.frozen ?_ E0z).trans E0f1; go_grown; done) | (simp [go_sem, E0f1]; done) | (simp [go_sem, E0f1, E0z]; done) | (simp [go_sem, E0c0, E0c1, E0c2, E0f0, E0f1, E0f2, E0z]; done)) (by first | assumption | (refine (Below.frozen ?_ E0z).trans E0f2; go_grown; done) | (simp [go_sem, E0f2]; done) | (simp [go_sem, E0f2, E0z]; done) | (simp [go_sem, E0c0, E0c1, E0c2, E0f0, E0f1, E0f2, E0z]; done)) (by first | assumption | omega | (simp; done) | (simp; omega))
  have F1 := box3 h6 (w5.heap.size) (.int .u64 h) (.int .u64 l) (.bool false) (by first | assumption | (simp [go_sem]; done) | (simp [go_sem, E0c0, E0c1, E0c2, E0f0, E0f1, E0f2, E0z]; done)) (by first | assumption | (simp [go_sem]; done) | (simp [go_sem, E0c0, E0c1, E0c2, E0f0, E0f1, E0f2, E0z]; done)) (by first | assumption | (simp [go_sem]; done) | (simp [go_sem, E0c0, E0c1, E0c2, E0f0, E0f1, E0f2, E0z]; done)) (by first | assumption | (simp [go_sem]; done) | (simp [go_sem, E0c0, E0c1, E0c2, E0f0, E0f1, E0f2, E0z]; done)) (by first | assumption | (simp [go_sem]; done) | (simp [go_sem, E0c0, E0c1, E0c2, E0f0, E0f1, E0f2, E0z]; done)) (by first | assumption | (simp [go_sem]; done) | (simp [go_sem, E0c0, E0c1, E0c2, E0f0, E0f1, E0f2, E0z]; done)) (by first | assumption | omega | (simp; done) | (simp; omega))
  clear E0c0 E0c1 E0c2 E0f0 E0f1 E0f2 E0z
  obtain ⟨F0c0, F0c1, F0c2, F0f0, F0f1, F0f2, F0z⟩ := F0
  obtain ⟨F1c0, F1c1, F1c2, F1f0, F1f1, F1f2, F1z⟩ := F1
  (try (have m6_0 : ¬ w.heap.size = w6.heap.size := by omega)); (try (have m6_0' : ¬ w6.heap.size = w.heap.size := by omega))
  (try (have m6_1 : ¬ w1.heap.size = w6.heap.size := by omega)); (try (have m6_1' : ¬ w6.heap.size = w1.heap.size := by omega))
  (try (have m6_2 : ¬ w2.heap.size = w6.heap.size := by omega)); (try (have m6_2' : ¬ w6.heap.size = w2.heap.size := by omega))
  (try (have m6_3 : ¬ w3.heap.size = w6.heap.size := by omega)); (try (have m6_3' : ¬ w6.heap.size = w3.heap.size := by omega))
  (try (have m6_4 : ¬ w4.heap.size = w6.heap.size := by omega)); (try (have m6_4' : ¬ w6.heap.size = w4.heap.size := by omega))
  (try (have m6_5 : ¬ w5.heap.size = w6.heap.size := by omega)); (try (have m6_5' : ¬ w6.heap.size = w5.heap.size := by omega))
  clear h6 k6 B5
  go_wp2_with fail
  refine (k7 _).mono ?_
  rintro e w7 ⟨rfl, h7⟩
  have B7 : Below w.heap.size w w7 := Below.trans (by go_grown) (h7.mono (by first | (simp; done) | omega | (simp; omega)))
  have y7 := B7.size
  clear F0c0 F0c1 F0c2 F0f0 F0f1 F0f2 F0z F1c0 F1c1 F1c2 F1f0 F1f1 F1f2 F1z
  (try (have m7_0 : ¬ w.heap.size = w7.heap.size := by omega)); (try (have m7_0' : ¬ w7.heap.size = w.heap.size := by omega))
  (try (have m7_1 : ¬ w1.heap.size = w7.heap.size := by omega)); (try (have m7_1' : ¬ w7.heap.size = w1.heap.size := by omega))
  (try (have m7_2 : ¬ w2.heap.size = w7.heap.size := by omega)); (try (have m7_2' : ¬ w7.heap.size = w2.heap.size := by omega))
  (try (have m7_3 : ¬ w3.heap.size = w7.heap.size := by omega)); (try (have m7_3' : ¬ w7.heap.size = w3.heap.size := by omega))
  (try (have m7_4 : ¬ w4.heap.size = w7.heap.size := by omega)); (try (have m7_4' : ¬ w7.heap.size = w4.heap.size := by omega))
  (try (have m7_5 : ¬ w5.heap.size = w7.heap.size := by omega)); (try (have m7_5' : ¬ w7.heap.size = w5.heap.size := by omega))
  (try (have m7_6 : ¬ w6.heap.size = w7.heap.size := by omega)); (try (have m7_6' : ¬ w7.heap.size = w6.heap.size := by omega))
  clear h7 k7 B6
  go_wp2_with fail
  go_returns
  exact ⟨rfl, by go_grown⟩
set_option maxHeartbeats 4000000 in
theorem sent_ziol (v r m n H Lo l d y v1 : Int) (p q o : Bool) (er : IntKind.u64.wrap r = r) (ed : IntKind.i64.wrap (IntKind.u64.wrap (Lo - l)) = d) (dr : ¬ r ≤ d) (v0 : v < 0) (c1 : ¬ Lo < l) (u0 : (r == 1000000) = false) (l0 : v < 1000000000000000) (l1 : 0 ≤ y) (ev : IntKind.i64.wrap (v + 1) = v1)
    (k1 : ∀ w, Calls Try.prog 11 #[.int .i64 v, .int .i64 r] w fun e w' => e = .returned (.tuple #[.int .i64 0, .int .i64 0]) ∧ Below w.heap.size w w')
    (k2 : ∀ w, Calls Try.prog 21 #[.int .i64 v] w fun e w' => e = .returned (.tuple #[magV 0 m false, .bool p]) ∧ Below w.heap.size w w')
    (k3 : ∀ w, Calls Try.prog 21 #[.int .i64 0] w fun e w' => e = .returned (.tuple #[magV 0 n false, .bool q]) ∧ Below w.heap.size w w')
    (k4 : ∀ w, Calls Try.prog 20 #[magV 0 m false, .int .u64 1000000] w fun e w' => e = .returned (magV H Lo false) ∧ Below w.heap.size w w')
    (k5 : ∀ w, Calls Try.prog 20 #[magV 0 n false, .int .u64 r] w fun e w' => e = .returned (magV H l false) ∧ Below w.heap.size w w')
    (k6 : ∀ w, Calls Try.prog 21 #[.int .i64 d] w fun e w' => e = .returned (.tuple #[magV 0 d false, .bool o]) ∧ Below w.heap.size w w')
    (k7 : ∀ w, Calls Try.prog 11 #[.int .i64 v1, .int .i64 r] w fun e w' => e = .returned (.tuple #[.int .i64 y, .int .i64 0]) ∧ Below w.heap.size w w')
    (w : World) : Calls Try.prog 9 #[.int .i64 v, .int .i64 r] w fun e w' => e = .returned (.bool true) ∧ Below w.heap.size w w' := by
  go_enter Try.func9, Try.ntmps9
  go_wp2_with fail
  refine (k1 _).mono ?_
  rintro e w1 ⟨rfl, h1⟩
  have B1 : Below w.heap.size w w1 := Below.trans (by go_grown) (h1.mono (by first | (simp; done) | omega | (simp; omega)))
  have y1 := B1.size
  (try (have m1_0 : ¬ w.heap.size = w1.heap.size := by omega)); (try (have m1_0' : ¬ w1.heap.size = w.heap.size := by omega))
  clear h1 k1
  go_wp2_with fail
  refine (k2 _).mono ?_
  rintro e w2 ⟨rfl, h2⟩
  have B2 : Below w.heap.size w w2 := Below.trans (by go_grown) (h2.mono (by first | (simp; done) | omega | (simp; omega)))
  have y2 := B2.size
  (try (have m2_0 : ¬ w.heap.size = w2.heap.size := by omega)); (try (have m2_0' : ¬ w2.heap.size = w.heap.size := by omega))
  (try (have m2_1 : ¬ w1.heap.size = w2.heap.size := by omega)); (try (have m2_1' : ¬ w2.heap.size = w1.heap.size := by omega))
  clear h2 k2 B1
  go_wp2_with fail
  refine (k3 _).mono ?_
  rintro e w3 ⟨rfl, h3⟩
  have B3 : Below w.heap.size w w3 := Below.trans (by go_grown) (h3.mono (by first | (simp; done) | omega | (simp; omega)))
  have y3 := B3.size
  have C0 := box3 h3 (w2.heap.size) (.int .u64 0) (.int .u64 m) (.bool false) (by first | assumption | (simp [go_sem]; done) | (simp [go_sem]; done)) (by first | assumption | (simp [go_sem]; done) | (simp [go_sem]; done)) (by first | assumption | (simp [go_sem]; done) | (simp [go_sem]; done)) (by first | assumption | (simp [go_sem]; done) | (simp [go_sem]; done)) (by first | assumption | (simp [go_sem]; done) | (simp [go_sem]; done)) (by first | assumption | (simp [go_sem]; done) | (simp [go_sem]; done)) (by first | assumption | omega | (simp; done) | (simp; omega))
  obtain ⟨C0c0, C0c1, C0c2, C0f0, C0f1, C0f2, C0z⟩ := C0
  (try (have m3_0 : ¬ w.heap.size = w3.heap.size := by omega)); (try (have m3_0' : ¬ w3.heap.size = w.heap.size := by omega))
  (try (have m3_1 : ¬ w1.heap.size = w3.heap.size := by omega)); (try (have m3_1' : ¬ w3.heap.size = w1.heap.size := by omega))
  (try (have m3_2 : ¬ w2.heap.size = w3.heap.size := by omega)); (try (have m3_2' : ¬ w3.heap.size = w2.heap.size := by omega))
  clear h3 k3 B2
  go_wp2_with fail
  refine (k4 _).mono ?_
  rintro e w4 ⟨rfl, h4⟩
  have B4 : Below w.heap.size w w4 := Below.trans (by go_grown) (h4.mono (by first | (simp; done) | omega | (simp; omega)))
  have y4 := B4.size
  have D0 := box3 h4 (w3.heap.size) (.int .u64 0) (.int .u64 n) (.bool false) (by first | assumption | (simp [go_sem]; done) | (simp [go_sem, C0c0, C0c1, C0c2, C0f0, C0f1, C0f2, C0z]; done)) (by first | assumption | (simp [go_sem]; done) | (simp [go_sem, C0c0, C0c1, C0c2, C0f0, C0f1, C0f2, C0z]; done)) (by first | assumption | (simp [go_sem]; done) | (simp [go_sem, C0c0, C0c1, C0c2, C0f0, C0f1, C0f2, C0z]; done)) (by first | assumption | (simp [go_sem]; done) | (simp [go_sem, C0c0, C0c1, C0c2, C0f0, C0f1, C0f2, C0z]; done)) (by first | assumption | (simp [go_sem]; done) | (simp [go_sem, C0c0, C0c1, C0c2, C0f0, C0f1, C0f2, C0z]; done)) (by first | assumption | (simp [go_sem]; done) | (simp [go_sem, C0c0, C0c1, C0c2, C0f0, C0f1, C0f2, C0z]; done)) (by first | assumption | omega | (simp; done) | (simp; omega))
  clear C0c0 C0c1 C0c2 C0f0 C0f1 C0f2 C0z
  obtain ⟨D0c0, D0c1, D0c2, D0f0, D0f1, D0f2, D0z⟩ := D0
  (try (have m4_0 : ¬ w.heap.size = w4.heap.size := by omega)); (try (have m4_0' : ¬ w4.heap.size = w.heap.size := by omega))
  (try (have m4_1 : ¬ w1.heap.size = w4.heap.size := by omega)); (try (have m4_1' : ¬ w4.heap.size = w1.heap.size := by omega))
  (try (have m4_2 : ¬ w2.heap.size = w4.heap.size := by omega)); (try (have m4_2' : ¬ w4.heap.size = w2.heap.size := by omega))
  (try (have m4_3 : ¬ w3.heap.size = w4.heap.size := by omega)); (try (have m4_3' : ¬ w4.heap.size = w3.heap.size := by omega))
  clear h4 k4 B3
  go_wp2_with fail
  refine (k5 _).mono ?_
  rintro e w5 ⟨rfl, h5⟩
  have B5 : Below w.heap.size w w5 := Below.trans (by go_grown) (h5.mono (by first | (simp; done) | omega | (simp; omega)))
  have y5 := B5.size
  have E0 := box3 h5 (w4.heap.size) (.int .u64 H) (.int .u64 Lo) (.bool false) (by first | assumption | (simp [go_sem]; done) | (simp [go_sem, D0c0, D0c1, D0c2, D0f0, D0f1, D0f2, D0z]; done)) (by first | assumption | (simp [go_sem]; done) | (simp [go_sem, D0c0, D0c1, D0c2, D0f0, D0f1, D0f2, D0z]; done)) (by first | assumption | (simp [go_sem]; done) | (simp [go_sem, D0c0, D0c1, D0c2, D0f0, D0f1, D0f2, D0z]; done)) (by first | assumption | (simp [go_sem]; done) | (simp [go_sem, D0c0, D0c1, D0c2, D0f0, D0f1, D0f2, D0z]; done)) (by first | assumption | (simp [go_sem]; done) | (simp [go_sem, D0c0, D0c1, D0c2, D0f0, D0f1, D0f2, D0z]; done)) (by first | assumption | (simp [go_sem]; done) | (simp [go_sem, D0c0, D0c1, D0c2, D0f0, D0f1, D0f2, D0z]; done)) (by first | assumption | omega | (simp; done) | (simp; omega))
  clear D0c0 D0c1 D0c2 D0f0 D0f1 D0f2 D0z
  obtain ⟨E0c0, E0c1, E0c2, E0f0, E0f1, E0f2, E0z⟩ := E0
  (try (have m5_0 : ¬ w.heap.size = w5.heap.size := by omega)); (try (have m5_0' : ¬ w5.heap.size = w.heap.size := by omega))
  (try (have m5_1 : ¬ w1.heap.size = w5.heap.size := by omega)); (try (have m5_1' : ¬ w5.heap.size = w1.heap.size := by omega))
  (try (have m5_2 : ¬ w2.heap.size = w5.heap.size := by omega)); (try (have m5_2' : ¬ w5.heap.size = w2.heap.size := by omega))
  (try (have m5_3 : ¬ w3.heap.size = w5.heap.size := by omega)); (try (have m5_3' : ¬ w5.heap.size = w3.heap.size := by omega))
  (try (have m5_4 : ¬ w4.heap.size = w5.heap.size := by omega)); (try (have m5_4' : ¬ w5.heap.size = w4.heap.size := by omega))
  clear h5 k5 B4
  go_wp2_with fail
  refine (k6 _).mono ?_
  rintro e w6 ⟨rfl, h6⟩
  have B6 : Below w.heap.size w w6 := Below.trans (by go_grown) (h6.mono (by first | (simp; done) | omega | (simp; omega)))
  have y6 := B6.size
  have F0 := box3 h6 (w4.heap.size) (.int .u64 H) (.int .u64 Lo) (.bool false) (by first | assumption | (refine (Below.cell ?_ E0z).trans E0c0; go_grown; done) | (simp [go_sem, E0c0]; done) | (simp [go_sem, E0c0, E0z]; done) | (simp [go_sem, E0c0, E0c1, E0c2, E0f0, E0f1, E0f2, E0z]; done)) (by first | assumption | (refine (Below.cell ?_ E0z).trans E0c1; go_grown; done) | (simp [go_sem, E0c1]; done) | (simp [go_sem, E0c1, E0z]; done) | (simp [go_sem, E0c0, E0c1, E0c2, E0f0, E0f1, E0f2, E0z]; done)) (by first | assumption | (refine (Below.cell ?_ E0z).trans E0c2; go_grown; done) | (simp [go_sem, E0c2]; done) | (simp [go_sem, E0c2, E0z]; done) | (simp [go_sem, E0c0, E0c1, E0c2, E0f0, E0f1, E0f2, E0z]; done)) (by first | assumption | (refine (Below.frozen ?_ E0z).trans E0f0; go_grown; done) | (simp [go_sem, E0f0]; done) | (simp [go_sem, E0f0, E0z]; done) | (simp [go_sem, E0c0, E0c1, E0c2, E0f0, E0f1, E0f2, E0z]; done)) (by first | assumption | (refine (Below.frozen ?_ E0z).trans E0f1; go_grown; done) | (simp [go_sem, E0f1]; done) | (simp [go_sem, E0f1, E0z]; done) | (simp [go_sem, E0c0, E0c1, E0c2, E0f0, E0f1, E0f2, E0z]; done)) (by first | assumption | (refine (Below.frozen ?_ E0z).trans E0f2; go_grown; done) | (simp [go_sem, E0f2]; done) | (simp [go_sem, E0f2, E0z]; done) | (simp [go_sem, E0c0, E0c1, E0c2, E0f0, E0f1, E0f2, E0z]; done)) (by first | assumption | omega | (simp; done) | (simp; omega))
  have F1 := box3 h6 (w5.heap.size) (.int .u64 H) (.int .u64 l) (.bool false) (by first | assumption | (simp [go_sem]; done) | (simp [go_sem, E0c0, E0c1, E0c2, E0f0, E0f1, E0f2, E0z]; done)) (by first | assumption | (simp [go_sem]; done) | (simp [go_sem, E0c0, E0c1, E0c2, E0f0, E0f1, E0f2, E0z]; done)) (by first | assumption | (simp [go_sem]; done) | (simp [go_sem, E0c0, E0c1, E0c2, E0f0, E0f1, E0f2, E0z]; done)) (by first | assumption | (simp [go_sem]; done) | (simp [go_sem, E0c0, E0c1, E0c2, E0f0, E0f1, E0f2, E0z]; done)) (by first | assumption | (simp [go_sem]; done) | (simp [go_sem, E0c0, E0c1, E0c2, E0f0, E0f1, E0f2, E0z]; done)) (by first | assumption | (simp [go_sem]; done) | (simp [go_sem, E0c0, E0c1, E0c2, E0f0, E0f1, E0f2, E0z]; done)) (by first | assumption | omega | (simp; done) | (simp; omega))
  clear E0c0 E0c1 E0c2 E0f0 E0f1 E0f2 E0z
  obtain ⟨F0c0, F0c1, F0c2, F0f0, F0f1, F0f2, F0z⟩ := F0
  obtain ⟨F1c0, F1c1, F1c2, F1f0, F1f1, F1f2, F1z⟩ := F1
  (try (have m6_0 : ¬ w.heap.size = w6.heap.size := by omega)); (try (have m6_0' : ¬ w6.heap.size = w.heap.size := by omega))
  (try (have m6_1 : ¬ w1.heap.size = w6.heap.size := by omega)); (try (have m6_1' : ¬ w6.heap.size = w1.heap.size := by omega))
  (try (have m6_2 : ¬ w2.heap.size = w6.heap.size := by omega)); (try (have m6_2' : ¬ w6.heap.size = w2.heap.size := by omega))
  (try (have m6_3 : ¬ w3.heap.size = w6.heap.size := by omega)); (try (have m6_3' : ¬ w6.heap.size = w3.heap.size := by omega))
  (try (have m6_4 : ¬ w4.heap.size = w6.heap.size := by omega)); (try (have m6_4' : ¬ w6.heap.size = w4.heap.size := by omega))
  (try (have m6_5 : ¬ w5.heap.size = w6.heap.size := by omega)); (try (have m6_5' : ¬ w6.heap.size = w5.heap.size := by omega))
  clear h6 k6 B5
  go_wp2_with fail
  refine (k7 _).mono ?_
  rintro e w7 ⟨rfl, h7⟩
  have B7 : Below w.heap.size w w7 := Below.trans (by go_grown) (h7.mono (by first | (simp; done) | omega | (simp; omega)))
  have y7 := B7.size
  clear F0c0 F0c1 F0c2 F0f0 F0f1 F0f2 F0z F1c0 F1c1 F1c2 F1f0 F1f1 F1f2 F1z
  (try (have m7_0 : ¬ w.heap.size = w7.heap.size := by omega)); (try (have m7_0' : ¬ w7.heap.size = w.heap.size := by omega))
  (try (have m7_1 : ¬ w1.heap.size = w7.heap.size := by omega)); (try (have m7_1' : ¬ w7.heap.size = w1.heap.size := by omega))
  (try (have m7_2 : ¬ w2.heap.size = w7.heap.size := by omega)); (try (have m7_2' : ¬ w7.heap.size = w2.heap.size := by omega))
  (try (have m7_3 : ¬ w3.heap.size = w7.heap.size := by omega)); (try (have m7_3' : ¬ w7.heap.size = w3.heap.size := by omega))
  (try (have m7_4 : ¬ w4.heap.size = w7.heap.size := by omega)); (try (have m7_4' : ¬ w7.heap.size = w4.heap.size := by omega))
  (try (have m7_5 : ¬ w5.heap.size = w7.heap.size := by omega)); (try (have m7_5' : ¬ w7.heap.size = w5.heap.size := by omega))
  (try (have m7_6 : ¬ w6.heap.size = w7.heap.size := by omega)); (try (have m7_6' : ¬ w7.heap.size = w6.heap.size := by omega))
  clear h7 k7 B6
  go_wp2_with fail
  go_returns
  exact ⟨rfl, by go_grown⟩
set_option maxHeartbeats 4000000 in
theorem sent_zjol (v r m n H Lo l d h y v1 : Int) (p q o : Bool) (er : IntKind.u64.wrap r = r) (ed : IntKind.i64.wrap (IntKind.u64.wrap (Lo - l)) = d) (dr : ¬ r ≤ d) (v0 : v < 0) (c0 : ¬ H < h) (c0' : (h == H) = false) (u0 : (r == 1000000) = false) (l0 : v < 1000000000000000) (l1 : 0 ≤ y) (ev : IntKind.i64.wrap (v + 1) = v1)
    (k1 : ∀ w, Calls Try.prog 11 #[.int .i64 v, .int .i64 r] w fun e w' => e = .returned (.tuple #[.int .i64 0, .int .i64 0]) ∧ Below w.heap.size w w')
    (k2 : ∀ w, Calls Try.prog 21 #[.int .i64 v] w fun e w' => e = .returned (.tuple #[magV 0 m false, .bool p]) ∧ Below w.heap.size w w')
    (k3 : ∀ w, Calls Try.prog 21 #[.int .i64 0] w fun e w' => e = .returned (.tuple #[magV 0 n false, .bool q]) ∧ Below w.heap.size w w')
    (k4 : ∀ w, Calls Try.prog 20 #[magV 0 m false, .int .u64 1000000] w fun e w' => e = .returned (magV H Lo false) ∧ Below w.heap.size w w')
    (k5 : ∀ w, Calls Try.prog 20 #[magV 0 n false, .int .u64 r] w fun e w' => e = .returned (magV h l false) ∧ Below w.heap.size w w')
    (k6 : ∀ w, Calls Try.prog 21 #[.int .i64 d] w fun e w' => e = .returned (.tuple #[magV 0 d false, .bool o]) ∧ Below w.heap.size w w')
    (k7 : ∀ w, Calls Try.prog 11 #[.int .i64 v1, .int .i64 r] w fun e w' => e = .returned (.tuple #[.int .i64 y, .int .i64 0]) ∧ Below w.heap.size w w')
    (w : World) : Calls Try.prog 9 #[.int .i64 v, .int .i64 r] w fun e w' => e = .returned (.bool true) ∧ Below w.heap.size w w' := by
  go_enter Try.func9, Try.ntmps9
  go_wp2_with fail
  refine (k1 _).mono ?_
  rintro e w1 ⟨rfl, h1⟩
  have B1 : Below w.heap.size w w1 := Below.trans (by go_grown) (h1.mono (by first | (simp; done) | omega | (simp; omega)))
  have y1 := B1.size
  (try (have m1_0 : ¬ w.heap.size = w1.heap.size := by omega)); (try (have m1_0' : ¬ w1.heap.size = w.heap.size := by omega))
  clear h1 k1
  go_wp2_with fail
  refine (k2 _).mono ?_
  rintro e w2 ⟨rfl, h2⟩
  have B2 : Below w.heap.size w w2 := Below.trans (by go_grown) (h2.mono (by first | (simp; done) | omega | (simp; omega)))
  have y2 := B2.size
  (try (have m2_0 : ¬ w.heap.size = w2.heap.size := by omega)); (try (have m2_0' : ¬ w2.heap.size = w.heap.size := by omega))
  (try (have m2_1 : ¬ w1.heap.size = w2.heap.size := by omega)); (try (have m2_1' : ¬ w2.heap.size = w1.heap.size := by omega))
  clear h2 k2 B1
  go_wp2_with fail
  refine (k3 _).mono ?_
  rintro e w3 ⟨rfl, h3⟩
  have B3 : Below w.heap.size w w3 := Below.trans (by go_grown) (h3.mono (by first | (simp; done) | omega | (simp; omega)))
  have y3 := B3.size
  have C0 := box3 h3 (w2.heap.size) (.int .u64 0) (.int .u64 m) (.bool false) (by first | assumption | (simp [go_sem]; done) | (simp [go_sem]; done)) (by first | assumption | (simp [go_sem]; done) | (simp [go_sem]; done)) (by first | assumption | (simp [go_sem]; done) | (simp [go_sem]; done)) (by first | assumption | (simp [go_sem]; done) | (simp [go_sem]; done)) (by first | assumption | (simp [go_sem]; done) | (simp [go_sem]; done)) (by first | assumption | (simp [go_sem]; done) | (simp [go_sem]; done)) (by first | assumption | omega | (simp; done) | (simp; omega))
  obtain ⟨C0c0, C0c1, C0c2, C0f0, C0f1, C0f2, C0z⟩ := C0
  (try (have m3_0 : ¬ w.heap.size = w3.heap.size := by omega)); (try (have m3_0' : ¬ w3.heap.size = w.heap.size := by omega))
  (try (have m3_1 : ¬ w1.heap.size = w3.heap.size := by omega)); (try (have m3_1' : ¬ w3.heap.size = w1.heap.size := by omega))
  (try (have m3_2 : ¬ w2.heap.size = w3.heap.size := by omega)); (try (have m3_2' : ¬ w3.heap.size = w2.heap.size := by omega))
  clear h3 k3 B2
  go_wp2_with fail
  refine (k4 _).mono ?_
  rintro e w4 ⟨rfl, h4⟩
  have B4 : Below w.heap.size w w4 := Below.trans (by go_grown) (h4.mono (by first | (simp; done) | omega | (simp; omega)))
  have y4 := B4.size
  have D0 := box3 h4 (w3.heap.size) (.int .u64 0) (.int .u64 n) (.bool false) (by first | assumption | (simp [go_sem]; done) | (simp [go_sem, C0c0, C0c1, C0c2, C0f0, C0f1, C0f2, C0z]; done)) (by first | assumption | (simp [go_sem]; done) | (simp [go_sem, C0c0, C0c1, C0c2, C0f0, C0f1, C0f2, C0z]; done)) (by first | assumption | (simp [go_sem]; done) | (simp [go_sem, C0c0, C0c1, C0c2, C0f0, C0f1, C0f2, C0z]; done)) (by first | assumption | (simp [go_sem]; done) | (simp [go_sem, C0c0, C0c1, C0c2, C0f0, C0f1, C0f2, C0z]; done)) (by first | assumption | (simp [go_sem]; done) | (simp [go_sem, C0c0, C0c1, C0c2, C0f0, C0f1, C0f2, C0z]; done)) (by first | assumption | (simp [go_sem]; done) | (simp [go_sem, C0c0, C0c1, C0c2, C0f0, C0f1, C0f2, C0z]; done)) (by first | assumption | omega | (simp; done) | (simp; omega))
  clear C0c0 C0c1 C0c2 C0f0 C0f1 C0f2 C0z
  obtain ⟨D0c0, D0c1, D0c2, D0f0, D0f1, D0f2, D0z⟩ := D0
  (try (have m4_0 : ¬ w.heap.size = w4.heap.size := by omega)); (try (have m4_0' : ¬ w4.heap.size = w.heap.size := by omega))
  (try (have m4_1 : ¬ w1.heap.size = w4.heap.size := by omega)); (try (have m4_1' : ¬ w4.heap.size = w1.heap.size := by omega))
  (try (have m4_2 : ¬ w2.heap.size = w4.heap.size := by omega)); (try (have m4_2' : ¬ w4.heap.size = w2.heap.size := by omega))
  (try (have m4_3 : ¬ w3.heap.size = w4.heap.size := by omega)); (try (have m4_3' : ¬ w4.heap.size = w3.heap.size := by omega))
  clear h4 k4 B3
  go_wp2_with fail
  refine (k5 _).mono ?_
  rintro e w5 ⟨rfl, h5⟩
  have B5 : Below w.heap.size w w5 := Below.trans (by go_grown) (h5.mono (by first | (simp; done) | omega | (simp; omega)))
  have y5 := B5.size
  have E0 := box3 h5 (w4.heap.size) (.int .u64 H) (.int .u64 Lo) (.bool false) (by first | assumption | (simp [go_sem]; done) | (simp [go_sem, D0c0, D0c1, D0c2, D0f0, D0f1, D0f2, D0z]; done)) (by first | assumption | (simp [go_sem]; done) | (simp [go_sem, D0c0, D0c1, D0c2, D0f0, D0f1, D0f2, D0z]; done)) (by first | assumption | (simp [go_sem]; done) | (simp [go_sem, D0c0, D0c1, D0c2, D0f0, D0f1, D0f2, D0z]; done)) (by first | assumption | (simp [go_sem]; done) | (simp [go_sem, D0c0, D0c1, D0c2, D0f0, D0f1, D0f2, D0z]; done)) (by first | assumption | (simp [go_sem]; done) | (simp [go_sem, D0c0, D0c1, D0c2, D0f0, D0f1, D0f2, D0z]; done)) (by first | assumption | (simp [go_sem]; done) | (simp [go_sem, D0c0, D0c1, D0c2, D0f0, D0f1, D0f2, D0z]; done)) (by first | assumption | omega | (simp; done) | (simp; omega))
  clear D0c0 D0c1 D0c2 D0f0 D0f1 D0f2 D0z
  obtain ⟨E0c0, E0c1, E0c2, E0f0, E0f1, E0f2, E0z⟩ := E0
  (try (have m5_0 : ¬ w.heap.size = w5.heap.size := by omega)); (try (have m5_0' : ¬ w5.heap.size = w.heap.size := by omega))
  (try (have m5_1 : ¬ w1.heap.size = w5.heap.size := by omega)); (try (have m5_1' : ¬ w5.heap.size = w1.heap.size := by omega))
  (try (have m5_2 : ¬ w2.heap.size = w5.heap.size := by omega)); (try (have m5_2' : ¬ w5.heap.size = w2.heap.size := by omega))
  (try (have m5_3 : ¬ w3.heap.size = w5.heap.size := by omega)); (try (have m5_3' : ¬ w5.heap.size = w3.heap.size := by omega))
  (try (have m5_4 : ¬ w4.heap.size = w5.heap.size := by omega)); (try (have m5_4' : ¬ w5.heap.size = w4.heap.size := by omega))
  clear h5 k5 B4
  go_wp2_with fail
  refine (k6 _).mono ?_
  rintro e w6 ⟨rfl, h6⟩
  have B6 : Below w.heap.size w w6 := Below.trans (by go_grown) (h6.mono (by first | (simp; done) | omega | (simp; omega)))
  have y6 := B6.size
  have F0 := box3 h6 (w4.heap.size) (.int .u64 H) (.int .u64 Lo) (.bool false) (by first | assumption | (refine (Below.cell ?_ E0z).trans E0c0; go_grown; done) | (simp [go_sem, E0c0]; done) | (simp [go_sem, E0c0, E0z]; done) | (simp [go_sem, E0c0, E0c1, E0c2, E0f0, E0f1, E0f2, E0z]; done)) (by first | assumption | (refine (Below.cell ?_ E0z).trans E0c1; go_grown; done) | (simp [go_sem, E0c1]; done) | (simp [go_sem, E0c1, E0z]; done) | (simp [go_sem, E0c0, E0c1, E0c2, E0f0, E0f1, E0f2, E0z]; done)) (by first | assumption | (refine (Below.cell ?_ E0z).trans E0c2; go_grown; done) | (simp [go_sem, E0c2]; done) | (simp [go_sem, E0c2, E0z]; done) | (simp [go_sem, E0c0, E0c1, E0c2, E0f0, E0f1, E0f2, E0z]; done)) (by first | assumption | (refine (Below.frozen ?_ E0z).trans E0f0; go_grown; done) | (simp [go_sem, E0f0]; done) | (simp [go_sem, E0f0, E0z]; done) | (simp [go_sem, E0c0, E0c1, E0c2, E0f0, E0f1, E0f2, E0z]; done)) (by first | assumption | (refine (Below.frozen ?_ E0z).trans E0f1; go_grown; done) | (simp [go_sem, E0f1]; done) | (simp [go_sem, E0f1, E0z]; done) | (simp [go_sem, E0c0, E0c1, E0c2, E0f0, E0f1, E0f2, E0z]; done)) (by first | assumption | (refine (Below.frozen ?_ E0z).trans E0f2; go_grown; done) | (simp [go_sem, E0f2]; done) | (simp [go_sem, E0f2, E0z]; done) | (simp [go_sem, E0c0, E0c1, E0c2, E0f0, E0f1, E0f2, E0z]; done)) (by first | assumption | omega | (simp; done) | (simp; omega))
  have F1 := box3 h6 (w5.heap.size) (.int .u64 h) (.int .u64 l) (.bool false) (by first | assumption | (simp [go_sem]; done) | (simp [go_sem, E0c0, E0c1, E0c2, E0f0, E0f1, E0f2, E0z]; done)) (by first | assumption | (simp [go_sem]; done) | (simp [go_sem, E0c0, E0c1, E0c2, E0f0, E0f1, E0f2, E0z]; done)) (by first | assumption | (simp [go_sem]; done) | (simp [go_sem, E0c0, E0c1, E0c2, E0f0, E0f1, E0f2, E0z]; done)) (by first | assumption | (simp [go_sem]; done) | (simp [go_sem, E0c0, E0c1, E0c2, E0f0, E0f1, E0f2, E0z]; done)) (by first | assumption | (simp [go_sem]; done) | (simp [go_sem, E0c0, E0c1, E0c2, E0f0, E0f1, E0f2, E0z]; done)) (by first | assumption | (simp [go_sem]; done) | (simp [go_sem, E0c0, E0c1, E0c2, E0f0, E0f1, E0f2, E0z]; done)) (by first | assumption | omega | (simp; done) | (simp; omega))
  clear E0c0 E0c1 E0c2 E0f0 E0f1 E0f2 E0z
  obtain ⟨F0c0, F0c1, F0c2, F0f0, F0f1, F0f2, F0z⟩ := F0
  obtain ⟨F1c0, F1c1, F1c2, F1f0, F1f1, F1f2, F1z⟩ := F1
  (try (have m6_0 : ¬ w.heap.size = w6.heap.size := by omega)); (try (have m6_0' : ¬ w6.heap.size = w.heap.size := by omega))
  (try (have m6_1 : ¬ w1.heap.size = w6.heap.size := by omega)); (try (have m6_1' : ¬ w6.heap.size = w1.heap.size := by omega))
  (try (have m6_2 : ¬ w2.heap.size = w6.heap.size := by omega)); (try (have m6_2' : ¬ w6.heap.size = w2.heap.size := by omega))
  (try (have m6_3 : ¬ w3.heap.size = w6.heap.size := by omega)); (try (have m6_3' : ¬ w6.heap.size = w3.heap.size := by omega))
  (try (have m6_4 : ¬ w4.heap.size = w6.heap.size := by omega)); (try (have m6_4' : ¬ w6.heap.size = w4.heap.size := by omega))
  (try (have m6_5 : ¬ w5.heap.size = w6.heap.size := by omega)); (try (have m6_5' : ¬ w6.heap.size = w5.heap.size := by omega))
  clear h6 k6 B5
  go_wp2_with fail
  refine (k7 _).mono ?_
  rintro e w7 ⟨rfl, h7⟩
  have B7 : Below w.heap.size w w7 := Below.trans (by go_grown) (h7.mono (by first | (simp; done) | omega | (simp; omega)))
  have y7 := B7.size
  clear F0c0 F0c1 F0c2 F0f0 F0f1 F0f2 F0z F1c0 F1c1 F1c2 F1f0 F1f1 F1f2 F1z
  (try (have m7_0 : ¬ w.heap.size = w7.heap.size := by omega)); (try (have m7_0' : ¬ w7.heap.size = w.heap.size := by omega))
  (try (have m7_1 : ¬ w1.heap.size = w7.heap.size := by omega)); (try (have m7_1' : ¬ w7.heap.size = w1.heap.size := by omega))
  (try (have m7_2 : ¬ w2.heap.size = w7.heap.size := by omega)); (try (have m7_2' : ¬ w7.heap.size = w2.heap.size := by omega))
  (try (have m7_3 : ¬ w3.heap.size = w7.heap.size := by omega)); (try (have m7_3' : ¬ w7.heap.size = w3.heap.size := by omega))
  (try (have m7_4 : ¬ w4.heap.size = w7.heap.size := by omega)); (try (have m7_4' : ¬ w7.heap.size = w4.heap.size := by omega))
  (try (have m7_5 : ¬ w5.heap.size = w7.heap.size := by omega)); (try (have m7_5' : ¬ w7.heap.size = w5.heap.size := by omega))
  (try (have m7_6 : ¬ w6.heap.size = w7.heap.size := by omega)); (try (have m7_6' : ¬ w7.heap.size = w6.heap.size := by omega))
  clear h7 k7 B6
  go_wp2_with fail
  go_returns
  exact ⟨rfl, by go_grown⟩
end Go.Proofs.Ytedpbdcbbfofoaa
