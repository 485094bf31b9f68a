/- micro: Show. (gen_mshow.py) -/
import Derived.Test.YtdjehbagnkfkpaaDoorWtxt
import Derived.Test.YtdjehbagnkfkpaaDoorShelf
namespace Go.Proofs.YtdjehbagnkfkpaaDoor
set_option linter.unusedVariables false
set_option linter.unusedSimpArgs false
open Go.RowKit W
set_option maxRecDepth 100000 in
set_option maxHeartbeats 2000000 in
theorem show_short_zero_neg (a b : Int) (X T H F : List UInt8) (hT : T.length ≤ 6)
    (k1 : ∀ w, Calls Tryd.prog 40 #[.agg #[.int .i64 a, .int .u64 b]] w fun e w' => e = .returned (.string ⟨X.toArray⟩) ∧ Below w.heap.size w w')
    (k2 : ∀ w, Calls Tryd.prog 33 #[.string ⟨X.toArray⟩, .string ⟨#[45]⟩] w fun e w' => e = .returned (.tuple #[.string ⟨T.toArray⟩, .bool true]) ∧ w' = w)
    (hH : H.length ≤ 100)
    (k3 : ∀ w, Calls Tryd.prog 37 #[.string ⟨#[48]⟩, .int .i64 (7 - (T.length : Int))] w fun e w' => e = .returned (.string ⟨(List.replicate (7 - T.length) 48).toArray⟩) ∧ Below w.heap.size w w')
    (k4 : ∀ w, Calls Tryd.prog 41 #[.string ⟨F.toArray⟩, .string ⟨#[48]⟩] w fun e w' => e = .returned (.string ⟨([] : List UInt8).toArray⟩) ∧ w' = w)
    (e0 : (⟨Array.replicate (7 - T.length) 48⟩ ++ ⟨T.toArray⟩ : ByteArray).extract 0 (7 - T.length + T.length - 6) = ⟨H.toArray⟩) (e1 : (⟨Array.replicate (7 - T.length) 48⟩ ++ ⟨T.toArray⟩ : ByteArray).extract (7 - T.length + T.length - 6) (7 - T.length + T.length) = ⟨F.toArray⟩)
    (w : World) : Calls Tryd.prog 20 #[.agg #[.int .i64 a, .int .u64 b]] w fun e w' => e = .returned (.string ⟨(45 :: H).toArray⟩) ∧ Below w.heap.size w w' := by
  have E0 := hide e0
  have E1 := hide e1
  clear e0 e1
  go_enter Tryd.func20, Tryd.ntmps20
  go_wp2_with fail
  refine (k1 _).mono ?_
  rintro e w1 ⟨rfl, h1⟩
  have B1 : Below w.heap.size w w1 := Below.trans (by go_grown) (h1.mono (by first | (simp; done) | omega | (simp; omega)))
  clear h1 k1
  go_wp2_with fail
  refine (k2 _).mono ?_
  rintro e w2 ⟨rfl, rfl⟩
  clear k2
  go_wp2_with fail
  refine (k3 _).mono ?_
  rintro e w3 ⟨rfl, h3⟩
  have B3 : Below w.heap.size w w3 := B1.trans (h3.mono B1.size)
  clear h3 k3 B1
  go_wp2_with fail
  rw [E0.out, E1.out]
  refine (k4 _).mono ?_
  rintro e w4 ⟨rfl, rfl⟩
  clear k4
  go_wp2_with fail
  go_returns
  refine ⟨?_, by assumption⟩
  first | rfl | (simp; done) | (apply congrArg; apply congrArg; apply ByteArray.ext; simp; done)
set_option maxRecDepth 100000 in
set_option maxHeartbeats 2000000 in
theorem show_short_zero_pos (a b : Int) (X T H F : List UInt8) (hT : T.length ≤ 6)
    (k1 : ∀ w, Calls Tryd.prog 40 #[.agg #[.int .i64 a, .int .u64 b]] w fun e w' => e = .returned (.string ⟨X.toArray⟩) ∧ Below w.heap.size w w')
    (k2 : ∀ w, Calls Tryd.prog 33 #[.string ⟨X.toArray⟩, .string ⟨#[45]⟩] w fun e w' => e = .returned (.tuple #[.string ⟨T.toArray⟩, .bool false]) ∧ w' = w)
    (hH : H.length ≤ 100)
    (k3 : ∀ w, Calls Tryd.prog 37 #[.string ⟨#[48]⟩, .int .i64 (7 - (T.length : Int))] w fun e w' => e = .returned (.string ⟨(List.replicate (7 - T.length) 48).toArray⟩) ∧ Below w.heap.size w w')
    (k4 : ∀ w, Calls Tryd.prog 41 #[.string ⟨F.toArray⟩, .string ⟨#[48]⟩] w fun e w' => e = .returned (.string ⟨([] : List UInt8).toArray⟩) ∧ w' = w)
    (e0 : (⟨Array.replicate (7 - T.length) 48⟩ ++ ⟨T.toArray⟩ : ByteArray).extract 0 (7 - T.length + T.length - 6) = ⟨H.toArray⟩) (e1 : (⟨Array.replicate (7 - T.length) 48⟩ ++ ⟨T.toArray⟩ : ByteArray).extract (7 - T.length + T.length - 6) (7 - T.length + T.length) = ⟨F.toArray⟩)
    (w : World) : Calls Tryd.prog 20 #[.agg #[.int .i64 a, .int .u64 b]] w fun e w' => e = .returned (.string ⟨H.toArray⟩) ∧ Below w.heap.size w w' := by
  have E0 := hide e0
  have E1 := hide e1
  clear e0 e1
  go_enter Tryd.func20, Tryd.ntmps20
  go_wp2_with fail
  refine (k1 _).mono ?_
  rintro e w1 ⟨rfl, h1⟩
  have B1 : Below w.heap.size w w1 := Below.trans (by go_grown) (h1.mono (by first | (simp; done) | omega | (simp; omega)))
  clear h1 k1
  go_wp2_with fail
  refine (k2 _).mono ?_
  rintro e w2 ⟨rfl, rfl⟩
  clear k2
  go_wp2_with fail
  refine (k3 _).mono ?_
  rintro e w3 ⟨rfl, h3⟩
  have B3 : Below w.heap.size w w3 := B1.trans (h3.mono B1.size)
  clear h3 k3 B1
  go_wp2_with fail
  rw [E0.out, E1.out]
  refine (k4 _).mono ?_
  rintro e w4 ⟨rfl, rfl⟩
  clear k4
  go_wp2_with fail
  go_returns
  refine ⟨?_, by assumption⟩
  first | rfl | (simp; done) | (apply congrArg; apply congrArg; apply ByteArray.ext; simp; done)
set_option maxRecDepth 100000 in
set_option maxHeartbeats 2000000 in
theorem show_short_some_neg (a b : Int) (X T H F Z : List UInt8) (hT : T.length ≤ 6)
    (k1 : ∀ w, Calls Tryd.prog 40 #[.agg #[.int .i64 a, .int .u64 b]] w fun e w' => e = .returned (.string ⟨X.toArray⟩) ∧ Below w.heap.size w w')
    (k2 : ∀ w, Calls Tryd.prog 33 #[.string ⟨X.toArray⟩, .string ⟨#[45]⟩] w fun e w' => e = .returned (.tuple #[.string ⟨T.toArray⟩, .bool true]) ∧ w' = w)
    (hH : H.length ≤ 100)
    (hZ : Z.length ≤ 100) (z1 : ¬ Z = []) (z2 : Z.isEmpty = false)
    (k3 : ∀ w, Calls Tryd.prog 37 #[.string ⟨#[48]⟩, .int .i64 (7 - (T.length : Int))] w fun e w' => e = .returned (.string ⟨(List.replicate (7 - T.length) 48).toArray⟩) ∧ Below w.heap.size w w')
    (k4 : ∀ w, Calls Tryd.prog 41 #[.string ⟨F.toArray⟩, .string ⟨#[48]⟩] w fun e w' => e = .returned (.string ⟨Z.toArray⟩) ∧ w' = w)
    (e0 : (⟨Array.replicate (7 - T.length) 48⟩ ++ ⟨T.toArray⟩ : ByteArray).extract 0 (7 - T.length + T.length - 6) = ⟨H.toArray⟩) (e1 : (⟨Array.replicate (7 - T.length) 48⟩ ++ ⟨T.toArray⟩ : ByteArray).extract (7 - T.length + T.length - 6) (7 - T.length + T.length) = ⟨F.toArray⟩)
    (w : World) : Calls Tryd.prog 20 #[.agg #[.int .i64 a, .int .u64 b]] w fun e w' => e = .returned (.string ⟨(45 :: (H ++ (46 :: Z))).toArray⟩) ∧ Below w.heap.size w w' := by
  have E0 := hide e0
  have E1 := hide e1
  clear e0 e1
  go_enter Tryd.func20, Tryd.ntmps20
  go_wp2_with fail
  refine (k1 _).mono ?_
  rintro e w1 ⟨rfl, h1⟩
  have B1 : Below w.heap.size w w1 := Below.trans (by go_grown) (h1.mono (by first | (simp; done) | omega | (simp; omega)))
  clear h1 k1
  go_wp2_with fail
  refine (k2 _).mono ?_
  rintro e w2 ⟨rfl, rfl⟩
  clear k2
  go_wp2_with fail
  refine (k3 _).mono ?_
  rintro e w3 ⟨rfl, h3⟩
  have B3 : Below w.heap.size w w3 := B1.trans (h3.mono B1.size)
  clear h3 k3 B1
  go_wp2_with fail
  rw [E0.out, E1.out]
  refine (k4 _).mono ?_
  rintro e w4 ⟨rfl, rfl⟩
  clear k4
  go_wp2_with fail
  go_returns
  refine ⟨?_, by assumption⟩
  first | rfl | (simp; done) | (apply congrArg; apply congrArg; apply ByteArray.ext; simp; done)
set_option maxRecDepth 100000 in
set_option maxHeartbeats 2000000 in
theorem show_short_some_pos (a b : Int) (X T H F Z : List UInt8) (hT : T.length ≤ 6)
    (k1 : ∀ w, Calls Tryd.prog 40 #[.agg #[.int .i64 a, .int .u64 b]] w fun e w' => e = .returned (.string ⟨X.toArray⟩) ∧ Below w.heap.size w w')
    (k2 : ∀ w, Calls Tryd.prog 33 #[.string ⟨X.toArray⟩, .string ⟨#[45]⟩] w fun e w' => e = .returned (.tuple #[.string ⟨T.toArray⟩, .bool false]) ∧ w' = w)
    (hH : H.length ≤ 100)
    (hZ : Z.length ≤ 100) (z1 : ¬ Z = []) (z2 : Z.isEmpty = false)
    (k3 : ∀ w, Calls Tryd.prog 37 #[.string ⟨#[48]⟩, .int .i64 (7 - (T.length : Int))] w fun e w' => e = .returned (.string ⟨(List.replicate (7 - T.length) 48).toArray⟩) ∧ Below w.heap.size w w')
    (k4 : ∀ w, Calls Tryd.prog 41 #[.string ⟨F.toArray⟩, .string ⟨#[48]⟩] w fun e w' => e = .returned (.string ⟨Z.toArray⟩) ∧ w' = w)
    (e0 : (⟨Array.replicate (7 - T.length) 48⟩ ++ ⟨T.toArray⟩ : ByteArray).extract 0 (7 - T.length + T.length - 6) = ⟨H.toArray⟩) (e1 : (⟨Array.replicate (7 - T.length) 48⟩ ++ ⟨T.toArray⟩ : ByteArray).extract (7 - T.length + T.length - 6) (7 - T.length + T.length) = ⟨F.toArray⟩)
    (w : World) : Calls Tryd.prog 20 #[.agg #[.int .i64 a, .int .u64 b]] w fun e w' => e = .returned (.string ⟨(H ++ (46 :: Z)).toArray⟩) ∧ Below w.heap.size w w' := by
  have E0 := hide e0
  have E1 := hide e1
  clear e0 e1
  go_enter Tryd.func20, Tryd.ntmps20
  go_wp2_with fail
  refine (k1 _).mono ?_
  rintro e w1 ⟨rfl, h1⟩
  have B1 : Below w.heap.size w w1 := Below.trans (by go_grown) (h1.mono (by first | (simp; done) | omega | (simp; omega)))
  clear h1 k1
  go_wp2_with fail
  refine (k2 _).mono ?_
  rintro e w2 ⟨rfl, rfl⟩
  clear k2
  go_wp2_with fail
  refine (k3 _).mono ?_
  rintro e w3 ⟨rfl, h3⟩
  have B3 : Below w.heap.size w w3 := B1.trans (h3.mono B1.size)
  clear h3 k3 B1
  go_wp2_with fail
  rw [E0.out, E1.out]
  refine (k4 _).mono ?_
  rintro e w4 ⟨rfl, rfl⟩
  clear k4
  go_wp2_with fail
  go_returns
  refine ⟨?_, by assumption⟩
  first | rfl | (simp; done) | (apply congrArg; apply congrArg; apply ByteArray.ext; simp; done)
set_option maxRecDepth 100000 in
set_option maxHeartbeats 2000000 in
theorem show_long_zero_neg (a b : Int) (X T H F : List UInt8) (hT : 6 < T.length) (hT2 : T.length ≤ 100)
    (k1 : ∀ w, Calls Tryd.prog 40 #[.agg #[.int .i64 a, .int .u64 b]] w fun e w' => e = .returned (.string ⟨X.toArray⟩) ∧ Below w.heap.size w w')
    (k2 : ∀ w, Calls Tryd.prog 33 #[.string ⟨X.toArray⟩, .string ⟨#[45]⟩] w fun e w' => e = .returned (.tuple #[.string ⟨T.toArray⟩, .bool true]) ∧ w' = w)
    (hH : H.length ≤ 100)
    (k4 : ∀ w, Calls Tryd.prog 41 #[.string ⟨F.toArray⟩, .string ⟨#[48]⟩] w fun e w' => e = .returned (.string ⟨([] : List UInt8).toArray⟩) ∧ w' = w)
    (e0 : (⟨T.toArray⟩ : ByteArray).extract 0 (T.length - 6) = ⟨H.toArray⟩) (e1 : (⟨T.toArray⟩ : ByteArray).extract (T.length - 6) (T.length) = ⟨F.toArray⟩)
    (w : World) : Calls Tryd.prog 20 #[.agg #[.int .i64 a, .int .u64 b]] w fun e w' => e = .returned (.string ⟨(45 :: H).toArray⟩) ∧ Below w.heap.size w w' := by
  have E0 := hide e0
  have E1 := hide e1
  clear e0 e1
  go_enter Tryd.func20, Tryd.ntmps20
  go_wp2_with fail
  refine (k1 _).mono ?_
  rintro e w1 ⟨rfl, h1⟩
  have B1 : Below w.heap.size w w1 := Below.trans (by go_grown) (h1.mono (by first | (simp; done) | omega | (simp; omega)))
  clear h1 k1
  go_wp2_with fail
  refine (k2 _).mono ?_
  rintro e w2 ⟨rfl, rfl⟩
  clear k2
  go_wp2_with fail
  rw [E0.out, E1.out]
  refine (k4 _).mono ?_
  rintro e w4 ⟨rfl, rfl⟩
  clear k4
  go_wp2_with fail
  go_returns
  refine ⟨?_, by assumption⟩
  first | rfl | (simp; done) | (apply congrArg; apply congrArg; apply ByteArray.ext; simp; done)
set_option maxRecDepth 100000 in
set_option maxHeartbeats 2000000 in
theorem show_long_zero_pos (a b : Int) (X T H F : List UInt8) (hT : 6 < T.length) (hT2 : T.length ≤ 100)
    (k1 : ∀ w, Calls Tryd.prog 40 #[.agg #[.int .i64 a, .int .u64 b]] w fun e w' => e = .returned (.string ⟨X.toArray⟩) ∧ Below w.heap.size w w')
    (k2 : ∀ w, Calls Tryd.prog 33 #[.string ⟨X.toArray⟩, .string ⟨#[45]⟩] w fun e w' => e = .returned (.tuple #[.string ⟨T.toArray⟩, .bool false]) ∧ w' = w)
    (hH : H.length ≤ 100)
    (k4 : ∀ w, Calls Tryd.prog 41 #[.string ⟨F.toArray⟩, .string ⟨#[48]⟩] w fun e w' => e = .returned (.string ⟨([] : List UInt8).toArray⟩) ∧ w' = w)
    (e0 : (⟨T.toArray⟩ : ByteArray).extract 0 (T.length - 6) = ⟨H.toArray⟩) (e1 : (⟨T.toArray⟩ : ByteArray).extract (T.length - 6) (T.length) = ⟨F.toArray⟩)
    (w : World) : Calls Tryd.prog 20 #[.agg #[.int .i64 a, .int .u64 b]] w fun e w' => e = .returned (.string ⟨H.toArray⟩) ∧ Below w.heap.size w w' := by
  have E0 := hide e0
  have E1 := hide e1
  clear e0 e1
  go_enter Tryd.func20, Tryd.ntmps20
  go_wp2_with fail
  refine (k1 _).mono ?_
  rintro e w1 ⟨rfl, h1⟩
  have B1 : Below w.heap.size w w1 := Below.trans (by go_grown) (h1.mono (by first | (simp; done) | omega | (simp; omega)))
  clear h1 k1
  go_wp2_with fail
  refine (k2 _).mono ?_
  rintro e w2 ⟨rfl, rfl⟩
  clear k2
  go_wp2_with fail
  rw [E0.out, E1.out]
  refine (k4 _).mono ?_
  rintro e w4 ⟨rfl, rfl⟩
  clear k4
  go_wp2_with fail
  go_returns
  refine ⟨?_, by assumption⟩
  first | rfl | (simp; done) | (apply congrArg; apply congrArg; apply ByteArray.ext; simp; done)
set_option maxRecDepth 100000 in
set_option maxHeartbeats 2000000 in
theorem show_long_some_neg (a b : Int) (X T H F Z : List UInt8) (hT : 6 < T.length) (hT2 : T.length ≤ 100)
    (k1 : ∀ w, Calls Tryd.prog 40 #[.agg #[.int .i64 a, .int .u64 b]] w fun e w' => e = .returned (.string ⟨X.toArray⟩) ∧ Below w.heap.size w w')
    (k2 : ∀ w, Calls Tryd.prog 33 #[.string ⟨X.toArray⟩, .string ⟨#[45]⟩] w fun e w' => e = .returned (.tuple #[.string ⟨T.toArray⟩, .bool true]) ∧ w' = w)
    (hH : H.length ≤ 100)
    (hZ : Z.length ≤ 100) (z1 : ¬ Z = []) (z2 : Z.isEmpty = false)
    (k4 : ∀ w, Calls Tryd.prog 41 #[.string ⟨F.toArray⟩, .string ⟨#[48]⟩] w fun e w' => e = .returned (.string ⟨Z.toArray⟩) ∧ w' = w)
    (e0 : (⟨T.toArray⟩ : ByteArray).extract 0 (T.length - 6) = ⟨H.toArray⟩) (e1 : (⟨T.toArray⟩ : ByteArray).extract (T.length - 6) (T.length) = ⟨F.toArray⟩)
    (w : World) : Calls Tryd.prog 20 #[.agg #[.int .i64 a, .int .u64 b]] w fun e w' => e = .returned (.string ⟨(45 :: (H ++ (46 :: Z))).toArray⟩) ∧ Below w.heap.size w w' := by
  have E0 := hide e0
  have E1 := hide e1
  clear e0 e1
  go_enter Tryd.func20, Tryd.ntmps20
  go_wp2_with fail
  refine (k1 _).mono ?_
  rintro e w1 ⟨rfl, h1⟩
  have B1 : Below w.heap.size w w1 := Below.trans (by go_grown) (h1.mono (by first | (simp; done) | omega | (simp; omega)))
  clear h1 k1
  go_wp2_with fail
  refine (k2 _).mono ?_
  rintro e w2 ⟨rfl, rfl⟩
  clear k2
  go_wp2_with fail
  rw [E0.out, E1.out]
  refine (k4 _).mono ?_
  rintro e w4 ⟨rfl, rfl⟩
  clear k4
  go_wp2_with fail
  go_returns
  refine ⟨?_, by assumption⟩
  first | rfl | (simp; done) | (apply congrArg; apply congrArg; apply ByteArray.ext; simp; done)
set_option maxRecDepth 100000 in
set_option maxHeartbeats 2000000 in
theorem show_long_some_pos (a b : Int) (X T H F Z : List UInt8) (hT : 6 < T.length) (hT2 : T.length ≤ 100)
    (k1 : ∀ w, Calls Tryd.prog 40 #[.agg #[.int .i64 a, .int .u64 b]] w fun e w' => e = .returned (.string ⟨X.toArray⟩) ∧ Below w.heap.size w w')
    (k2 : ∀ w, Calls Tryd.prog 33 #[.string ⟨X.toArray⟩, .string ⟨#[45]⟩] w fun e w' => e = .returned (.tuple #[.string ⟨T.toArray⟩, .bool false]) ∧ w' = w)
    (hH : H.length ≤ 100)
    (hZ : Z.length ≤ 100) (z1 : ¬ Z = []) (z2 : Z.isEmpty = false)
    (k4 : ∀ w, Calls Tryd.prog 41 #[.string ⟨F.toArray⟩, .string ⟨#[48]⟩] w fun e w' => e = .returned (.string ⟨Z.toArray⟩) ∧ w' = w)
    (e0 : (⟨T.toArray⟩ : ByteArray).extract 0 (T.length - 6) = ⟨H.toArray⟩) (e1 : (⟨T.toArray⟩ : ByteArray).extract (T.length - 6) (T.length) = ⟨F.toArray⟩)
    (w : World) : Calls Tryd.prog 20 #[.agg #[.int .i64 a, .int .u64 b]] w fun e w' => e = .returned (.string ⟨(H ++ (46 :: Z)).toArray⟩) ∧ Below w.heap.size w w' := by
  have E0 := hide e0
  have E1 := hide e1
  clear e0 e1
  go_enter Tryd.func20, Tryd.ntmps20
  go_wp2_with fail
  refine (k1 _).mono ?_
  rintro e w1 ⟨rfl, h1⟩
  have B1 : Below w.heap.size w w1 := Below.trans (by go_grown) (h1.mono (by first | (simp; done) | omega | (simp; omega)))
  clear h1 k1
  go_wp2_with fail
  refine (k2 _).mono ?_
  rintro e w2 ⟨rfl, rfl⟩
  clear k2
  go_wp2_with fail
  rw [E0.out, E1.out]
  refine (k4 _).mono ?_
  rintro e w4 ⟨rfl, rfl⟩
  clear k4
  go_wp2_with fail
  go_returns
  refine ⟨?_, by assumption⟩
  first | rfl | (simp; done) | (apply congrArg; apply congrArg; apply ByteArray.ext; simp; done)
theorem ba_ext {x : ByteArray} {l : List UInt8} (h : x.data.toList = l) : x = ⟨l.toArray⟩ := by
  apply ByteArray.ext; rw [← h]
theorem ext_all (l : List UInt8) (i n : Nat) (h : n = l.length) : (⟨l.toArray⟩ : ByteArray).extract i n = ⟨(l.drop i).toArray⟩ := by
  subst h
  refine ba_ext ?_
  simp only [ByteArray.data_extract, Array.toList_extract, List.extract_eq_take_drop]
  exact List.take_of_length_le (by simp)
theorem ext_head (l : List UInt8) (n : Nat) : (⟨l.toArray⟩ : ByteArray).extract 0 n = ⟨(l.take n).toArray⟩ := by
  refine ba_ext ?_
  simp
theorem cat_arr (n : Nat) (T : List UInt8) : (⟨Array.replicate n 48⟩ ++ ⟨T.toArray⟩ : ByteArray) = ⟨(List.replicate n 48 ++ T).toArray⟩ := by
  refine ba_ext ?_
  simp
theorem rep_one (c : UInt8) (n : Nat) : Lib.repeatL [c] n = List.replicate n c := by
  induction n with
  | zero => rfl
  | succ n ih => simp [Lib.repeatL, ih, List.replicate_succ]
/-- Seven digits at least. -/
def pad7 (l : List UInt8) : List UInt8 := List.replicate (7 - l.length) 48 ++ l
theorem pad7_len (l : List UInt8) : (pad7 l).length = max 7 l.length := by unfold pad7; simp; omega
/-- What stands ahead of the point, and behind it. -/
def whole (n : Nat) : List UInt8 := (pad7 (Dc.dec n)).take ((pad7 (Dc.dec n)).length - 6)
def behind (n : Nat) : List UInt8 := Lib.trimRightB ((pad7 (Dc.dec n)).drop ((pad7 (Dc.dec n)).length - 6)) 48
def showA (n : Nat) : List UInt8 := if behind n = [] then whole n else whole n ++ (46 :: behind n)
/-- A wide micro-value as a decimal. -/
def showT (v : Int) : List UInt8 := if v < 0 then 45 :: showA v.natAbs else showA v.natAbs
theorem trimR_len (l : List UInt8) (c : UInt8) : (Lib.trimRightB l c).length ≤ l.length := by
  unfold Lib.trimRightB
  rw [List.length_reverse]
  have := (List.dropWhile_sublist (l := l.reverse) (fun x => x == c)).length_le
  simpa using this
theorem cut_neg (v : Int) : Lib.hasPrefix (txt v) [45] = decide (v < 0) ∧ Lib.trimPrefix (txt v) [45] = Dc.dec v.natAbs := by
  obtain ⟨c, r, e, n1, n2⟩ := dec_head v.natAbs
  by_cases h : v < 0
  · have t : txt v = 45 :: Dc.dec v.natAbs := by unfold txt; rw [if_pos h]
    rw [t]
    have p : Lib.hasPrefix (45 :: Dc.dec v.natAbs) [45] = true := by simp [Lib.hasPrefix]
    exact ⟨by rw [p, decide_eq_true h], by unfold Lib.trimPrefix; rw [p]; rfl⟩
  · have t : txt v = Dc.dec v.natAbs := by unfold txt; rw [if_neg h]
    rw [t]
    have p : Lib.hasPrefix (Dc.dec v.natAbs) [45] = false := by rw [e]; show ([45].isPrefixOf (c :: r)) = false; simp [List.isPrefixOf]; exact fun h => n1 h.symm
    exact ⟨by rw [p, decide_eq_false h], by unfold Lib.trimPrefix; rw [p]; rfl⟩
theorem show_spec (a b : Int) (i : IsW (a, b)) (w : World) :
    Calls Tryd.prog 20 #[.agg #[.int .i64 a, .int .u64 b]] w fun e w' => e = .returned (.string ⟨(showT (V a b)).toArray⟩) ∧ Below w.heap.size w w' := by
  obtain ⟨v, hv⟩ : ∃ v, v = V a b := ⟨_, rfl⟩
  have k1 := print_spec a b i
  rw [← hv] at k1 ⊢
  have f : Fits v := by rw [hv]; exact fits_V i.a i.b
  have nb : v.natAbs < 10 ^ 39 := by obtain ⟨_, _⟩ := f; omega
  have dl := dec_len nb
  obtain ⟨c1, c2⟩ := cut_neg v
  have k2 := fun w' => Tryd.strings_CutPrefix ⟨(txt v).toArray⟩ ⟨#[45]⟩ w'
  simp only [show (⟨(txt v).toArray⟩ : ByteArray).data.toList = txt v from rfl, show (⟨#[45]⟩ : ByteArray).data.toList = [45] from rfl, c1, c2] at k2
  obtain ⟨T, hT⟩ : ∃ T, T = Dc.dec v.natAbs := ⟨_, rfl⟩
  have k3 : T.length ≤ 6 → ∀ w, Calls Tryd.prog 37 #[.string ⟨#[48]⟩, .int .i64 (7 - (T.length : Int))] w fun e w' => e = .returned (.string ⟨(List.replicate (7 - T.length) 48).toArray⟩) ∧ Below w.heap.size w w' := by
    intro h w
    have k := Tryd.strings_Repeat ⟨#[48]⟩ (7 - T.length) w (by omega) (by show 1 * (7 - T.length) ≤ _; omega)
    rw [show (⟨#[48]⟩ : ByteArray).data.toList = [48] from rfl, rep_one] at k
    rw [show (7 - (T.length : Int)) = ((7 - T.length : Nat) : Int) by omega]
    exact k
  have k4 := fun w' => Tryd.strings_TrimRight_one ⟨((pad7 T).drop ((pad7 T).length - 6)).toArray⟩ 48 (by decide) w' (by show (List.toArray _).size ≤ _; have := pad7_len T; simp; omega)
  simp only [show (⟨((pad7 T).drop ((pad7 T).length - 6)).toArray⟩ : ByteArray).data.toList = (pad7 T).drop ((pad7 T).length - 6) from rfl] at k4
  have pl := pad7_len T
  rw [← hT] at dl k2
  have hs : showT v = if v < 0 then 45 :: (if Lib.trimRightB ((pad7 T).drop ((pad7 T).length - 6)) 48 = [] then (pad7 T).take ((pad7 T).length - 6) else (pad7 T).take ((pad7 T).length - 6) ++ (46 :: Lib.trimRightB ((pad7 T).drop ((pad7 T).length - 6)) 48)) else (if Lib.trimRightB ((pad7 T).drop ((pad7 T).length - 6)) 48 = [] then (pad7 T).take ((pad7 T).length - 6) else (pad7 T).take ((pad7 T).length - 6) ++ (46 :: Lib.trimRightB ((pad7 T).drop ((pad7 T).length - 6)) 48)) := by
    rw [hT]; rfl
  rw [hs]
  have zl := trimR_len ((pad7 T).drop ((pad7 T).length - 6)) 48
  obtain ⟨H, hH⟩ : ∃ H, H = (pad7 T).take ((pad7 T).length - 6) := ⟨_, rfl⟩
  obtain ⟨F, hF⟩ : ∃ F, F = (pad7 T).drop ((pad7 T).length - 6) := ⟨_, rfl⟩
  obtain ⟨Z, hZ⟩ : ∃ Z, Z = Lib.trimRightB F 48 := ⟨_, rfl⟩
  rw [← hF, ← hZ, ← hH]
  rw [← hF] at k4 zl
  rw [← hZ] at zl
  simp only [← hZ] at k4
  have fl : F.length ≤ 100 := by rw [hF]; simp; omega
  have hl : H.length ≤ 100 := by rw [hH]; simp; omega
  by_cases sh : T.length ≤ 6
  · have e0 : ((⟨Array.replicate (7 - T.length) 48⟩ ++ ⟨T.toArray⟩ : ByteArray)).extract 0 (7 - T.length + T.length - 6) = ⟨H.toArray⟩ := by
      rw [cat_arr, ext_head, hH, pl]; unfold pad7
      rw [show 7 - T.length + T.length - 6 = max 7 T.length - 6 by omega]
    have e1 : ((⟨Array.replicate (7 - T.length) 48⟩ ++ ⟨T.toArray⟩ : ByteArray)).extract (7 - T.length + T.length - 6) (7 - T.length + T.length) = ⟨F.toArray⟩ := by
      rw [cat_arr, ext_all _ _ _ (by simp), hF, pl]; unfold pad7
      rw [show 7 - T.length + T.length - 6 = max 7 T.length - 6 by omega]
    have k3' := k3 sh
    by_cases n : v < 0
    · rw [decide_eq_true n] at k2
      rw [if_pos n]
      by_cases z : Z = []
      · rw [if_pos z]; rw [z] at k4
        exact show_short_zero_neg a b (txt v) T H F sh k1 k2 hl k3' k4 e0 e1 w
      · rw [if_neg z]
        exact show_short_some_neg a b (txt v) T H F Z sh k1 k2 hl (by omega) z (by simpa using z) k3' k4 e0 e1 w
    · rw [decide_eq_false n] at k2
      rw [if_neg n]
      by_cases z : Z = []
      · rw [if_pos z]; rw [z] at k4
        exact show_short_zero_pos a b (txt v) T H F sh k1 k2 hl k3' k4 e0 e1 w
      · rw [if_neg z]
        exact show_short_some_pos a b (txt v) T H F Z sh k1 k2 hl (by omega) z (by simpa using z) k3' k4 e0 e1 w
  · have pe : pad7 T = T := by unfold pad7; rw [show 7 - T.length = 0 by omega]; rfl
    rw [pe] at hH hF
    have e0 : (⟨T.toArray⟩ : ByteArray).extract 0 (T.length - 6) = ⟨H.toArray⟩ := by
      rw [ext_head, hH]
    have e1 : (⟨T.toArray⟩ : ByteArray).extract (T.length - 6) T.length = ⟨F.toArray⟩ := by
      rw [ext_all _ _ _ rfl, hF]
    by_cases n : v < 0
    · rw [decide_eq_true n] at k2
      rw [if_pos n]
      by_cases z : Z = []
      · rw [if_pos z]; rw [z] at k4
        exact show_long_zero_neg a b (txt v) T H F (by omega) (by omega) k1 k2 hl k4 e0 e1 w
      · rw [if_neg z]
        exact show_long_some_neg a b (txt v) T H F Z (by omega) (by omega) k1 k2 hl (by omega) z (by simpa using z) k4 e0 e1 w
    · rw [decide_eq_false n] at k2
      rw [if_neg n]
      by_cases z : Z = []
      · rw [if_pos z]; rw [z] at k4
        exact show_long_zero_pos a b (txt v) T H F (by omega) (by omega) k1 k2 hl k4 e0 e1 w
      · rw [if_neg z]
        exact show_long_some_pos a b (txt v) T H F Z (by omega) (by omega) k1 k2 hl (by omega) z (by simpa using z) k4 e0 e1 w
end Go.Proofs.YtdjehbagnkfkpaaDoor
