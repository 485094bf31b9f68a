/- micro: Read. (gen_mread.py) -/
import Derived.Test.YtdjehbagnkfkpaaDoorWtxt
import Derived.Test.YtdjehbagnkfkpaaDoorMdig
import Derived.Test.YtdjehbagnkfkpaaDoorMcut
namespace Go.Proofs.YtdjehbagnkfkpaaDoor
set_option linter.unusedVariables false
set_option linter.unusedSimpArgs false
open Go.RowKit W
set_option maxRecDepth 100000 in
set_option maxHeartbeats 2000000 in
theorem read_bad1 (s : ByteArray) (A V F : List UInt8) (neg P : Bool)
    (k1 : ∀ w, Calls Tryd.prog 33 #[.string s, .string ⟨#[45]⟩] w fun e w' => e = .returned (.tuple #[.string ⟨A.toArray⟩, .bool neg]) ∧ w' = w)
    (k2 : ∀ w, Calls Tryd.prog 34 #[.string ⟨A.toArray⟩, .string ⟨#[46]⟩] w fun e w' => e = .returned (.tuple #[.string ⟨V.toArray⟩, .string ⟨F.toArray⟩, .bool P]) ∧ Below w.heap.size w w')
    (k3 : ∀ w, Calls Tryd.prog 35 #[.string ⟨V.toArray⟩] w fun e w' => e = .returned (.bool false) ∧ Below w.heap.size w w')
    (w : World) : Calls Tryd.prog 18 #[.string s] w fun e w' => e = .returned (.tuple #[.agg #[.int .i64 0, .int .u64 0], .int .i64 20]) ∧ Below w.heap.size w w' := by
  go_enter Tryd.func18, Tryd.ntmps18
  go_wp2_with fail
  refine (k1 _).mono ?_
  rintro e w1 ⟨rfl, rfl⟩
  clear k1
  go_wp2_with fail
  refine (k2 _).mono ?_
  rintro e w2 ⟨rfl, h2⟩
  have r2 := box2 h2 w.heap.size (.int .i64 0) (.int .u64 0) (by first | assumption | (simp [go_sem]; done)) (by first | assumption | (simp [go_sem]; done)) (by first | assumption | (simp [go_sem]; done)) (by first | assumption | (simp [go_sem]; done)) (by first | assumption | omega | (simp; done))
  have B2 : Below w.heap.size w w2 := Below.trans (by go_grown) (h2.mono (by first | (simp; done) | omega | (simp; omega)))
  obtain ⟨rx, ry, fx, fy, rz⟩ := r2
  have y2 := B2.size
  clear h2 k2
  go_wp2_with fail
  refine (k3 _).mono ?_
  rintro e w3 ⟨rfl, h3⟩
  have r3 := box2 h3 w.heap.size (.int .i64 0) (.int .u64 0) (by first | assumption | (simp [go_sem]; done)) (by first | assumption | (simp [go_sem]; done)) (by first | assumption | (simp [go_sem]; done)) (by first | assumption | (simp [go_sem]; done)) (by first | assumption | omega | (simp; done))
  have B3 : Below w.heap.size w w3 := Below.trans (by go_grown) (h3.mono (by first | (simp; done) | omega | (simp; omega)))
  clear rx ry fx fy rz
  obtain ⟨rx, ry, fx, fy, rz⟩ := r3
  have y3 := B3.size
  clear h3 k3
  go_wp2_with fail
  refine bodyPost_ret (by simp [results, Tryd.results18, go_sem, rx, ry, fx, fy, rz]; try rfl) rfl ?_
  exact ⟨rfl, by go_grown⟩
set_option maxRecDepth 100000 in
set_option maxHeartbeats 2000000 in
theorem read_bad2 (s : ByteArray) (A V F : List UInt8) (neg : Bool)
    (k1 : ∀ w, Calls Tryd.prog 33 #[.string s, .string ⟨#[45]⟩] w fun e w' => e = .returned (.tuple #[.string ⟨A.toArray⟩, .bool neg]) ∧ w' = w)
    (k2 : ∀ w, Calls Tryd.prog 34 #[.string ⟨A.toArray⟩, .string ⟨#[46]⟩] w fun e w' => e = .returned (.tuple #[.string ⟨V.toArray⟩, .string ⟨F.toArray⟩, .bool true]) ∧ Below w.heap.size w w')
    (k3 : ∀ w, Calls Tryd.prog 35 #[.string ⟨V.toArray⟩] w fun e w' => e = .returned (.bool true) ∧ Below w.heap.size w w')
    (k4 : ∀ w, Calls Tryd.prog 35 #[.string ⟨F.toArray⟩] w fun e w' => e = .returned (.bool false) ∧ Below w.heap.size w w')
    (w : World) : Calls Tryd.prog 18 #[.string s] w fun e w' => e = .returned (.tuple #[.agg #[.int .i64 0, .int .u64 0], .int .i64 20]) ∧ Below w.heap.size w w' := by
  go_enter Tryd.func18, Tryd.ntmps18
  go_wp2_with fail
  refine (k1 _).mono ?_
  rintro e w1 ⟨rfl, rfl⟩
  clear k1
  go_wp2_with fail
  refine (k2 _).mono ?_
  rintro e w2 ⟨rfl, h2⟩
  have r2 := box2 h2 w.heap.size (.int .i64 0) (.int .u64 0) (by first | assumption | (simp [go_sem]; done)) (by first | assumption | (simp [go_sem]; done)) (by first | assumption | (simp [go_sem]; done)) (by first | assumption | (simp [go_sem]; done)) (by first | assumption | omega | (simp; done))
  have B2 : Below w.heap.size w w2 := Below.trans (by go_grown) (h2.mono (by first | (simp; done) | omega | (simp; omega)))
  obtain ⟨rx, ry, fx, fy, rz⟩ := r2
  have y2 := B2.size
  clear h2 k2
  go_wp2_with fail
  refine (k3 _).mono ?_
  rintro e w3 ⟨rfl, h3⟩
  have r3 := box2 h3 w.heap.size (.int .i64 0) (.int .u64 0) (by first | assumption | (simp [go_sem]; done)) (by first | assumption | (simp [go_sem]; done)) (by first | assumption | (simp [go_sem]; done)) (by first | assumption | (simp [go_sem]; done)) (by first | assumption | omega | (simp; done))
  have B3 : Below w.heap.size w w3 := Below.trans (by go_grown) (h3.mono (by first | (simp; done) | omega | (simp; omega)))
  clear rx ry fx fy rz
  obtain ⟨rx, ry, fx, fy, rz⟩ := r3
  have y3 := B3.size
  clear h3 k3
  go_wp2_with fail
  refine (k4 _).mono ?_
  rintro e w4 ⟨rfl, h4⟩
  have r4 := box2 h4 w.heap.size (.int .i64 0) (.int .u64 0) (by first | assumption | (simp [go_sem]; done)) (by first | assumption | (simp [go_sem]; done)) (by first | assumption | (simp [go_sem]; done)) (by first | assumption | (simp [go_sem]; done)) (by first | assumption | omega | (simp; done))
  have B4 : Below w.heap.size w w4 := Below.trans (by go_grown) (h4.mono (by first | (simp; done) | omega | (simp; omega)))
  clear rx ry fx fy rz
  obtain ⟨rx, ry, fx, fy, rz⟩ := r4
  have y4 := B4.size
  clear h4 k4
  go_wp2_with fail
  refine bodyPost_ret (by simp [results, Tryd.results18, go_sem, rx, ry, fx, fy, rz]; try rfl) rfl ?_
  exact ⟨rfl, by go_grown⟩
set_option maxRecDepth 100000 in
set_option maxHeartbeats 2000000 in
theorem read_fine_true (s : ByteArray) (A V F : List UInt8) (neg : Bool)
    (k1 : ∀ w, Calls Tryd.prog 33 #[.string s, .string ⟨#[45]⟩] w fun e w' => e = .returned (.tuple #[.string ⟨A.toArray⟩, .bool neg]) ∧ w' = w)
    (k2 : ∀ w, Calls Tryd.prog 34 #[.string ⟨A.toArray⟩, .string ⟨#[46]⟩] w fun e w' => e = .returned (.tuple #[.string ⟨V.toArray⟩, .string ⟨F.toArray⟩, .bool true]) ∧ Below w.heap.size w w')
    (k3 : ∀ w, Calls Tryd.prog 35 #[.string ⟨V.toArray⟩] w fun e w' => e = .returned (.bool true) ∧ Below w.heap.size w w')
    (k4 : ∀ w, Calls Tryd.prog 35 #[.string ⟨F.toArray⟩] w fun e w' => e = .returned (.bool true) ∧ Below w.heap.size w w')
    (hF : 6 < (F.length : Int))
    (w : World) : Calls Tryd.prog 18 #[.string s] w fun e w' => e = .returned (.tuple #[.agg #[.int .i64 0, .int .u64 0], .int .i64 21]) ∧ Below w.heap.size w w' := by
  go_enter Tryd.func18, Tryd.ntmps18
  go_wp2_with fail
  refine (k1 _).mono ?_
  rintro e w1 ⟨rfl, rfl⟩
  clear k1
  go_wp2_with fail
  refine (k2 _).mono ?_
  rintro e w2 ⟨rfl, h2⟩
  have r2 := box2 h2 w.heap.size (.int .i64 0) (.int .u64 0) (by first | assumption | (simp [go_sem]; done)) (by first | assumption | (simp [go_sem]; done)) (by first | assumption | (simp [go_sem]; done)) (by first | assumption | (simp [go_sem]; done)) (by first | assumption | omega | (simp; done))
  have B2 : Below w.heap.size w w2 := Below.trans (by go_grown) (h2.mono (by first | (simp; done) | omega | (simp; omega)))
  obtain ⟨rx, ry, fx, fy, rz⟩ := r2
  have y2 := B2.size
  clear h2 k2
  go_wp2_with fail
  refine (k3 _).mono ?_
  rintro e w3 ⟨rfl, h3⟩
  have r3 := box2 h3 w.heap.size (.int .i64 0) (.int .u64 0) (by first | assumption | (simp [go_sem]; done)) (by first | assumption | (simp [go_sem]; done)) (by first | assumption | (simp [go_sem]; done)) (by first | assumption | (simp [go_sem]; done)) (by first | assumption | omega | (simp; done))
  have B3 : Below w.heap.size w w3 := Below.trans (by go_grown) (h3.mono (by first | (simp; done) | omega | (simp; omega)))
  clear rx ry fx fy rz
  obtain ⟨rx, ry, fx, fy, rz⟩ := r3
  have y3 := B3.size
  clear h3 k3
  go_wp2_with fail
  refine (k4 _).mono ?_
  rintro e w4 ⟨rfl, h4⟩
  have r4 := box2 h4 w.heap.size (.int .i64 0) (.int .u64 0) (by first | assumption | (simp [go_sem]; done)) (by first | assumption | (simp [go_sem]; done)) (by first | assumption | (simp [go_sem]; done)) (by first | assumption | (simp [go_sem]; done)) (by first | assumption | omega | (simp; done))
  have B4 : Below w.heap.size w w4 := Below.trans (by go_grown) (h4.mono (by first | (simp; done) | omega | (simp; omega)))
  clear rx ry fx fy rz
  obtain ⟨rx, ry, fx, fy, rz⟩ := r4
  have y4 := B4.size
  clear h4 k4
  go_wp2_with fail
  refine bodyPost_ret (by simp [results, Tryd.results18, go_sem, rx, ry, fx, fy, rz]; try rfl) rfl ?_
  exact ⟨rfl, by go_grown⟩
set_option maxRecDepth 100000 in
set_option maxHeartbeats 2000000 in
theorem read_zero_true (s : ByteArray) (A V F : List UInt8) (R VF VR : List UInt8) (neg : Bool)
    (k1 : ∀ w, Calls Tryd.prog 33 #[.string s, .string ⟨#[45]⟩] w fun e w' => e = .returned (.tuple #[.string ⟨A.toArray⟩, .bool neg]) ∧ w' = w)
    (k2 : ∀ w, Calls Tryd.prog 34 #[.string ⟨A.toArray⟩, .string ⟨#[46]⟩] w fun e w' => e = .returned (.tuple #[.string ⟨V.toArray⟩, .string ⟨F.toArray⟩, .bool true]) ∧ Below w.heap.size w w')
    (k3 : ∀ w, Calls Tryd.prog 35 #[.string ⟨V.toArray⟩] w fun e w' => e = .returned (.bool true) ∧ Below w.heap.size w w')
    (k4 : ∀ w, Calls Tryd.prog 35 #[.string ⟨F.toArray⟩] w fun e w' => e = .returned (.bool true) ∧ Below w.heap.size w w')
    (hF : (F.length : Int) ≤ 6)
    (k5 : ∀ w, Calls Tryd.prog 37 #[.string ⟨#[48]⟩, .int .i64 (6 - (F.length : Int))] w fun e w' => e = .returned (.string ⟨R.toArray⟩) ∧ Below w.heap.size w w')
    (c1 : ∀ w, (Op.stringOp .add ⟨V.toArray⟩ ⟨F.toArray⟩).run Tryd.prog w = .ok (.string ⟨VF.toArray⟩) w)
    (c2 : ∀ w, (Op.stringOp .add ⟨VF.toArray⟩ ⟨R.toArray⟩).run Tryd.prog w = .ok (.string ⟨VR.toArray⟩) w)
    (k6 : ∀ w, Calls Tryd.prog 36 #[.string ⟨VR.toArray⟩, .string ⟨#[48]⟩] w fun e w' => e = .returned (.string ⟨([] : List UInt8).toArray⟩) ∧ w' = w)
    (w : World) : Calls Tryd.prog 18 #[.string s] w fun e w' => e = .returned (.tuple #[.agg #[.int .i64 0, .int .u64 0], .int .i64 0]) ∧ Below w.heap.size w w' := by
  go_enter Tryd.func18, Tryd.ntmps18
  go_wp2_with fail
  refine (k1 _).mono ?_
  rintro e w1 ⟨rfl, rfl⟩
  clear k1
  go_wp2_with fail
  refine (k2 _).mono ?_
  rintro e w2 ⟨rfl, h2⟩
  have r2 := box2 h2 w.heap.size (.int .i64 0) (.int .u64 0) (by first | assumption | (simp [go_sem]; done)) (by first | assumption | (simp [go_sem]; done)) (by first | assumption | (simp [go_sem]; done)) (by first | assumption | (simp [go_sem]; done)) (by first | assumption | omega | (simp; done))
  have B2 : Below w.heap.size w w2 := Below.trans (by go_grown) (h2.mono (by first | (simp; done) | omega | (simp; omega)))
  obtain ⟨rx, ry, fx, fy, rz⟩ := r2
  have y2 := B2.size
  clear h2 k2
  go_wp2_with fail
  refine (k3 _).mono ?_
  rintro e w3 ⟨rfl, h3⟩
  have r3 := box2 h3 w.heap.size (.int .i64 0) (.int .u64 0) (by first | assumption | (simp [go_sem]; done)) (by first | assumption | (simp [go_sem]; done)) (by first | assumption | (simp [go_sem]; done)) (by first | assumption | (simp [go_sem]; done)) (by first | assumption | omega | (simp; done))
  have B3 : Below w.heap.size w w3 := Below.trans (by go_grown) (h3.mono (by first | (simp; done) | omega | (simp; omega)))
  clear rx ry fx fy rz
  obtain ⟨rx, ry, fx, fy, rz⟩ := r3
  have y3 := B3.size
  clear h3 k3
  go_wp2_with fail
  refine (k4 _).mono ?_
  rintro e w4 ⟨rfl, h4⟩
  have r4 := box2 h4 w.heap.size (.int .i64 0) (.int .u64 0) (by first | assumption | (simp [go_sem]; done)) (by first | assumption | (simp [go_sem]; done)) (by first | assumption | (simp [go_sem]; done)) (by first | assumption | (simp [go_sem]; done)) (by first | assumption | omega | (simp; done))
  have B4 : Below w.heap.size w w4 := Below.trans (by go_grown) (h4.mono (by first | (simp; done) | omega | (simp; omega)))
  clear rx ry fx fy rz
  obtain ⟨rx, ry, fx, fy, rz⟩ := r4
  have y4 := B4.size
  clear h4 k4
  go_wp2_with fail
  refine (k5 _).mono ?_
  rintro e w5 ⟨rfl, h5⟩
  have r5 := box2 h5 w.heap.size (.int .i64 0) (.int .u64 0) (by first | assumption | (simp [go_sem]; done)) (by first | assumption | (simp [go_sem]; done)) (by first | assumption | (simp [go_sem]; done)) (by first | assumption | (simp [go_sem]; done)) (by first | assumption | omega | (simp; done))
  have B5 : Below w.heap.size w w5 := Below.trans (by go_grown) (h5.mono (by first | (simp; done) | omega | (simp; omega)))
  clear rx ry fx fy rz
  obtain ⟨rx, ry, fx, fy, rz⟩ := r5
  have y5 := B5.size
  clear h5 k5
  go_wp2_with fail
  refine (k6 _).mono ?_
  rintro e w6 ⟨rfl, rfl⟩
  clear k6
  go_wp2_with fail
  refine bodyPost_ret (by simp [results, Tryd.results18, go_sem, rx, ry, fx, fy, rz]; try rfl) rfl ?_
  exact ⟨rfl, by go_grown⟩
set_option maxRecDepth 100000 in
set_option maxHeartbeats 2000000 in
theorem read_pos_true (s : ByteArray) (A V F : List UInt8) (R VF VR X : List UInt8) (x1 x0 er : Int)
    (k1 : ∀ w, Calls Tryd.prog 33 #[.string s, .string ⟨#[45]⟩] w fun e w' => e = .returned (.tuple #[.string ⟨A.toArray⟩, .bool false]) ∧ w' = w)
    (k2 : ∀ w, Calls Tryd.prog 34 #[.string ⟨A.toArray⟩, .string ⟨#[46]⟩] w fun e w' => e = .returned (.tuple #[.string ⟨V.toArray⟩, .string ⟨F.toArray⟩, .bool true]) ∧ Below w.heap.size w w')
    (k3 : ∀ w, Calls Tryd.prog 35 #[.string ⟨V.toArray⟩] w fun e w' => e = .returned (.bool true) ∧ Below w.heap.size w w')
    (k4 : ∀ w, Calls Tryd.prog 35 #[.string ⟨F.toArray⟩] w fun e w' => e = .returned (.bool true) ∧ Below w.heap.size w w')
    (hF : (F.length : Int) ≤ 6)
    (k5 : ∀ w, Calls Tryd.prog 37 #[.string ⟨#[48]⟩, .int .i64 (6 - (F.length : Int))] w fun e w' => e = .returned (.string ⟨R.toArray⟩) ∧ Below w.heap.size w w')
    (c1 : ∀ w, (Op.stringOp .add ⟨V.toArray⟩ ⟨F.toArray⟩).run Tryd.prog w = .ok (.string ⟨VF.toArray⟩) w)
    (c2 : ∀ w, (Op.stringOp .add ⟨VF.toArray⟩ ⟨R.toArray⟩).run Tryd.prog w = .ok (.string ⟨VR.toArray⟩) w)
    (k6 : ∀ w, Calls Tryd.prog 36 #[.string ⟨VR.toArray⟩, .string ⟨#[48]⟩] w fun e w' => e = .returned (.string ⟨X.toArray⟩) ∧ w' = w)
    (z1 : ¬ X = []) (z2 : X.isEmpty = false)
    (k7 : ∀ w, Calls Tryd.prog 38 #[.string ⟨X.toArray⟩] w fun e w' => e = .returned (.tuple #[.agg #[.int .i64 x1, .int .u64 x0], .int .i64 er]) ∧ Below w.heap.size w w')
    (w : World) : Calls Tryd.prog 18 #[.string s] w fun e w' => e = .returned (.tuple #[.agg #[.int .i64 x1, .int .u64 x0], .int .i64 er]) ∧ Below w.heap.size w w' := by
  go_enter Tryd.func18, Tryd.ntmps18
  go_wp2_with fail
  refine (k1 _).mono ?_
  rintro e w1 ⟨rfl, rfl⟩
  clear k1
  go_wp2_with fail
  refine (k2 _).mono ?_
  rintro e w2 ⟨rfl, h2⟩
  have r2 := box2 h2 w.heap.size (.int .i64 0) (.int .u64 0) (by first | assumption | (simp [go_sem]; done)) (by first | assumption | (simp [go_sem]; done)) (by first | assumption | (simp [go_sem]; done)) (by first | assumption | (simp [go_sem]; done)) (by first | assumption | omega | (simp; done))
  have B2 : Below w.heap.size w w2 := Below.trans (by go_grown) (h2.mono (by first | (simp; done) | omega | (simp; omega)))
  obtain ⟨rx, ry, fx, fy, rz⟩ := r2
  have y2 := B2.size
  clear h2 k2
  go_wp2_with fail
  refine (k3 _).mono ?_
  rintro e w3 ⟨rfl, h3⟩
  have r3 := box2 h3 w.heap.size (.int .i64 0) (.int .u64 0) (by first | assumption | (simp [go_sem]; done)) (by first | assumption | (simp [go_sem]; done)) (by first | assumption | (simp [go_sem]; done)) (by first | assumption | (simp [go_sem]; done)) (by first | assumption | omega | (simp; done))
  have B3 : Below w.heap.size w w3 := Below.trans (by go_grown) (h3.mono (by first | (simp; done) | omega | (simp; omega)))
  clear rx ry fx fy rz
  obtain ⟨rx, ry, fx, fy, rz⟩ := r3
  have y3 := B3.size
  clear h3 k3
  go_wp2_with fail
  refine (k4 _).mono ?_
  rintro e w4 ⟨rfl, h4⟩
  have r4 := box2 h4 w.heap.size (.int .i64 0) (.int .u64 0) (by first | assumption | (simp [go_sem]; done)) (by first | assumption | (simp [go_sem]; done)) (by first | assumption | (simp [go_sem]; done)) (by first | assumption | (simp [go_sem]; done)) (by first | assumption | omega | (simp; done))
  have B4 : Below w.heap.size w w4 := Below.trans (by go_grown) (h4.mono (by first | (simp; done) | omega | (simp; omega)))
  clear rx ry fx fy rz
  obtain ⟨rx, ry, fx, fy, rz⟩ := r4
  have y4 := B4.size
  clear h4 k4
  go_wp2_with fail
  refine (k5 _).mono ?_
  rintro e w5 ⟨rfl, h5⟩
  have r5 := box2 h5 w.heap.size (.int .i64 0) (.int .u64 0) (by first | assumption | (simp [go_sem]; done)) (by first | assumption | (simp [go_sem]; done)) (by first | assumption | (simp [go_sem]; done)) (by first | assumption | (simp [go_sem]; done)) (by first | assumption | omega | (simp; done))
  have B5 : Below w.heap.size w w5 := Below.trans (by go_grown) (h5.mono (by first | (simp; done) | omega | (simp; omega)))
  clear rx ry fx fy rz
  obtain ⟨rx, ry, fx, fy, rz⟩ := r5
  have y5 := B5.size
  clear h5 k5
  go_wp2_with fail
  refine (k6 _).mono ?_
  rintro e w6 ⟨rfl, rfl⟩
  clear k6
  go_wp2_with fail
  refine (k7 _).mono ?_
  rintro e w7 ⟨rfl, h7⟩
  have r7 := box2 h7 w.heap.size (.int .i64 0) (.int .u64 0) (by first | assumption | (simp [go_sem]; done)) (by first | assumption | (simp [go_sem]; done)) (by first | assumption | (simp [go_sem]; done)) (by first | assumption | (simp [go_sem]; done)) (by first | assumption | omega | (simp; done))
  have B7 : Below w.heap.size w w7 := Below.trans (by go_grown) (h7.mono (by first | (simp; done) | omega | (simp; omega)))
  clear rx ry fx fy rz
  obtain ⟨rx, ry, fx, fy, rz⟩ := r7
  have y7 := B7.size
  clear h7 k7
  go_wp2_with fail
  refine bodyPost_ret (by simp [results, Tryd.results18, go_sem, rx, ry, fx, fy, rz]; try rfl) rfl ?_
  exact ⟨rfl, by go_grown⟩
set_option maxRecDepth 100000 in
set_option maxHeartbeats 2000000 in
theorem read_neg_true (s : ByteArray) (A V F : List UInt8) (R VF VR X : List UInt8) (x1 x0 er : Int)
    (k1 : ∀ w, Calls Tryd.prog 33 #[.string s, .string ⟨#[45]⟩] w fun e w' => e = .returned (.tuple #[.string ⟨A.toArray⟩, .bool true]) ∧ w' = w)
    (k2 : ∀ w, Calls Tryd.prog 34 #[.string ⟨A.toArray⟩, .string ⟨#[46]⟩] w fun e w' => e = .returned (.tuple #[.string ⟨V.toArray⟩, .string ⟨F.toArray⟩, .bool true]) ∧ Below w.heap.size w w')
    (k3 : ∀ w, Calls Tryd.prog 35 #[.string ⟨V.toArray⟩] w fun e w' => e = .returned (.bool true) ∧ Below w.heap.size w w')
    (k4 : ∀ w, Calls Tryd.prog 35 #[.string ⟨F.toArray⟩] w fun e w' => e = .returned (.bool true) ∧ Below w.heap.size w w')
    (hF : (F.length : Int) ≤ 6)
    (k5 : ∀ w, Calls Tryd.prog 37 #[.string ⟨#[48]⟩, .int .i64 (6 - (F.length : Int))] w fun e w' => e = .returned (.string ⟨R.toArray⟩) ∧ Below w.heap.size w w')
    (c1 : ∀ w, (Op.stringOp .add ⟨V.toArray⟩ ⟨F.toArray⟩).run Tryd.prog w = .ok (.string ⟨VF.toArray⟩) w)
    (c2 : ∀ w, (Op.stringOp .add ⟨VF.toArray⟩ ⟨R.toArray⟩).run Tryd.prog w = .ok (.string ⟨VR.toArray⟩) w)
    (k6 : ∀ w, Calls Tryd.prog 36 #[.string ⟨VR.toArray⟩, .string ⟨#[48]⟩] w fun e w' => e = .returned (.string ⟨X.toArray⟩) ∧ w' = w)
    (z1 : ¬ X = []) (z2 : X.isEmpty = false)
    (c3 : ∀ w, (Op.stringOp .add ⟨#[45]⟩ ⟨X.toArray⟩).run Tryd.prog w = .ok (.string ⟨(45 :: X).toArray⟩) w)
    (k7 : ∀ w, Calls Tryd.prog 38 #[.string ⟨(45 :: X).toArray⟩] w fun e w' => e = .returned (.tuple #[.agg #[.int .i64 x1, .int .u64 x0], .int .i64 er]) ∧ Below w.heap.size w w')
    (w : World) : Calls Tryd.prog 18 #[.string s] w fun e w' => e = .returned (.tuple #[.agg #[.int .i64 x1, .int .u64 x0], .int .i64 er]) ∧ Below w.heap.size w w' := by
  go_enter Tryd.func18, Tryd.ntmps18
  go_wp2_with fail
  refine (k1 _).mono ?_
  rintro e w1 ⟨rfl, rfl⟩
  clear k1
  go_wp2_with fail
  refine (k2 _).mono ?_
  rintro e w2 ⟨rfl, h2⟩
  have r2 := box2 h2 w.heap.size (.int .i64 0) (.int .u64 0) (by first | assumption | (simp [go_sem]; done)) (by first | assumption | (simp [go_sem]; done)) (by first | assumption | (simp [go_sem]; done)) (by first | assumption | (simp [go_sem]; done)) (by first | assumption | omega | (simp; done))
  have B2 : Below w.heap.size w w2 := Below.trans (by go_grown) (h2.mono (by first | (simp; done) | omega | (simp; omega)))
  obtain ⟨rx, ry, fx, fy, rz⟩ := r2
  have y2 := B2.size
  clear h2 k2
  go_wp2_with fail
  refine (k3 _).mono ?_
  rintro e w3 ⟨rfl, h3⟩
  have r3 := box2 h3 w.heap.size (.int .i64 0) (.int .u64 0) (by first | assumption | (simp [go_sem]; done)) (by first | assumption | (simp [go_sem]; done)) (by first | assumption | (simp [go_sem]; done)) (by first | assumption | (simp [go_sem]; done)) (by first | assumption | omega | (simp; done))
  have B3 : Below w.heap.size w w3 := Below.trans (by go_grown) (h3.mono (by first | (simp; done) | omega | (simp; omega)))
  clear rx ry fx fy rz
  obtain ⟨rx, ry, fx, fy, rz⟩ := r3
  have y3 := B3.size
  clear h3 k3
  go_wp2_with fail
  refine (k4 _).mono ?_
  rintro e w4 ⟨rfl, h4⟩
  have r4 := box2 h4 w.heap.size (.int .i64 0) (.int .u64 0) (by first | assumption | (simp [go_sem]; done)) (by first | assumption | (simp [go_sem]; done)) (by first | assumption | (simp [go_sem]; done)) (by first | assumption | (simp [go_sem]; done)) (by first | assumption | omega | (simp; done))
  have B4 : Below w.heap.size w w4 := Below.trans (by go_grown) (h4.mono (by first | (simp; done) | omega | (simp; omega)))
  clear rx ry fx fy rz
  obtain ⟨rx, ry, fx, fy, rz⟩ := r4
  have y4 := B4.size
  clear h4 k4
  go_wp2_with fail
  refine (k5 _).mono ?_
  rintro e w5 ⟨rfl, h5⟩
  have r5 := box2 h5 w.heap.size (.int .i64 0) (.int .u64 0) (by first | assumption | (simp [go_sem]; done)) (by first | assumption | (simp [go_sem]; done)) (by first | assumption | (simp [go_sem]; done)) (by first | assumption | (simp [go_sem]; done)) (by first | assumption | omega | (simp; done))
  have B5 : Below w.heap.size w w5 := Below.trans (by go_grown) (h5.mono (by first | (simp; done) | omega | (simp; omega)))
  clear rx ry fx fy rz
  obtain ⟨rx, ry, fx, fy, rz⟩ := r5
  have y5 := B5.size
  clear h5 k5
  go_wp2_with fail
  refine (k6 _).mono ?_
  rintro e w6 ⟨rfl, rfl⟩
  clear k6
  go_wp2_with fail
  refine (k7 _).mono ?_
  rintro e w7 ⟨rfl, h7⟩
  have r7 := box2 h7 w.heap.size (.int .i64 0) (.int .u64 0) (by first | assumption | (simp [go_sem]; done)) (by first | assumption | (simp [go_sem]; done)) (by first | assumption | (simp [go_sem]; done)) (by first | assumption | (simp [go_sem]; done)) (by first | assumption | omega | (simp; done))
  have B7 : Below w.heap.size w w7 := Below.trans (by go_grown) (h7.mono (by first | (simp; done) | omega | (simp; omega)))
  clear rx ry fx fy rz
  obtain ⟨rx, ry, fx, fy, rz⟩ := r7
  have y7 := B7.size
  clear h7 k7
  go_wp2_with fail
  refine bodyPost_ret (by simp [results, Tryd.results18, go_sem, rx, ry, fx, fy, rz]; try rfl) rfl ?_
  exact ⟨rfl, by go_grown⟩
set_option maxRecDepth 100000 in
set_option maxHeartbeats 2000000 in
theorem read_fine_false (s : ByteArray) (A V F : List UInt8) (neg : Bool)
    (k1 : ∀ w, Calls Tryd.prog 33 #[.string s, .string ⟨#[45]⟩] w fun e w' => e = .returned (.tuple #[.string ⟨A.toArray⟩, .bool neg]) ∧ w' = w)
    (k2 : ∀ w, Calls Tryd.prog 34 #[.string ⟨A.toArray⟩, .string ⟨#[46]⟩] w fun e w' => e = .returned (.tuple #[.string ⟨V.toArray⟩, .string ⟨F.toArray⟩, .bool false]) ∧ Below w.heap.size w w')
    (k3 : ∀ w, Calls Tryd.prog 35 #[.string ⟨V.toArray⟩] w fun e w' => e = .returned (.bool true) ∧ Below w.heap.size w w')
    (hF : 6 < (F.length : Int))
    (w : World) : Calls Tryd.prog 18 #[.string s] w fun e w' => e = .returned (.tuple #[.agg #[.int .i64 0, .int .u64 0], .int .i64 21]) ∧ Below w.heap.size w w' := by
  go_enter Tryd.func18, Tryd.ntmps18
  go_wp2_with fail
  refine (k1 _).mono ?_
  rintro e w1 ⟨rfl, rfl⟩
  clear k1
  go_wp2_with fail
  refine (k2 _).mono ?_
  rintro e w2 ⟨rfl, h2⟩
  have r2 := box2 h2 w.heap.size (.int .i64 0) (.int .u64 0) (by first | assumption | (simp [go_sem]; done)) (by first | assumption | (simp [go_sem]; done)) (by first | assumption | (simp [go_sem]; done)) (by first | assumption | (simp [go_sem]; done)) (by first | assumption | omega | (simp; done))
  have B2 : Below w.heap.size w w2 := Below.trans (by go_grown) (h2.mono (by first | (simp; done) | omega | (simp; omega)))
  obtain ⟨rx, ry, fx, fy, rz⟩ := r2
  have y2 := B2.size
  clear h2 k2
  go_wp2_with fail
  refine (k3 _).mono ?_
  rintro e w3 ⟨rfl, h3⟩
  have r3 := box2 h3 w.heap.size (.int .i64 0) (.int .u64 0) (by first | assumption | (simp [go_sem]; done)) (by first | assumption | (simp [go_sem]; done)) (by first | assumption | (simp [go_sem]; done)) (by first | assumption | (simp [go_sem]; done)) (by first | assumption | omega | (simp; done))
  have B3 : Below w.heap.size w w3 := Below.trans (by go_grown) (h3.mono (by first | (simp; done) | omega | (simp; omega)))
  clear rx ry fx fy rz
  obtain ⟨rx, ry, fx, fy, rz⟩ := r3
  have y3 := B3.size
  clear h3 k3
  go_wp2_with fail
  refine bodyPost_ret (by simp [results, Tryd.results18, go_sem, rx, ry, fx, fy, rz]; try rfl) rfl ?_
  exact ⟨rfl, by go_grown⟩
set_option maxRecDepth 100000 in
set_option maxHeartbeats 2000000 in
theorem read_zero_false (s : ByteArray) (A V F : List UInt8) (R VF VR : List UInt8) (neg : Bool)
    (k1 : ∀ w, Calls Tryd.prog 33 #[.string s, .string ⟨#[45]⟩] w fun e w' => e = .returned (.tuple #[.string ⟨A.toArray⟩, .bool neg]) ∧ w' = w)
    (k2 : ∀ w, Calls Tryd.prog 34 #[.string ⟨A.toArray⟩, .string ⟨#[46]⟩] w fun e w' => e = .returned (.tuple #[.string ⟨V.toArray⟩, .string ⟨F.toArray⟩, .bool false]) ∧ Below w.heap.size w w')
    (k3 : ∀ w, Calls Tryd.prog 35 #[.string ⟨V.toArray⟩] w fun e w' => e = .returned (.bool true) ∧ Below w.heap.size w w')
    (hF : (F.length : Int) ≤ 6)
    (k5 : ∀ w, Calls Tryd.prog 37 #[.string ⟨#[48]⟩, .int .i64 (6 - (F.length : Int))] w fun e w' => e = .returned (.string ⟨R.toArray⟩) ∧ Below w.heap.size w w')
    (c1 : ∀ w, (Op.stringOp .add ⟨V.toArray⟩ ⟨F.toArray⟩).run Tryd.prog w = .ok (.string ⟨VF.toArray⟩) w)
    (c2 : ∀ w, (Op.stringOp .add ⟨VF.toArray⟩ ⟨R.toArray⟩).run Tryd.prog w = .ok (.string ⟨VR.toArray⟩) w)
    (k6 : ∀ w, Calls Tryd.prog 36 #[.string ⟨VR.toArray⟩, .string ⟨#[48]⟩] w fun e w' => e = .returned (.string ⟨([] : List UInt8).toArray⟩) ∧ w' = w)
    (w : World) : Calls Tryd.prog 18 #[.string s] w fun e w' => e = .returned (.tuple #[.agg #[.int .i64 0, .int .u64 0], .int .i64 0]) ∧ Below w.heap.size w w' := by
  go_enter Tryd.func18, Tryd.ntmps18
  go_wp2_with fail
  refine (k1 _).mono ?_
  rintro e w1 ⟨rfl, rfl⟩
  clear k1
  go_wp2_with fail
  refine (k2 _).mono ?_
  rintro e w2 ⟨rfl, h2⟩
  have r2 := box2 h2 w.heap.size (.int .i64 0) (.int .u64 0) (by first | assumption | (simp [go_sem]; done)) (by first | assumption | (simp [go_sem]; done)) (by first | assumption | (simp [go_sem]; done)) (by first | assumption | (simp [go_sem]; done)) (by first | assumption | omega | (simp; done))
  have B2 : Below w.heap.size w w2 := Below.trans (by go_grown) (h2.mono (by first | (simp; done) | omega | (simp; omega)))
  obtain ⟨rx, ry, fx, fy, rz⟩ := r2
  have y2 := B2.size
  clear h2 k2
  go_wp2_with fail
  refine (k3 _).mono ?_
  rintro e w3 ⟨rfl, h3⟩
  have r3 := box2 h3 w.heap.size (.int .i64 0) (.int .u64 0) (by first | assumption | (simp [go_sem]; done)) (by first | assumption | (simp [go_sem]; done)) (by first | assumption | (simp [go_sem]; done)) (by first | assumption | (simp [go_sem]; done)) (by first | assumption | omega | (simp; done))
  have B3 : Below w.heap.size w w3 := Below.trans (by go_grown) (h3.mono (by first | (simp; done) | omega | (simp; omega)))
  clear rx ry fx fy rz
  obtain ⟨rx, ry, fx, fy, rz⟩ := r3
  have y3 := B3.size
  clear h3 k3
  go_wp2_with fail
  refine (k5 _).mono ?_
  rintro e w4 ⟨rfl, h4⟩
  have r4 := box2 h4 w.heap.size (.int .i64 0) (.int .u64 0) (by first | assumption | (simp [go_sem]; done)) (by first | assumption | (simp [go_sem]; done)) (by first | assumption | (simp [go_sem]; done)) (by first | assumption | (simp [go_sem]; done)) (by first | assumption | omega | (simp; done))
  have B4 : Below w.heap.size w w4 := Below.trans (by go_grown) (h4.mono (by first | (simp; done) | omega | (simp; omega)))
  clear rx ry fx fy rz
  obtain ⟨rx, ry, fx, fy, rz⟩ := r4
  have y4 := B4.size
  clear h4 k5
  go_wp2_with fail
  refine (k6 _).mono ?_
  rintro e w5 ⟨rfl, rfl⟩
  clear k6
  go_wp2_with fail
  refine bodyPost_ret (by simp [results, Tryd.results18, go_sem, rx, ry, fx, fy, rz]; try rfl) rfl ?_
  exact ⟨rfl, by go_grown⟩
set_option maxRecDepth 100000 in
set_option maxHeartbeats 2000000 in
theorem read_pos_false (s : ByteArray) (A V F : List UInt8) (R VF VR X : List UInt8) (x1 x0 er : Int)
    (k1 : ∀ w, Calls Tryd.prog 33 #[.string s, .string ⟨#[45]⟩] w fun e w' => e = .returned (.tuple #[.string ⟨A.toArray⟩, .bool false]) ∧ w' = w)
    (k2 : ∀ w, Calls Tryd.prog 34 #[.string ⟨A.toArray⟩, .string ⟨#[46]⟩] w fun e w' => e = .returned (.tuple #[.string ⟨V.toArray⟩, .string ⟨F.toArray⟩, .bool false]) ∧ Below w.heap.size w w')
    (k3 : ∀ w, Calls Tryd.prog 35 #[.string ⟨V.toArray⟩] w fun e w' => e = .returned (.bool true) ∧ Below w.heap.size w w')
    (hF : (F.length : Int) ≤ 6)
    (k5 : ∀ w, Calls Tryd.prog 37 #[.string ⟨#[48]⟩, .int .i64 (6 - (F.length : Int))] w fun e w' => e = .returned (.string ⟨R.toArray⟩) ∧ Below w.heap.size w w')
    (c1 : ∀ w, (Op.stringOp .add ⟨V.toArray⟩ ⟨F.toArray⟩).run Tryd.prog w = .ok (.string ⟨VF.toArray⟩) w)
    (c2 : ∀ w, (Op.stringOp .add ⟨VF.toArray⟩ ⟨R.toArray⟩).run Tryd.prog w = .ok (.string ⟨VR.toArray⟩) w)
    (k6 : ∀ w, Calls Tryd.prog 36 #[.string ⟨VR.toArray⟩, .string ⟨#[48]⟩] w fun e w' => e = .returned (.string ⟨X.toArray⟩) ∧ w' = w)
    (z1 : ¬ X = []) (z2 : X.isEmpty = false)
    (k7 : ∀ w, Calls Tryd.prog 38 #[.string ⟨X.toArray⟩] w fun e w' => e = .returned (.tuple #[.agg #[.int .i64 x1, .int .u64 x0], .int .i64 er]) ∧ Below w.heap.size w w')
    (w : World) : Calls Tryd.prog 18 #[.string s] w fun e w' => e = .returned (.tuple #[.agg #[.int .i64 x1, .int .u64 x0], .int .i64 er]) ∧ Below w.heap.size w w' := by
  go_enter Tryd.func18, Tryd.ntmps18
  go_wp2_with fail
  refine (k1 _).mono ?_
  rintro e w1 ⟨rfl, rfl⟩
  clear k1
  go_wp2_with fail
  refine (k2 _).mono ?_
  rintro e w2 ⟨rfl, h2⟩
  have r2 := box2 h2 w.heap.size (.int .i64 0) (.int .u64 0) (by first | assumption | (simp [go_sem]; done)) (by first | assumption | (simp [go_sem]; done)) (by first | assumption | (simp [go_sem]; done)) (by first | assumption | (simp [go_sem]; done)) (by first | assumption | omega | (simp; done))
  have B2 : Below w.heap.size w w2 := Below.trans (by go_grown) (h2.mono (by first | (simp; done) | omega | (simp; omega)))
  obtain ⟨rx, ry, fx, fy, rz⟩ := r2
  have y2 := B2.size
  clear h2 k2
  go_wp2_with fail
  refine (k3 _).mono ?_
  rintro e w3 ⟨rfl, h3⟩
  have r3 := box2 h3 w.heap.size (.int .i64 0) (.int .u64 0) (by first | assumption | (simp [go_sem]; done)) (by first | assumption | (simp [go_sem]; done)) (by first | assumption | (simp [go_sem]; done)) (by first | assumption | (simp [go_sem]; done)) (by first | assumption | omega | (simp; done))
  have B3 : Below w.heap.size w w3 := Below.trans (by go_grown) (h3.mono (by first | (simp; done) | omega | (simp; omega)))
  clear rx ry fx fy rz
  obtain ⟨rx, ry, fx, fy, rz⟩ := r3
  have y3 := B3.size
  clear h3 k3
  go_wp2_with fail
  refine (k5 _).mono ?_
  rintro e w4 ⟨rfl, h4⟩
  have r4 := box2 h4 w.heap.size (.int .i64 0) (.int .u64 0) (by first | assumption | (simp [go_sem]; done)) (by first | assumption | (simp [go_sem]; done)) (by first | assumption | (simp [go_sem]; done)) (by first | assumption | (simp [go_sem]; done)) (by first | assumption | omega | (simp; done))
  have B4 : Below w.heap.size w w4 := Below.trans (by go_grown) (h4.mono (by first | (simp; done) | omega | (simp; omega)))
  clear rx ry fx fy rz
  obtain ⟨rx, ry, fx, fy, rz⟩ := r4
  have y4 := B4.size
  clear h4 k5
  go_wp2_with fail
  refine (k6 _).mono ?_
  rintro e w5 ⟨rfl, rfl⟩
  clear k6
  go_wp2_with fail
  refine (k7 _).mono ?_
  rintro e w6 ⟨rfl, h6⟩
  have r6 := box2 h6 w.heap.size (.int .i64 0) (.int .u64 0) (by first | assumption | (simp [go_sem]; done)) (by first | assumption | (simp [go_sem]; done)) (by first | assumption | (simp [go_sem]; done)) (by first | assumption | (simp [go_sem]; done)) (by first | assumption | omega | (simp; done))
  have B6 : Below w.heap.size w w6 := Below.trans (by go_grown) (h6.mono (by first | (simp; done) | omega | (simp; omega)))
  clear rx ry fx fy rz
  obtain ⟨rx, ry, fx, fy, rz⟩ := r6
  have y6 := B6.size
  clear h6 k7
  go_wp2_with fail
  refine bodyPost_ret (by simp [results, Tryd.results18, go_sem, rx, ry, fx, fy, rz]; try rfl) rfl ?_
  exact ⟨rfl, by go_grown⟩
set_option maxRecDepth 100000 in
set_option maxHeartbeats 2000000 in
theorem read_neg_false (s : ByteArray) (A V F : List UInt8) (R VF VR X : List UInt8) (x1 x0 er : Int)
    (k1 : ∀ w, Calls Tryd.prog 33 #[.string s, .string ⟨#[45]⟩] w fun e w' => e = .returned (.tuple #[.string ⟨A.toArray⟩, .bool true]) ∧ w' = w)
    (k2 : ∀ w, Calls Tryd.prog 34 #[.string ⟨A.toArray⟩, .string ⟨#[46]⟩] w fun e w' => e = .returned (.tuple #[.string ⟨V.toArray⟩, .string ⟨F.toArray⟩, .bool false]) ∧ Below w.heap.size w w')
    (k3 : ∀ w, Calls Tryd.prog 35 #[.string ⟨V.toArray⟩] w fun e w' => e = .returned (.bool true) ∧ Below w.heap.size w w')
    (hF : (F.length : Int) ≤ 6)
    (k5 : ∀ w, Calls Tryd.prog 37 #[.string ⟨#[48]⟩, .int .i64 (6 - (F.length : Int))] w fun e w' => e = .returned (.string ⟨R.toArray⟩) ∧ Below w.heap.size w w')
    (c1 : ∀ w, (Op.stringOp .add ⟨V.toArray⟩ ⟨F.toArray⟩).run Tryd.prog w = .ok (.string ⟨VF.toArray⟩) w)
    (c2 : ∀ w, (Op.stringOp .add ⟨VF.toArray⟩ ⟨R.toArray⟩).run Tryd.prog w = .ok (.string ⟨VR.toArray⟩) w)
    (k6 : ∀ w, Calls Tryd.prog 36 #[.string ⟨VR.toArray⟩, .string ⟨#[48]⟩] w fun e w' => e = .returned (.string ⟨X.toArray⟩) ∧ w' = w)
    (z1 : ¬ X = []) (z2 : X.isEmpty = false)
    (c3 : ∀ w, (Op.stringOp .add ⟨#[45]⟩ ⟨X.toArray⟩).run Tryd.prog w = .ok (.string ⟨(45 :: X).toArray⟩) w)
    (k7 : ∀ w, Calls Tryd.prog 38 #[.string ⟨(45 :: X).toArray⟩] w fun e w' => e = .returned (.tuple #[.agg #[.int .i64 x1, .int .u64 x0], .int .i64 er]) ∧ Below w.heap.size w w')
    (w : World) : Calls Tryd.prog 18 #[.string s] w fun e w' => e = .returned (.tuple #[.agg #[.int .i64 x1, .int .u64 x0], .int .i64 er]) ∧ Below w.heap.size w w' := by
  go_enter Tryd.func18, Tryd.ntmps18
  go_wp2_with fail
  refine (k1 _).mono ?_
  rintro e w1 ⟨rfl, rfl⟩
  clear k1
  go_wp2_with fail
  refine (k2 _).mono ?_
  rintro e w2 ⟨rfl, h2⟩
  have r2 := box2 h2 w.heap.size (.int .i64 0) (.int .u64 0) (by first | assumption | (simp [go_sem]; done)) (by first | assumption | (simp [go_sem]; done)) (by first | assumption | (simp [go_sem]; done)) (by first | assumption | (simp [go_sem]; done)) (by first | assumption | omega | (simp; done))
  have B2 : Below w.heap.size w w2 := Below.trans (by go_grown) (h2.mono (by first | (simp; done) | omega | (simp; omega)))
  obtain ⟨rx, ry, fx, fy, rz⟩ := r2
  have y2 := B2.size
  clear h2 k2
  go_wp2_with fail
  refine (k3 _).mono ?_
  rintro e w3 ⟨rfl, h3⟩
  have r3 := box2 h3 w.heap.size (.int .i64 0) (.int .u64 0) (by first | assumption | (simp [go_sem]; done)) (by first | assumption | (simp [go_sem]; done)) (by first | assumption | (simp [go_sem]; done)) (by first | assumption | (simp [go_sem]; done)) (by first | assumption | omega | (simp; done))
  have B3 : Below w.heap.size w w3 := Below.trans (by go_grown) (h3.mono (by first | (simp; done) | omega | (simp; omega)))
  clear rx ry fx fy rz
  obtain ⟨rx, ry, fx, fy, rz⟩ := r3
  have y3 := B3.size
  clear h3 k3
  go_wp2_with fail
  refine (k5 _).mono ?_
  rintro e w4 ⟨rfl, h4⟩
  have r4 := box2 h4 w.heap.size (.int .i64 0) (.int .u64 0) (by first | assumption | (simp [go_sem]; done)) (by first | assumption | (simp [go_sem]; done)) (by first | assumption | (simp [go_sem]; done)) (by first | assumption | (simp [go_sem]; done)) (by first | assumption | omega | (simp; done))
  have B4 : Below w.heap.size w w4 := Below.trans (by go_grown) (h4.mono (by first | (simp; done) | omega | (simp; omega)))
  clear rx ry fx fy rz
  obtain ⟨rx, ry, fx, fy, rz⟩ := r4
  have y4 := B4.size
  clear h4 k5
  go_wp2_with fail
  refine (k6 _).mono ?_
  rintro e w5 ⟨rfl, rfl⟩
  clear k6
  go_wp2_with fail
  refine (k7 _).mono ?_
  rintro e w6 ⟨rfl, h6⟩
  have r6 := box2 h6 w.heap.size (.int .i64 0) (.int .u64 0) (by first | assumption | (simp [go_sem]; done)) (by first | assumption | (simp [go_sem]; done)) (by first | assumption | (simp [go_sem]; done)) (by first | assumption | (simp [go_sem]; done)) (by first | assumption | omega | (simp; done))
  have B6 : Below w.heap.size w w6 := Below.trans (by go_grown) (h6.mono (by first | (simp; done) | omega | (simp; omega)))
  clear rx ry fx fy rz
  obtain ⟨rx, ry, fx, fy, rz⟩ := r6
  have y6 := B6.size
  clear h6 k7
  go_wp2_with fail
  refine bodyPost_ret (by simp [results, Tryd.results18, go_sem, rx, ry, fx, fy, rz]; try rfl) rfl ?_
  exact ⟨rfl, by go_grown⟩
end Go.Proofs.YtdjehbagnkfkpaaDoor
