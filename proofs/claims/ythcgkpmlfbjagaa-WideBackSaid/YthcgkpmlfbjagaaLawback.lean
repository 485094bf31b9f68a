/- The law of layer 1: WideBack. -/
import Derived.Test.YthcgkpmlfbjagaaWtxt
import Derived.Test.YthcgkpmlfbjagaaWcmp
import Derived.Test.YthcgkpmlfbjagaaWalive
import Derived.Deep.DeepCutAuto
namespace Go.Proofs.Ythcgkpmlfbjagaa
set_option linter.unusedVariables false
set_option linter.unusedSimpArgs false
open Go.RowKit W
set_option maxRecDepth 100000 in
set_option maxHeartbeats 8000000 in
theorem back_same (a b : Int) (t : List UInt8) 
    (k1 : ∀ w, Calls Try.prog 38 #[.agg #[.int .i64 a, .int .u64 b]] w fun e w' => e = .returned (.string ⟨t.toArray⟩) ∧ Below w.heap.size w w')
    (k2 : ∀ w, Calls Try.prog 40 #[.string ⟨t.toArray⟩] w fun e w' => e = .returned (.tuple #[.agg #[.int .i64 a, .int .u64 b], .int .i64 0]) ∧ Below w.heap.size w w')
    (k3 : ∀ w, Calls Try.prog 38 #[.agg #[.int .i64 a, .int .u64 b]] w fun e w' => e = .returned (.string ⟨t.toArray⟩) ∧ Below w.heap.size w w')
    (k4 : ∀ w, Calls Try.prog 21 #[.agg #[.int .i64 a, .int .u64 b], .agg #[.int .i64 a, .int .u64 b]] w fun e w' => e = .returned (.int .i64 0) ∧ Below w.heap.size w w')
    (k5 : ∀ w, Calls Try.prog 25 #[] w fun e w' => e = .returned (.bool true) ∧ Below w.heap.size w w')  (w : World) :
    Calls Try.prog 11 #[.agg #[.int .i64 a, .int .u64 b], .agg #[.int .i64 a, .int .u64 b]] w fun e w' => e = .returned (.bool true) ∧ Below w.heap.size w w' := by
  go_enter Try.func11, Try.ntmps11
  go_wp2_with fail
  refine (k1 _).mono ?_
  rintro e w1 ⟨rfl, h1⟩
  have B1 : Below w.heap.size w w1 := Below.trans (by repeat (first | exact Below.refl _ _ | assumption | refine Below.setCell ?_ (by first | (simp; done) | omega | (simp; omega)) _ | refine Below.drew ?_ | refine below_drewN ?_ _ | refine Below.alloc ?_ (by first | (simp; done) | omega | (simp; omega)) _)) (h1.mono (by first | (simp; done) | omega | (simp; omega)))
  go_wp2_with fail
  refine (k2 _).mono ?_
  rintro e w2 ⟨rfl, h2⟩
  go_wp2_with fail
  obtain ⟨a0, a1, a2⟩ := live (.int .i64 a) h1 w.heap.size 0 (by first | omega | (simp; done) | (simp; omega)) (by simp [go_sem]) (by simp [go_sem])
  obtain ⟨b0, b1, b2⟩ := live (.int .u64 b) h1 w.heap.size 1 (by first | omega | (simp; done) | (simp; omega)) (by simp [go_sem]) (by simp [go_sem])
  obtain ⟨c0, c1, c2⟩ := live (.int .i64 a) h1 (w.heap.size + 1) 0 (by first | omega | (simp; done) | (simp; omega)) (by simp [go_sem]) (by simp [go_sem])
  obtain ⟨d0, d1, d2⟩ := live (.int .u64 b) h1 (w.heap.size + 1) 1 (by first | omega | (simp; done) | (simp; omega)) (by simp [go_sem]) (by simp [go_sem])
  obtain ⟨a3, a4, a5⟩ := live (.int .i64 a) h2 w.heap.size 0 (by first | omega | (simp; done) | (simp; omega)) (by simp [go_sem, a0, a2]) (by simp [go_sem, a1, a2])
  obtain ⟨b3, b4, b5⟩ := live (.int .u64 b) h2 w.heap.size 1 (by first | omega | (simp; done) | (simp; omega)) (by simp [go_sem, b0, a2]) (by simp [go_sem, b1, a2])
  obtain ⟨c3, c4, c5⟩ := live (.int .i64 a) h2 (w.heap.size + 1) 0 (by first | omega | (simp; done) | (simp; omega)) (by simp [go_sem, c0, c2]) (by simp [go_sem, c1, c2])
  obtain ⟨d3, d4, d5⟩ := live (.int .u64 b) h2 (w.heap.size + 1) 1 (by first | omega | (simp; done) | (simp; omega)) (by simp [go_sem, d0, c2]) (by simp [go_sem, d1, c2])
  have B2 : Below w.heap.size w w2 := B1.trans (h2.mono (by first | exact B1.size | (simp; have := B1.size; omega)))
  clear a0 a1 b0 b1 c0 c1 d0 d1 h1 h2
  refine abs_wp (fun W => W.cell? ⟨w.heap.size, 0, none⟩ = some (.int .i64 a) ∧ W.cell? ⟨w.heap.size, 1, none⟩ = some (.int .u64 b) ∧ W.cell? ⟨w.heap.size + 1, 0, none⟩ = some (.int .i64 a) ∧ W.cell? ⟨w.heap.size + 1, 1, none⟩ = some (.int .u64 b) ∧ W.cell? ⟨w2.heap.size, 0, none⟩ = some (.int .i64 a) ∧ W.cell? ⟨w2.heap.size, 1, none⟩ = some (.int .u64 b) ∧ w.heap.size < W.heap.size ∧ w.heap.size + 1 < W.heap.size ∧ w2.heap.size < W.heap.size ∧ Below w.heap.size w W) ?_ ?_
  · refine ⟨?_, ?_, ?_, ?_, ?_, ?_, ?_, ?_, ?_, ?_⟩
    all_goals first | (simp [go_sem, a3, b3, c3, d3, a5, c5]; done) | (simp; omega) | (repeat (first | exact Below.refl _ _ | assumption | refine Below.setCell ?_ (by first | (simp; done) | omega | (simp; omega)) _ | refine Below.drew ?_ | refine below_drewN ?_ _ | refine Below.alloc ?_ (by first | (simp; done) | omega | (simp; omega)) _))
  rintro W ⟨c0, c1, c2, c3, c4, c5, zA, zB, zX, BW⟩
  have K0 := Keeps.start (Nat.le_refl W.heap.size)
  have K1 := K0.drew
  go_region_held3 (fun w' => w'.cell? ⟨w.heap.size, 0, none⟩ = some (.int .i64 a) ∧ w'.cell? ⟨w.heap.size, 1, none⟩ = some (.int .u64 b) ∧ w'.cell? ⟨w.heap.size + 1, 0, none⟩ = some (.int .i64 a) ∧ w'.cell? ⟨w.heap.size + 1, 1, none⟩ = some (.int .u64 b) ∧ w'.cell? ⟨w2.heap.size, 0, none⟩ = some (.int .i64 a) ∧ w'.cell? ⟨w2.heap.size, 1, none⟩ = some (.int .u64 b) ∧ Keeps W.heap.size W w') ((refine (fun K => ⟨Keeps.cell K c0 (by omega), Keeps.cell K c1 (by omega), Keeps.cell K c2 (by omega), Keeps.cell K c3 (by omega), Keeps.cell K c4 (by omega), Keeps.cell K c5 (by omega), K⟩) (?_ : Keeps W.heap.size W _); (repeat (first | assumption | refine Keeps.alloc ?_ _ | refine Keeps.drew ?_ | refine Keeps.setCell ?_ (by first | (simp; done) | omega | (simp; omega)) _))))
    (first
    | (go_at_call 38; (with_reducible refine (k3 _).mono ?_); rintro e v20 ⟨rfl, hb20⟩; have K20 := Keeps.call (B := W.heap.size) (W := W) (by repeat (first | assumption | refine Keeps.alloc ?_ _ | refine Keeps.drew ?_ | refine Keeps.setCell ?_ (by first | (simp; done) | omega | (simp; omega)) _)) hb20)
    | (go_at_call 21; (with_reducible refine (k4 _).mono ?_); rintro e v21 ⟨rfl, hb21⟩; have K21 := Keeps.call (B := W.heap.size) (W := W) (by repeat (first | assumption | refine Keeps.alloc ?_ _ | refine Keeps.drew ?_ | refine Keeps.setCell ?_ (by first | (simp; done) | omega | (simp; omega)) _)) hb21)
    | (go_at_call 25; (with_reducible refine (k5 _).mono ?_); rintro e v22 ⟨rfl, hb22⟩; have K22 := Keeps.call (B := W.heap.size) (W := W) (by repeat (first | assumption | refine Keeps.alloc ?_ _ | refine Keeps.drew ?_ | refine Keeps.setCell ?_ (by first | (simp; done) | omega | (simp; omega)) _)) hb22))
  all_goals
    have BE : Below w.heap.size w v22 := BW.trans (K22.below.mono BW.size)
    go_wp2_with fail
    go_returns
    refine ⟨rfl, ?_⟩
    repeat (first | exact Below.refl _ _ | assumption | refine Below.setCell ?_ (by first | (simp; done) | omega | (simp; omega)) _ | refine Below.drew ?_ | refine below_drewN ?_ _ | refine Below.alloc ?_ (by first | (simp; done) | omega | (simp; omega)) _)
set_option maxRecDepth 100000 in
set_option maxHeartbeats 8000000 in
theorem back_hi (a b : Int) (t : List UInt8) (c d : Int) (t' : List UInt8) (q : Int)
    (k1 : ∀ w, Calls Try.prog 38 #[.agg #[.int .i64 a, .int .u64 b]] w fun e w' => e = .returned (.string ⟨t.toArray⟩) ∧ Below w.heap.size w w')
    (k2 : ∀ w, Calls Try.prog 40 #[.string ⟨t.toArray⟩] w fun e w' => e = .returned (.tuple #[.agg #[.int .i64 a, .int .u64 b], .int .i64 0]) ∧ Below w.heap.size w w')
    (k3 : ∀ w, Calls Try.prog 38 #[.agg #[.int .i64 c, .int .u64 d]] w fun e w' => e = .returned (.string ⟨t'.toArray⟩) ∧ Below w.heap.size w w')
    (k4 : ∀ w, Calls Try.prog 21 #[.agg #[.int .i64 a, .int .u64 b], .agg #[.int .i64 c, .int .u64 d]] w fun e w' => e = .returned (.int .i64 q) ∧ Below w.heap.size w w')
    (k5 : ∀ w, Calls Try.prog 25 #[] w fun e w' => e = .returned (.bool true) ∧ Below w.heap.size w w') (n : ¬ a = c) (nt : ¬ t = t') (nq : ¬ q = 0) (w : World) :
    Calls Try.prog 11 #[.agg #[.int .i64 a, .int .u64 b], .agg #[.int .i64 c, .int .u64 d]] w fun e w' => e = .returned (.bool true) ∧ Below w.heap.size w w' := by
  have sl : (t == t') = false := by rw [beq_eq_false_iff_ne]; exact nt
  have qb : (q == 0) = false := by simpa using nq
  go_enter Try.func11, Try.ntmps11
  go_wp2_with fail
  refine (k1 _).mono ?_
  rintro e w1 ⟨rfl, h1⟩
  have B1 : Below w.heap.size w w1 := Below.trans (by repeat (first | exact Below.refl _ _ | assumption | refine Below.setCell ?_ (by first | (simp; done) | omega | (simp; omega)) _ | refine Below.drew ?_ | refine below_drewN ?_ _ | refine Below.alloc ?_ (by first | (simp; done) | omega | (simp; omega)) _)) (h1.mono (by first | (simp; done) | omega | (simp; omega)))
  go_wp2_with fail
  refine (k2 _).mono ?_
  rintro e w2 ⟨rfl, h2⟩
  go_wp2_with fail
  obtain ⟨a0, a1, a2⟩ := live (.int .i64 a) h1 w.heap.size 0 (by first | omega | (simp; done) | (simp; omega)) (by simp [go_sem]) (by simp [go_sem])
  obtain ⟨b0, b1, b2⟩ := live (.int .u64 b) h1 w.heap.size 1 (by first | omega | (simp; done) | (simp; omega)) (by simp [go_sem]) (by simp [go_sem])
  obtain ⟨c0, c1, c2⟩ := live (.int .i64 c) h1 (w.heap.size + 1) 0 (by first | omega | (simp; done) | (simp; omega)) (by simp [go_sem]) (by simp [go_sem])
  obtain ⟨d0, d1, d2⟩ := live (.int .u64 d) h1 (w.heap.size + 1) 1 (by first | omega | (simp; done) | (simp; omega)) (by simp [go_sem]) (by simp [go_sem])
  obtain ⟨a3, a4, a5⟩ := live (.int .i64 a) h2 w.heap.size 0 (by first | omega | (simp; done) | (simp; omega)) (by simp [go_sem, a0, a2]) (by simp [go_sem, a1, a2])
  obtain ⟨b3, b4, b5⟩ := live (.int .u64 b) h2 w.heap.size 1 (by first | omega | (simp; done) | (simp; omega)) (by simp [go_sem, b0, a2]) (by simp [go_sem, b1, a2])
  obtain ⟨c3, c4, c5⟩ := live (.int .i64 c) h2 (w.heap.size + 1) 0 (by first | omega | (simp; done) | (simp; omega)) (by simp [go_sem, c0, c2]) (by simp [go_sem, c1, c2])
  obtain ⟨d3, d4, d5⟩ := live (.int .u64 d) h2 (w.heap.size + 1) 1 (by first | omega | (simp; done) | (simp; omega)) (by simp [go_sem, d0, c2]) (by simp [go_sem, d1, c2])
  have B2 : Below w.heap.size w w2 := B1.trans (h2.mono (by first | exact B1.size | (simp; have := B1.size; omega)))
  clear a0 a1 b0 b1 c0 c1 d0 d1 h1 h2
  refine abs_wp (fun W => W.cell? ⟨w.heap.size, 0, none⟩ = some (.int .i64 a) ∧ W.cell? ⟨w.heap.size, 1, none⟩ = some (.int .u64 b) ∧ W.cell? ⟨w.heap.size + 1, 0, none⟩ = some (.int .i64 c) ∧ W.cell? ⟨w.heap.size + 1, 1, none⟩ = some (.int .u64 d) ∧ W.cell? ⟨w2.heap.size, 0, none⟩ = some (.int .i64 a) ∧ W.cell? ⟨w2.heap.size, 1, none⟩ = some (.int .u64 b) ∧ w.heap.size < W.heap.size ∧ w.heap.size + 1 < W.heap.size ∧ w2.heap.size < W.heap.size ∧ Below w.heap.size w W) ?_ ?_
  · refine ⟨?_, ?_, ?_, ?_, ?_, ?_, ?_, ?_, ?_, ?_⟩
    all_goals first | (simp [go_sem, a3, b3, c3, d3, a5, c5]; done) | (simp; omega) | (repeat (first | exact Below.refl _ _ | assumption | refine Below.setCell ?_ (by first | (simp; done) | omega | (simp; omega)) _ | refine Below.drew ?_ | refine below_drewN ?_ _ | refine Below.alloc ?_ (by first | (simp; done) | omega | (simp; omega)) _))
  rintro W ⟨c0, c1, c2, c3, c4, c5, zA, zB, zX, BW⟩
  have K0 := Keeps.start (Nat.le_refl W.heap.size)
  have K1 := K0.drew
  go_region_held3 (fun w' => w'.cell? ⟨w.heap.size, 0, none⟩ = some (.int .i64 a) ∧ w'.cell? ⟨w.heap.size, 1, none⟩ = some (.int .u64 b) ∧ w'.cell? ⟨w.heap.size + 1, 0, none⟩ = some (.int .i64 c) ∧ w'.cell? ⟨w.heap.size + 1, 1, none⟩ = some (.int .u64 d) ∧ w'.cell? ⟨w2.heap.size, 0, none⟩ = some (.int .i64 a) ∧ w'.cell? ⟨w2.heap.size, 1, none⟩ = some (.int .u64 b) ∧ Keeps W.heap.size W w') ((refine (fun K => ⟨Keeps.cell K c0 (by omega), Keeps.cell K c1 (by omega), Keeps.cell K c2 (by omega), Keeps.cell K c3 (by omega), Keeps.cell K c4 (by omega), Keeps.cell K c5 (by omega), K⟩) (?_ : Keeps W.heap.size W _); (repeat (first | assumption | refine Keeps.alloc ?_ _ | refine Keeps.drew ?_ | refine Keeps.setCell ?_ (by first | (simp; done) | omega | (simp; omega)) _))))
    (first
    | (go_at_call 38; (with_reducible refine (k3 _).mono ?_); rintro e v20 ⟨rfl, hb20⟩; have K20 := Keeps.call (B := W.heap.size) (W := W) (by repeat (first | assumption | refine Keeps.alloc ?_ _ | refine Keeps.drew ?_ | refine Keeps.setCell ?_ (by first | (simp; done) | omega | (simp; omega)) _)) hb20)
    | (go_at_call 21; (with_reducible refine (k4 _).mono ?_); rintro e v21 ⟨rfl, hb21⟩; have K21 := Keeps.call (B := W.heap.size) (W := W) (by repeat (first | assumption | refine Keeps.alloc ?_ _ | refine Keeps.drew ?_ | refine Keeps.setCell ?_ (by first | (simp; done) | omega | (simp; omega)) _)) hb21)
    | (go_at_call 25; (with_reducible refine (k5 _).mono ?_); rintro e v22 ⟨rfl, hb22⟩; have K22 := Keeps.call (B := W.heap.size) (W := W) (by repeat (first | assumption | refine Keeps.alloc ?_ _ | refine Keeps.drew ?_ | refine Keeps.setCell ?_ (by first | (simp; done) | omega | (simp; omega)) _)) hb22))
  all_goals
    have BE : Below w.heap.size w v22 := BW.trans (K22.below.mono BW.size)
    go_wp2_with fail
    go_returns
    refine ⟨rfl, ?_⟩
    repeat (first | exact Below.refl _ _ | assumption | refine Below.setCell ?_ (by first | (simp; done) | omega | (simp; omega)) _ | refine Below.drew ?_ | refine below_drewN ?_ _ | refine Below.alloc ?_ (by first | (simp; done) | omega | (simp; omega)) _)
set_option maxRecDepth 100000 in
set_option maxHeartbeats 8000000 in
theorem back_lo (a b : Int) (t : List UInt8) (d : Int) (t' : List UInt8) (q : Int)
    (k1 : ∀ w, Calls Try.prog 38 #[.agg #[.int .i64 a, .int .u64 b]] w fun e w' => e = .returned (.string ⟨t.toArray⟩) ∧ Below w.heap.size w w')
    (k2 : ∀ w, Calls Try.prog 40 #[.string ⟨t.toArray⟩] w fun e w' => e = .returned (.tuple #[.agg #[.int .i64 a, .int .u64 b], .int .i64 0]) ∧ Below w.heap.size w w')
    (k3 : ∀ w, Calls Try.prog 38 #[.agg #[.int .i64 a, .int .u64 d]] w fun e w' => e = .returned (.string ⟨t'.toArray⟩) ∧ Below w.heap.size w w')
    (k4 : ∀ w, Calls Try.prog 21 #[.agg #[.int .i64 a, .int .u64 b], .agg #[.int .i64 a, .int .u64 d]] w fun e w' => e = .returned (.int .i64 q) ∧ Below w.heap.size w w')
    (k5 : ∀ w, Calls Try.prog 25 #[] w fun e w' => e = .returned (.bool true) ∧ Below w.heap.size w w') (n : ¬ b = d) (nt : ¬ t = t') (nq : ¬ q = 0) (w : World) :
    Calls Try.prog 11 #[.agg #[.int .i64 a, .int .u64 b], .agg #[.int .i64 a, .int .u64 d]] w fun e w' => e = .returned (.bool true) ∧ Below w.heap.size w w' := by
  have sl : (t == t') = false := by rw [beq_eq_false_iff_ne]; exact nt
  have qb : (q == 0) = false := by simpa using nq
  go_enter Try.func11, Try.ntmps11
  go_wp2_with fail
  refine (k1 _).mono ?_
  rintro e w1 ⟨rfl, h1⟩
  have B1 : Below w.heap.size w w1 := Below.trans (by repeat (first | exact Below.refl _ _ | assumption | refine Below.setCell ?_ (by first | (simp; done) | omega | (simp; omega)) _ | refine Below.drew ?_ | refine below_drewN ?_ _ | refine Below.alloc ?_ (by first | (simp; done) | omega | (simp; omega)) _)) (h1.mono (by first | (simp; done) | omega | (simp; omega)))
  go_wp2_with fail
  refine (k2 _).mono ?_
  rintro e w2 ⟨rfl, h2⟩
  go_wp2_with fail
  obtain ⟨a0, a1, a2⟩ := live (.int .i64 a) h1 w.heap.size 0 (by first | omega | (simp; done) | (simp; omega)) (by simp [go_sem]) (by simp [go_sem])
  obtain ⟨b0, b1, b2⟩ := live (.int .u64 b) h1 w.heap.size 1 (by first | omega | (simp; done) | (simp; omega)) (by simp [go_sem]) (by simp [go_sem])
  obtain ⟨c0, c1, c2⟩ := live (.int .i64 a) h1 (w.heap.size + 1) 0 (by first | omega | (simp; done) | (simp; omega)) (by simp [go_sem]) (by simp [go_sem])
  obtain ⟨d0, d1, d2⟩ := live (.int .u64 d) h1 (w.heap.size + 1) 1 (by first | omega | (simp; done) | (simp; omega)) (by simp [go_sem]) (by simp [go_sem])
  obtain ⟨a3, a4, a5⟩ := live (.int .i64 a) h2 w.heap.size 0 (by first | omega | (simp; done) | (simp; omega)) (by simp [go_sem, a0, a2]) (by simp [go_sem, a1, a2])
  obtain ⟨b3, b4, b5⟩ := live (.int .u64 b) h2 w.heap.size 1 (by first | omega | (simp; done) | (simp; omega)) (by simp [go_sem, b0, a2]) (by simp [go_sem, b1, a2])
  obtain ⟨c3, c4, c5⟩ := live (.int .i64 a) h2 (w.heap.size + 1) 0 (by first | omega | (simp; done) | (simp; omega)) (by simp [go_sem, c0, c2]) (by simp [go_sem, c1, c2])
  obtain ⟨d3, d4, d5⟩ := live (.int .u64 d) h2 (w.heap.size + 1) 1 (by first | omega | (simp; done) | (simp; omega)) (by simp [go_sem, d0, c2]) (by simp [go_sem, d1, c2])
  have B2 : Below w.heap.size w w2 := B1.trans (h2.mono (by first | exact B1.size | (simp; have := B1.size; omega)))
  clear a0 a1 b0 b1 c0 c1 d0 d1 h1 h2
  refine abs_wp (fun W => W.cell? ⟨w.heap.size, 0, none⟩ = some (.int .i64 a) ∧ W.cell? ⟨w.heap.size, 1, none⟩ = some (.int .u64 b) ∧ W.cell? ⟨w.heap.size + 1, 0, none⟩ = some (.int .i64 a) ∧ W.cell? ⟨w.heap.size + 1, 1, none⟩ = some (.int .u64 d) ∧ W.cell? ⟨w2.heap.size, 0, none⟩ = some (.int .i64 a) ∧ W.cell? ⟨w2.heap.size, 1, none⟩ = some (.int .u64 b) ∧ w.heap.size < W.heap.size ∧ w.heap.size + 1 < W.heap.size ∧ w2.heap.size < W.heap.size ∧ Below w.heap.size w W) ?_ ?_
  · refine ⟨?_, ?_, ?_, ?_, ?_, ?_, ?_, ?_, ?_, ?_⟩
    all_goals first | (simp [go_sem, a3, b3, c3, d3, a5, c5]; done) | (simp; omega) | (repeat (first | exact Below.refl _ _ | assumption | refine Below.setCell ?_ (by first | (simp; done) | omega | (simp; omega)) _ | refine Below.drew ?_ | refine below_drewN ?_ _ | refine Below.alloc ?_ (by first | (simp; done) | omega | (simp; omega)) _))
  rintro W ⟨c0, c1, c2, c3, c4, c5, zA, zB, zX, BW⟩
  have K0 := Keeps.start (Nat.le_refl W.heap.size)
  have K1 := K0.drew
  go_region_held3 (fun w' => w'.cell? ⟨w.heap.size, 0, none⟩ = some (.int .i64 a) ∧ w'.cell? ⟨w.heap.size, 1, none⟩ = some (.int .u64 b) ∧ w'.cell? ⟨w.heap.size + 1, 0, none⟩ = some (.int .i64 a) ∧ w'.cell? ⟨w.heap.size + 1, 1, none⟩ = some (.int .u64 d) ∧ w'.cell? ⟨w2.heap.size, 0, none⟩ = some (.int .i64 a) ∧ w'.cell? ⟨w2.heap.size, 1, none⟩ = some (.int .u64 b) ∧ Keeps W.heap.size W w') ((refine (fun K => ⟨Keeps.cell K c0 (by omega), Keeps.cell K c1 (by omega), Keeps.cell K c2 (by omega), Keeps.cell K c3 (by omega), Keeps.cell K c4 (by omega), Keeps.cell K c5 (by omega), K⟩) (?_ : Keeps W.heap.size W _); (repeat (first | assumption | refine Keeps.alloc ?_ _ | refine Keeps.drew ?_ | refine Keeps.setCell ?_ (by first | (simp; done) | omega | (simp; omega)) _))))
    (first
    | (go_at_call 38; (with_reducible refine (k3 _).mono ?_); rintro e v20 ⟨rfl, hb20⟩; have K20 := Keeps.call (B := W.heap.size) (W := W) (by repeat (first | assumption | refine Keeps.alloc ?_ _ | refine Keeps.drew ?_ | refine Keeps.setCell ?_ (by first | (simp; done) | omega | (simp; omega)) _)) hb20)
    | (go_at_call 21; (with_reducible refine (k4 _).mono ?_); rintro e v21 ⟨rfl, hb21⟩; have K21 := Keeps.call (B := W.heap.size) (W := W) (by repeat (first | assumption | refine Keeps.alloc ?_ _ | refine Keeps.drew ?_ | refine Keeps.setCell ?_ (by first | (simp; done) | omega | (simp; omega)) _)) hb21)
    | (go_at_call 25; (with_reducible refine (k5 _).mono ?_); rintro e v22 ⟨rfl, hb22⟩; have K22 := Keeps.call (B := W.heap.size) (W := W) (by repeat (first | assumption | refine Keeps.alloc ?_ _ | refine Keeps.drew ?_ | refine Keeps.setCell ?_ (by first | (simp; done) | omega | (simp; omega)) _)) hb22))
  all_goals
    have BE : Below w.heap.size w v22 := BW.trans (K22.below.mono BW.size)
    go_wp2_with fail
    go_returns
    refine ⟨rfl, ?_⟩
    repeat (first | exact Below.refl _ _ | assumption | refine Below.setCell ?_ (by first | (simp; done) | omega | (simp; omega)) _ | refine Below.drew ?_ | refine below_drewN ?_ _ | refine Below.alloc ?_ (by first | (simp; done) | omega | (simp; omega)) _)
theorem cmpI_zero {x y : Int} (h : cmpI x y = 0) : x = y := by
  unfold cmpI at h
  split at h
  · omega
  · split at h <;> omega
theorem law_WideBack (a0 b0 a1 b1 : Int) (wa0 : (Lit.int .i64 a0).wf = true) (wb0 : (Lit.int .u64 b0).wf = true) (wa1 : (Lit.int .i64 a1).wf = true) (wb1 : (Lit.int .u64 b1).wf = true) (w : World) :
    Calls Try.prog 11 #[.agg #[.int .i64 a0, .int .u64 b0], .agg #[.int .i64 a1, .int .u64 b1]] w fun e w' => e = .returned (.bool true) ∧ Below w.heap.size w w' := by
  have i : IsW (a0, b0) := ⟨hi_of_wf wa0, lo_of_wf wb0⟩
  have j : IsW (a1, b1) := ⟨hi_of_wf wa1, lo_of_wf wb1⟩
  have sz : (⟨(txt (V a0 b0)).toArray⟩ : ByteArray).size ≤ 140737488355328 := by
    have e : (⟨(txt (V a0 b0)).toArray⟩ : ByteArray).size = (txt (V a0 b0)).length := by show (txt (V a0 b0)).toArray.size = _; simp
    have f : Fits (V a0 b0) := fits_V i.a i.b
    have := txt_short f
    omega
  have k2 := fun w => parse_spec ⟨(txt (V a0 b0)).toArray⟩ w sz
  rw [par_txt] at k2
  unfold sumRes at k2
  rw [resV_fits (fits_V i.a i.b), resE_fits (fits_V i.a i.b), hi_V i.b, lo_V i.b] at k2
  have k4 := fun w => cmp_spec a0 b0 a1 b1 i.b j.b w
  by_cases e : V a0 b0 = V a1 b1
  · obtain ⟨rfl, rfl⟩ : a0 = a1 ∧ b0 = b1 := by
      have ib := i.b; have jb := j.b
      obtain ⟨_, _⟩ := ib; obtain ⟨_, _⟩ := jb
      simp only [V] at *
      omega
    rw [show cmpI (V a0 b0) (V a0 b0) = 0 by unfold cmpI; simp] at k4
    exact back_same a0 b0 _ (print_spec a0 b0 i) k2 (print_spec a0 b0 i) k4 alive_ok w
  · have nt : ¬ txt (V a0 b0) = txt (V a1 b1) := fun h => e (txt_inj h)
    have nq : ¬ cmpI (V a0 b0) (V a1 b1) = 0 := fun h => e (cmpI_zero h)
    by_cases h : a0 = a1
    · subst h
      exact back_lo a0 b0 _ b1 _ _ (print_spec a0 b0 i) k2 (print_spec a0 b1 j) k4 alive_ok (fun h => e (by rw [h])) nt nq w
    · exact back_hi a0 b0 _ a1 b1 _ _ (print_spec a0 b0 i) k2 (print_spec a1 b1 j) k4 alive_ok h nt nq w
end Go.Proofs.Ythcgkpmlfbjagaa
