/- MicroProducts, MicroRatios, MicroScales: the laws. (gen_mlaws.py) -/
import Derived.Test.YtedpbdcbbfofoaaMrefb
namespace Go.Proofs.Ytedpbdcbbfofoaa
set_option linter.unusedVariables false
open Go.RowKit W
set_option maxHeartbeats 4000000 in
theorem microproducts_walk (x y v f : Int)
    (k1 : ∀ w, Calls Try.prog 15 #[.int .i64 x, .int .i64 y] w fun e w' => e = .returned (.tuple #[.int .i64 v, .int .i64 f]) ∧ Below w.heap.size w w')
    (k2 : ∀ w, Calls Try.prog 16 #[.int .i64 x, .int .i64 y] w fun e w' => e = .returned (.tuple #[.int .i64 v, .int .i64 f]) ∧ Below w.heap.size w w')
    (k3 : ∀ w, Calls Try.prog 15 #[.int .i64 1500000, .int .i64 2000000] w fun e w' => e = .returned (.tuple #[.int .i64 3000000, .int .i64 0]) ∧ Below w.heap.size w w')
    (w : World) : Calls Try.prog 5 #[.int .i64 x, .int .i64 y] w fun e w' => e = .returned (.bool true) ∧ Below w.heap.size w w' := by
  go_enter Try.func5, Try.ntmps5
  go_wp2_with fail
  refine (k1 _).mono ?_
  rintro e w1 ⟨rfl, h1⟩
  have B1 : Below w.heap.size w w1 := Below.trans (by go_grown) (h1.mono (by first | (simp; done) | omega | (simp; omega)))
  have y1 := B1.size
  clear h1 k1
  go_wp2_with fail
  refine (k2 _).mono ?_
  rintro e w2 ⟨rfl, h2⟩
  have B2 : Below w.heap.size w w2 := Below.trans (by go_grown) (h2.mono (by first | (simp; done) | omega | (simp; omega)))
  have y2 := B2.size
  clear h2 k2 B1
  go_wp2_with fail
  refine (k3 _).mono ?_
  rintro e w3 ⟨rfl, h3⟩
  have B3 : Below w.heap.size w w3 := Below.trans (by go_grown) (h3.mono (by first | (simp; done) | omega | (simp; omega)))
  have y3 := B3.size
  clear h3 k3 B2
  go_wp2_with fail
  go_returns
  exact ⟨rfl, B3⟩
theorem law_MicroProducts (a0 a1 : Int) (w0 : (Lit.int .i64 a0).wf = true) (w1 : (Lit.int .i64 a1).wf = true) (w : World) :
    Calls Try.prog 5 #[.int .i64 a0, .int .i64 a1] w fun e w' => e = .returned (.bool true) ∧ Below w.heap.size w w' := by
  have k3 := product_spec 1500000 2000000 ⟨by omega, by omega⟩ ⟨by omega, by omega⟩
  rw [show partV 1500000 2000000 1000000 = 3000000 by decide, show partE 1500000 2000000 1000000 = 0 by decide] at k3
  exact microproducts_walk a0 a1 _ _ (product_spec a0 a1 (hi_of_wf w0) (hi_of_wf w1)) (rproduct_spec a0 a1 (hi_of_wf w0) (hi_of_wf w1)) k3 w
set_option maxHeartbeats 4000000 in
theorem microratios_walk (x y v f : Int)
    (k1 : ∀ w, Calls Try.prog 17 #[.int .i64 x, .int .i64 y] w fun e w' => e = .returned (.tuple #[.int .i64 v, .int .i64 f]) ∧ Below w.heap.size w w')
    (k2 : ∀ w, Calls Try.prog 18 #[.int .i64 x, .int .i64 y] w fun e w' => e = .returned (.tuple #[.int .i64 v, .int .i64 f]) ∧ Below w.heap.size w w')
    (k3 : ∀ w, Calls Try.prog 17 #[.int .i64 1000000, .int .i64 3000000] w fun e w' => e = .returned (.tuple #[.int .i64 333333, .int .i64 0]) ∧ Below w.heap.size w w')
    (w : World) : Calls Try.prog 6 #[.int .i64 x, .int .i64 y] w fun e w' => e = .returned (.bool true) ∧ Below w.heap.size w w' := by
  go_enter Try.func6, Try.ntmps6
  go_wp2_with fail
  refine (k1 _).mono ?_
  rintro e w1 ⟨rfl, h1⟩
  have B1 : Below w.heap.size w w1 := Below.trans (by go_grown) (h1.mono (by first | (simp; done) | omega | (simp; omega)))
  have y1 := B1.size
  clear h1 k1
  go_wp2_with fail
  refine (k2 _).mono ?_
  rintro e w2 ⟨rfl, h2⟩
  have B2 : Below w.heap.size w w2 := Below.trans (by go_grown) (h2.mono (by first | (simp; done) | omega | (simp; omega)))
  have y2 := B2.size
  clear h2 k2 B1
  go_wp2_with fail
  refine (k3 _).mono ?_
  rintro e w3 ⟨rfl, h3⟩
  have B3 : Below w.heap.size w w3 := Below.trans (by go_grown) (h3.mono (by first | (simp; done) | omega | (simp; omega)))
  have y3 := B3.size
  clear h3 k3 B2
  go_wp2_with fail
  go_returns
  exact ⟨rfl, B3⟩
theorem law_MicroRatios (a0 a1 : Int) (w0 : (Lit.int .i64 a0).wf = true) (w1 : (Lit.int .i64 a1).wf = true) (w : World) :
    Calls Try.prog 6 #[.int .i64 a0, .int .i64 a1] w fun e w' => e = .returned (.bool true) ∧ Below w.heap.size w w' := by
  have k3 := ratio_spec 1000000 3000000 ⟨by omega, by omega⟩ ⟨by omega, by omega⟩
  rw [show partV 1000000 1000000 3000000 = 333333 by decide, show partE 1000000 1000000 3000000 = 0 by decide] at k3
  exact microratios_walk a0 a1 _ _ (ratio_spec a0 a1 (hi_of_wf w0) (hi_of_wf w1)) (rratio_spec a0 a1 (hi_of_wf w0) (hi_of_wf w1)) k3 w
set_option maxHeartbeats 4000000 in
theorem microscales_walk (x y v f : Int)
    (k1 : ∀ w, Calls Try.prog 11 #[.int .i64 x, .int .i64 y] w fun e w' => e = .returned (.tuple #[.int .i64 v, .int .i64 f]) ∧ Below w.heap.size w w')
    (k2 : ∀ w, Calls Try.prog 12 #[.int .i64 x, .int .i64 y] w fun e w' => e = .returned (.tuple #[.int .i64 v, .int .i64 f]) ∧ Below w.heap.size w w')
    (k3 : ∀ w, Calls Try.prog 11 #[.int .i64 3000000, .int .i64 100000] w fun e w' => e = .returned (.tuple #[.int .i64 30000000, .int .i64 0]) ∧ Below w.heap.size w w')
    (w : World) : Calls Try.prog 3 #[.int .i64 x, .int .i64 y] w fun e w' => e = .returned (.bool true) ∧ Below w.heap.size w w' := by
  go_enter Try.func3, Try.ntmps3
  go_wp2_with fail
  refine (k1 _).mono ?_
  rintro e w1 ⟨rfl, h1⟩
  have B1 : Below w.heap.size w w1 := Below.trans (by go_grown) (h1.mono (by first | (simp; done) | omega | (simp; omega)))
  have y1 := B1.size
  clear h1 k1
  go_wp2_with fail
  refine (k2 _).mono ?_
  rintro e w2 ⟨rfl, h2⟩
  have B2 : Below w.heap.size w w2 := Below.trans (by go_grown) (h2.mono (by first | (simp; done) | omega | (simp; omega)))
  have y2 := B2.size
  clear h2 k2 B1
  go_wp2_with fail
  refine (k3 _).mono ?_
  rintro e w3 ⟨rfl, h3⟩
  have B3 : Below w.heap.size w w3 := Below.trans (by go_grown) (h3.mono (by first | (simp; done) | omega | (simp; omega)))
  have y3 := B3.size
  clear h3 k3 B2
  go_wp2_with fail
  go_returns
  exact ⟨rfl, B3⟩
theorem law_MicroScales (a0 a1 : Int) (w0 : (Lit.int .i64 a0).wf = true) (w1 : (Lit.int .i64 a1).wf = true) (w : World) :
    Calls Try.prog 3 #[.int .i64 a0, .int .i64 a1] w fun e w' => e = .returned (.bool true) ∧ Below w.heap.size w w' := by
  have k3 := scale_spec 3000000 100000 ⟨by omega, by omega⟩ ⟨by omega, by omega⟩
  rw [show scaleV 3000000 100000 = 30000000 by decide, show scaleE 3000000 100000 = 0 by decide] at k3
  exact microscales_walk a0 a1 _ _ (scale_spec a0 a1 (hi_of_wf w0) (hi_of_wf w1)) (rscale_spec a0 a1 (hi_of_wf w0) (hi_of_wf w1)) k3 w
end Go.Proofs.Ytedpbdcbbfofoaa
