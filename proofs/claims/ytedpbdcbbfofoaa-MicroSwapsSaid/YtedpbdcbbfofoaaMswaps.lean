/- MicroSwaps: the law. (gen_mswaps.py) -/
import Derived.Test.YtedpbdcbbfofoaaMpartb
namespace Go.Proofs.Ytedpbdcbbfofoaa
set_option linter.unusedVariables false
open Go.RowKit W
set_option maxHeartbeats 4000000 in
theorem swaps_walk (a b v f : Int)
    (k1 : ∀ w, Calls Try.prog 15 #[.int .i64 a, .int .i64 b] w fun e w' => e = .returned (.tuple #[.int .i64 v, .int .i64 f]) ∧ Below w.heap.size w w')
    (k2 : ∀ w, Calls Try.prog 15 #[.int .i64 b, .int .i64 a] w fun e w' => e = .returned (.tuple #[.int .i64 v, .int .i64 f]) ∧ Below w.heap.size w w')
    (k3 : ∀ w, Calls Try.prog 15 #[.int .i64 a, .int .i64 1000000] w fun e w' => e = .returned (.tuple #[.int .i64 a, .int .i64 0]) ∧ Below w.heap.size w w')
    (k4 : ∀ w, Calls Try.prog 17 #[.int .i64 a, .int .i64 1000000] w fun e w' => e = .returned (.tuple #[.int .i64 a, .int .i64 0]) ∧ Below w.heap.size w w')
    (w : World) : Calls Try.prog 7 #[.int .i64 a, .int .i64 b] w fun e w' => e = .returned (.bool true) ∧ Below w.heap.size w w' := by
  go_enter Try.func7, Try.ntmps7
  go_wp2_with fail
  refine (k1 _).mono ?_
  rintro e w1 ⟨rfl, h1⟩
  have B1 : Below w.heap.size w w1 := Below.trans (by go_grown) (h1.mono (by first | (simp; done) | omega | (simp; omega)))
  have y1 := B1.size
  clear h1 k1
  go_wp2_with fail
  refine (k2 _).mono ?_
  rintro e w2 ⟨rfl, h2⟩
  have B2 : Below w.heap.size w w2 := Below.trans (by go_grown) (h2.mono (by first | (simp; done) | omega | (simp; omega)))
  have y2 := B2.size
  clear h2 k2 B1
  go_wp2_with fail
  refine (k3 _).mono ?_
  rintro e w3 ⟨rfl, h3⟩
  have B3 : Below w.heap.size w w3 := Below.trans (by go_grown) (h3.mono (by first | (simp; done) | omega | (simp; omega)))
  have y3 := B3.size
  clear h3 k3 B2
  go_wp2_with fail
  refine (k4 _).mono ?_
  rintro e w4 ⟨rfl, h4⟩
  have B4 : Below w.heap.size w w4 := Below.trans (by go_grown) (h4.mono (by first | (simp; done) | omega | (simp; omega)))
  have y4 := B4.size
  clear h4 k4 B3
  go_wp2_with fail
  go_returns
  exact ⟨rfl, B4⟩
theorem part_swap (a b c : Int) : partV b a c = partV a b c ∧ partE b a c = partE a b c := by unfold partV partE; rw [Int.mul_comm b a]; exact ⟨rfl, rfl⟩
theorem part_one (a : Int) (i : IsHi a) : partV a 1000000 1000000 = a ∧ partE a 1000000 1000000 = 0 := by
  have e : Int.tdiv (a * 1000000) 1000000 = a := Int.mul_tdiv_cancel a (by omega)
  have s : smallB a = true := decide_eq_true i
  unfold partV partE
  rw [if_neg (by omega), if_neg (by omega), e, s]
  exact ⟨if_pos i, rfl⟩
theorem law_MicroSwaps (a0 a1 : Int) (w0 : (Lit.int .i64 a0).wf = true) (w1 : (Lit.int .i64 a1).wf = true) (w : World) :
    Calls Try.prog 7 #[.int .i64 a0, .int .i64 a1] w fun e w' => e = .returned (.bool true) ∧ Below w.heap.size w w' := by
  have i := hi_of_wf w0
  have j := hi_of_wf w1
  have k2 := product_spec a1 a0 j i
  rw [(part_swap a0 a1 1000000).1, (part_swap a0 a1 1000000).2] at k2
  have k3 := product_spec a0 1000000 i isHi_unit
  have k4 := ratio_spec a0 1000000 i isHi_unit
  rw [(part_one a0 i).1, (part_one a0 i).2] at k3 k4
  exact swaps_walk a0 a1 _ _ (product_spec a0 a1 i j) k2 k3 k4 w
end Go.Proofs.Ytedpbdcbbfofoaa
