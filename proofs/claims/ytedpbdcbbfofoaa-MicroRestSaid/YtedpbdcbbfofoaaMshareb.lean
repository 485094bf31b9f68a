/- micro.Share and the reference's; MicroShares. -/
import Derived.Test.YtedpbdcbbfofoaaMshare
import Derived.Test.YtedpbdcbbfofoaaMref
import Derived.Test.YtedpbdcbbfofoaaMpartb
namespace Go.Proofs.Ytedpbdcbbfofoaa
set_option linter.unusedVariables false
open Go.RowKit W
def shareV (v n : Int) : Int := if n < 1 then 0 else Int.tdiv v n
def shareE (n : Int) : Int := if n < 1 then 1 else 0
theorem share_fits {v n : Int} (f : Fits v) (h : ¬ n < 1) : Fits (Int.tdiv v n) := by
  rw [tdiv_sg]
  have en : ab n = n := by unfold ab; rw [if_neg (by omega)]
  rw [en, decide_eq_false (show ¬ n < 0 by omega), Bool.bne_false]
  by_cases o : n = 1
  · subst o
    rw [Int.ediv_one]
    have : sg (decide (v < 0)) (ab v) = v := by unfold sg ab; by_cases g : v < 0 <;> simp [g]
    rw [this]; exact f
  · have a := ab_nonneg v
    have b : ab v ≤ 170141183460469231731687303715884105728 := by obtain ⟨_, _⟩ := f; unfold ab; split <;> omega
    have q0 : 0 ≤ ab v / n := Int.ediv_nonneg a (by omega)
    have q1 : ab v / n < 85070591730234615865843651857942052865 := Int.ediv_lt_of_lt_mul (by omega) (by omega)
    exact sg_fits q0 (by omega)
theorem share_spec (a b n : Int) (i : IsW (a, b)) (j : IsHi n) (w : World) :
    Calls Try.prog 13 #[.agg #[.int .i64 a, .int .u64 b], .int .i64 n] w
      fun y w' => y = .returned (.tuple #[.agg #[.int .i64 (hi (shareV (V a b) n)), .int .u64 (lo (shareV (V a b) n))], .int .i64 (shareE n)]) ∧ Below w.heap.size w w' := by
  unfold shareV shareE
  by_cases h : n < 1
  · rw [if_pos h, if_pos h]
    exact share_low a b n h w
  · rw [if_neg h, if_neg h]
    have f := share_fits (fits_V i.a i.b : Fits (V a b)) h
    have kq := quo_spec a b (hi n) (lo n) i (isW_small j) (by rw [V_hi_lo]; omega)
    rw [V_hi_lo] at kq
    have e1 : quoQ (V a b) n = Int.tdiv (V a b) n := if_pos f
    rw [e1, resE_fits f] at kq
    exact share_walk a b n _ _ _ _ _ _ _ h (wof_spec n j) kq w
theorem ramount_mg (a b : Int) (i : IsW (a, b)) (w : World) :
    Calls Try.prog 19 #[.agg #[.int .i64 a, .int .u64 b]] w fun e w' => e = .returned (.tuple #[mgV (ab (V a b)), .bool (decide (V a b < 0))]) ∧ Below w.heap.size w w' := by
  have c := ramount_spec a b i w
  have f : Fits (V a b) := fits_V i.a i.b
  have le := ab_le f
  have h1 : mh (ab (V a b)) = hi (ab (V a b)) := by unfold mh u hi; omega
  have h3 := (V_mag le.1 (show ab (V a b) < 340282366920938463463374607431768211456 by omega)).2
  show Calls Try.prog _ _ w fun e w' => e = .returned (.tuple #[magV (mh (ab (V a b))) (ml (ab (V a b))) (mo (ab (V a b))), .bool (decide (V a b < 0))]) ∧ Below w.heap.size w w'
  rw [h1, h3, ← neg_hi i]
  exact c
end Go.Proofs.Ytedpbdcbbfofoaa
