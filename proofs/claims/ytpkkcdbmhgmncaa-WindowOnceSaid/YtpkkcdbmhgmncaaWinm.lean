/- Plain numbers for windows: floors, words of 64 bits. No Go in sight. -/
import Derived.Test.YtpkkcdbmhgmncaaMath
import Derived.IntWalk
namespace Go.Proofs.Ytpkkcdbmhgmncaa
set_option linter.unusedVariables false
namespace W
open Go.RowKit
theorem wrap_in {x : Int} (j : IsHi x) : wrap64 x = x := by obtain ⟨a, b⟩ := j; unfold wrap64; omega
theorem div_hi {t d : Int} (j : IsHi t) (h : 1 ≤ d) : IsHi (t / d) := by
  obtain ⟨a, b⟩ := j
  exact ⟨Int.le_ediv_of_mul_le (by omega) (by omega), Int.ediv_lt_of_lt_mul (by omega) (by omega)⟩
theorem floor_neg {t d : Int} (h : 1 ≤ d) (r : t.tmod d < 0) : t.tdiv d = t / d + 1 ∧ t < 0 := by
  have e := Int.tmod_add_mul_tdiv t d
  have n : t < 0 := by
    rcases Int.lt_or_le t 0 with n | n
    · exact n
    · have := Int.tmod_nonneg d n; omega
  have b : -d < t.tmod d := by
    have := Int.lt_tmod_of_pos t (show 0 < d by omega); omega
  have k : t / d = t.tdiv d - 1 := by
    have hm : d * (t.tdiv d - 1) = d * t.tdiv d - d := by rw [Int.mul_sub, Int.mul_one]
    exact ((Int.ediv_emod_unique (show 0 < d by omega) (r := t.tmod d + d) (q := t.tdiv d - 1)).2 ⟨by omega, by omega, by omega⟩).1
  omega
theorem floor_pos {t d : Int} (h : 1 ≤ d) (r : 0 ≤ t.tmod d) : t.tdiv d = t / d := by
  have e := Int.tmod_add_mul_tdiv t d
  have b : t.tmod d < d := Int.tmod_lt_of_pos t (by omega)
  exact ((Int.ediv_emod_unique (show 0 < d by omega) (r := t.tmod d) (q := t.tdiv d)).2 ⟨by omega, by omega, by omega⟩).1.symm
theorem div_neg1 {t d : Int} (h : 1 ≤ d) (n : t < 0) : t / d < 0 := Int.ediv_lt_of_lt_mul (by omega) (by omega)
theorem wrap_floor_neg {t d : Int} (j : IsHi t) (h : 1 ≤ d) (r : t.tmod d < 0) : wrap64 (wrap64 (t.tdiv d) - 1) = t / d := by
  obtain ⟨e, n⟩ := floor_neg h r
  have k := div_hi j h
  have m := div_neg1 h n
  obtain ⟨a, b⟩ := k
  have w1 : wrap64 (t / d + 1) = t / d + 1 := wrap_in ⟨by omega, by omega⟩
  have w2 : wrap64 (t / d + 1 - 1) = t / d + 1 - 1 := wrap_in ⟨by omega, by omega⟩
  rw [e, w1, w2]
  omega
theorem wrap_floor_pos {t d : Int} (j : IsHi t) (h : 1 ≤ d) (r : 0 ≤ t.tmod d) : wrap64 (t.tdiv d) = t / d := by
  rw [floor_pos h r]; exact wrap_in (div_hi j h)
def begV (v : Int) : Int := if IsHi v then v else 0
def begE (v : Int) : Int := if IsHi v then 0 else 60
theorem begV_in {v : Int} (f : IsHi v) : begV v = v := by unfold begV; rw [if_pos f]
theorem begE_in {v : Int} (f : IsHi v) : begE v = 0 := by unfold begE; rw [if_pos f]
theorem begV_not {v : Int} (f : ¬ IsHi v) : begV v = 0 := by unfold begV; rw [if_neg f]
theorem begE_not {v : Int} (f : ¬ IsHi v) : begE v = 60 := by unfold begE; rw [if_neg f]
theorem beg_le {t d : Int} (h : 1 ≤ d) : t ≤ 9223372036854775807 / d ↔ t * d ≤ 9223372036854775807 := Int.le_ediv_iff_mul_le (by omega)
theorem beg_ge {t d : Int} (h : 1 ≤ d) : wrap64 (-Int.tdiv 9223372036854775808 d) ≤ t ↔ -9223372036854775808 ≤ t * d := by
  have e : Int.tdiv 9223372036854775808 d = 9223372036854775808 / d := Int.tdiv_eq_ediv_of_nonneg (by omega)
  have a : 9223372036854775808 / d ≤ 9223372036854775808 := Int.ediv_le_of_le_mul (by omega) (by omega)
  have b : 0 ≤ 9223372036854775808 / d := Int.ediv_nonneg (by omega) (by omega)
  have w : wrap64 (-(9223372036854775808 / d)) = -(9223372036854775808 / d) := wrap_in ⟨by omega, by omega⟩
  have c : -t ≤ 9223372036854775808 / d ↔ -t * d ≤ 9223372036854775808 := Int.le_ediv_iff_mul_le (by omega)
  have f : -t * d = -(t * d) := Int.neg_mul t d
  rw [e, w]
  omega
end W
end Go.Proofs.Ytpkkcdbmhgmncaa
