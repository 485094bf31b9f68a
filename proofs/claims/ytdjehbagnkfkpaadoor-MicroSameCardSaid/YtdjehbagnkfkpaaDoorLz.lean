/- math/bits.LeadingZeros64: by how much a number is to be moved until its highest bit is set. -/
import Derived.Test.YtdjehbagnkfkpaaDoorHid
import Derived.Test.YtdjehbagnkfkpaaDoorShelf
import Derived.Lib.ItoaNum
namespace Go.Proofs.YtdjehbagnkfkpaaDoor
set_option linter.unusedVariables false
open Go.RowKit W
theorem lz_num (x : Nat) (h0 : x ≠ 0) (h1 : x < 18446744073709551616) : ∃ s : Nat, s < 64 ∧ (64 - (Lib.bitLen x : Int)) = s ∧ 9223372036854775808 ≤ x * 2 ^ s ∧ x * 2 ^ s < 18446744073709551616 := by
  obtain ⟨a, b, c⟩ := Lib.bitLenAux_bounds 64 x (by omega) h0
  have d : Lib.bitLen x ≤ 64 := Lib.bitLen_le x 64 (by omega) (by omega)
  have e : Lib.bitLen x = Lib.bitLenAux 64 x := rfl
  rw [← e] at a b c
  generalize Lib.bitLen x = n at *
  refine ⟨64 - n, by omega, by omega, ?_, ?_⟩
  · have := Nat.mul_le_mul_right (2 ^ (64 - n)) b
    rw [← Nat.pow_add, show n - 1 + (64 - n) = 63 by omega] at this
    omega
  · have := (Nat.mul_lt_mul_right (a := 2 ^ (64 - n)) (Nat.pow_pos (by omega))).2 c
    rw [← Nat.pow_add, show n + (64 - n) = 64 by omega] at this
    omega
/-- By how much the walk moves it, and that it lies in the upper half then. -/
theorem lz_spec (y : Int) (j : IsLo y) (n : y ≠ 0) : ∃ s : Nat, s < 64 ∧ 9223372036854775808 ≤ y * 2 ^ s ∧ y * 2 ^ s < 18446744073709551616 ∧
    ∀ w, Calls Tryd.prog 96 #[.int .u64 y] w fun e w' => e = .returned (.int .i64 s) ∧ w = w' := by
  obtain ⟨a, b⟩ := j
  obtain ⟨x, rfl⟩ := Int.eq_ofNat_of_zero_le a
  obtain ⟨s, h1, h2, h3, h4⟩ := lz_num x (by omega) (by omega)
  have e : ((2 : Int) ^ s) = ((2 ^ s : Nat) : Int) := by simp
  have m : (x : Int) * 2 ^ s = ((x * 2 ^ s : Nat) : Int) := by rw [e, ← Int.natCast_mul]
  refine ⟨s, h1, by omega, by omega, fun w => ?_⟩
  refine (Tryd.bits_LeadingZeros64 (x : Int) w (by omega) (by omega)).mono ?_
  rintro e w' ⟨rfl, rfl⟩
  rw [Int.toNat_natCast, h2]
  exact ⟨rfl, rfl⟩
end Go.Proofs.YtdjehbagnkfkpaaDoor
