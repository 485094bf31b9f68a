/- Complements of words. -/
import Derived.Test.YtnlefakicjojdaaWbase
namespace Go.Proofs.Ytnlefakicjojdaa
set_option linter.unusedVariables false
open Go.RowKit W
theorem xor_i64 (c : Int) (j : IsHi c) : bits .xor .i64 (-1) c = -c - 1 := by
  obtain ⟨a, b⟩ := j
  have h : (BitVec.ofInt 64 (-1) ^^^ BitVec.ofInt 64 c).toNat = 18446744073709551615 - (c % 18446744073709551616).toNat := by
    have h1 : BitVec.ofInt 64 (-1) = BitVec.allOnes 64 := by decide
    rw [h1, BitVec.allOnes_xor, BitVec.toNat_not, BitVec.toNat_ofInt]; simp
  show IntKind.i64.wrap ((BitVec.ofInt 64 (-1) ^^^ BitVec.ofInt 64 c).toNat : Int) = _
  rw [h, IntKind.wrap_i64]; omega
theorem xor_u64 (c : Int) (j : IsLo c) : bits .xor .u64 IntKind.u64.max c = -c - 1 + 18446744073709551616 := by
  obtain ⟨a, b⟩ := j
  have h : (BitVec.ofInt 64 IntKind.u64.max ^^^ BitVec.ofInt 64 c).toNat = 18446744073709551615 - (c % 18446744073709551616).toNat := by
    have h1 : BitVec.ofInt 64 IntKind.u64.max = BitVec.allOnes 64 := by decide
    rw [h1, BitVec.allOnes_xor, BitVec.toNat_not, BitVec.toNat_ofInt]; simp
  show IntKind.u64.wrap ((BitVec.ofInt 64 IntKind.u64.max ^^^ BitVec.ofInt 64 c).toNat : Int) = _
  rw [h, IntKind.wrap_u64]; omega
end Go.Proofs.Ytnlefakicjojdaa
