/- Plain numbers: the square root, bit by bit. -/
import Derived.Test.YthcgkpmlfbjagaaWbits
import Derived.Laws.BitsAllLaws
namespace Go.Proofs.Ythcgkpmlfbjagaa
set_option linter.unusedVariables false
open Go.RowKit W
theorem root_or (r : Int) (k : Nat) (hk : k < 64) (a : 0 ≤ r) (b : r < 18446744073709551616) (hr : r % 2 ^ (k + 1) = 0) : bits .or .u64 r (2 ^ k) = r + 2 ^ k := by
  have p : (0 : Int) < 2 ^ k := Int.pow_pos (by omega)
  have q : (2 : Int) ^ k < 18446744073709551616 := by
    have e : (2 : Int) ^ k = ((2 ^ k : Nat) : Int) := by simp
    have l : 2 ^ k ≤ 2 ^ 63 := Nat.pow_le_pow_right (by omega) (by omega)
    omega
  rw [u64_or r (2 ^ k) a b (by omega) q]
  obtain ⟨n, rfl⟩ := Int.eq_ofNat_of_zero_le a
  have e : ((2 : Int) ^ k).toNat = 2 ^ k := by
    have : (2 : Int) ^ k = ((2 ^ k : Nat) : Int) := by simp
    rw [this]; rfl
  have hn : n % 2 ^ (k + 1) = 0 := by
    have : ((n % 2 ^ (k + 1) : Nat) : Int) = 0 := by simpa using hr
    omega
  rw [e]
  show ((n ||| 2 ^ k : Nat) : Int) = _
  rw [nat_join (k + 1) n (2 ^ k) hn (Nat.pow_lt_pow_right (by omega) (by omega))]
  simp
/-- The state of the root's loop: r has bits from k on. -/
structure RootAt (m r : Int) (k : Nat) : Prop where
  kk : k ≤ 64
  lo : 0 ≤ r
  fit : r + 2 ^ k ≤ 18446744073709551616
  mul : r % 2 ^ k = 0
  sq : r * r ≤ m
  up : m < (r + 2 ^ k) * (r + 2 ^ k)
theorem RootAt.start (m : Int) (a : 0 ≤ m) (b : m < 340282366920938463463374607431768211456) : RootAt m 0 64 := ⟨by omega, by omega, by decide, by decide, by omega, by simpa using b⟩
theorem pow2 (k : Nat) : (2 : Int) ^ (k + 1) = 2 * 2 ^ k := by rw [Int.pow_succ]; omega
theorem mod_half {r p : Int} (h : r % (2 * p) = 0) : r % p = 0 := Int.emod_eq_zero_of_dvd (Int.dvd_trans ⟨2, by omega⟩ (Int.dvd_of_emod_eq_zero h))
theorem RootAt.yes {m r : Int} {k : Nat} (h : RootAt m r (k + 1)) (s : (r + 2 ^ k) * (r + 2 ^ k) ≤ m) : RootAt m (r + 2 ^ k) k := by
  obtain ⟨a, b, c, d, e, f⟩ := h
  have p : (0 : Int) < 2 ^ k := Int.pow_pos (by omega)
  rw [pow2] at c d f
  refine ⟨by omega, by omega, by omega, ?_, s, ?_⟩
  · have := mod_half d
    rw [Int.add_emod, this]; simp
  · have e2 : r + 2 ^ k + 2 ^ k = r + 2 * 2 ^ k := by omega
    rw [e2]; exact f
theorem RootAt.no {m r : Int} {k : Nat} (h : RootAt m r (k + 1)) (s : m < (r + 2 ^ k) * (r + 2 ^ k)) : RootAt m r k := by
  obtain ⟨a, b, c, d, e, f⟩ := h
  have p : (0 : Int) < 2 ^ k := Int.pow_pos (by omega)
  rw [pow2] at c d f
  exact ⟨by omega, b, by omega, mod_half d, e, s⟩
end Go.Proofs.Ythcgkpmlfbjagaa
