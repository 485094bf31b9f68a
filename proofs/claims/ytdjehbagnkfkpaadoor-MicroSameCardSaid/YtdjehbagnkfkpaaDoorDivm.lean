/- Plain numbers: a division of two words by one, digit by digit of 32 bits. No Go in sight. -/
import Derived.Test.YtdjehbagnkfkpaaDoorMath
namespace Go.Proofs.YtdjehbagnkfkpaaDoor
set_option linter.unusedVariables false
namespace W
/-- A divisor whose highest bit is set, and its halves. -/
structure Norm (v n1 n0 : Int) : Prop where
  e : v = n1 * 4294967296 + n0
  a : 2147483648 ≤ n1
  b : n1 < 4294967296
  c : 0 ≤ n0
  d : n0 < 4294967296
/-- A digit that is tried: not too small, and at most two too great. -/
structure Try (u d v n1 q r : Int) : Prop where
  e : u = q * n1 + r
  r0 : 0 ≤ r
  r1 : r < 4294967296
  q0 : 0 ≤ q
  q1 : q ≤ 4294967297
  up : (u * 4294967296 + d) / v ≤ q
theorem Norm.pos {v n1 n0 : Int} (n : Norm v n1 n0) : 0 < v := by obtain ⟨e, a, b, c, d⟩ := n; omega
theorem Norm.mul {v n1 n0 : Int} (n : Norm v n1 n0) (q : Int) : q * v = q * n1 * 4294967296 + q * n0 := by rw [n.e, Int.mul_add, Int.mul_assoc]
theorem digit_nonneg {u d v : Int} (u0 : 0 ≤ u) (d0 : 0 ≤ d) (hv : 0 < v) : 0 ≤ (u * 4294967296 + d) / v := Int.ediv_nonneg (by omega) (by omega)
theorem digit_lt {u d v : Int} (u1 : u < v) (d1 : d < 4294967296) (hv : 0 < v) : (u * 4294967296 + d) / v < 4294967296 :=
  Int.ediv_lt_of_lt_mul hv (by omega)
theorem try_start {u d v n1 n0 : Int} (n : Norm v n1 n0) (u0 : 0 ≤ u) (u1 : u < v) (d0 : 0 ≤ d) (d1 : d < 4294967296) : Try u d v n1 (u / n1) (u - u / n1 * n1) := by
  have hv := n.pos
  have hn : 0 < n1 := by have := n.a; omega
  have h1 := Int.ediv_mul_le u (show n1 ≠ 0 by omega)
  have h2 := Int.lt_ediv_add_one_mul_self u hn
  rw [Int.add_mul, Int.one_mul] at h2
  have q0 : 0 ≤ u / n1 := Int.ediv_nonneg u0 (by omega)
  have m := n.mul ((u * 4294967296 + d) / v)
  have g := Int.ediv_mul_le (u * 4294967296 + d) (show v ≠ 0 by omega)
  have p := digit_nonneg u0 d0 hv
  have y0 : 0 ≤ (u * 4294967296 + d) / v * n0 := Int.mul_nonneg p n.c
  have k : (u * 4294967296 + d) / v * n1 ≤ u := by omega
  have q1 : u / n1 < 4294967298 := Int.ediv_lt_of_lt_mul hn (by have := n.e; have := n.a; have := n.d; omega)
  exact ⟨by omega, by omega, by have := n.b; omega, q0, by omega, Int.le_ediv_of_mul_le hn k⟩
/-- The test says that the digit is too great. -/
theorem Try.more {u d v n1 n0 q r : Int} (n : Norm v n1 n0) (t : Try u d v n1 q r) (u1 : u < v) (d1 : d < 4294967296) (h : 4294967296 ≤ q ∨ 4294967296 * r + d < q * n0) : (u * 4294967296 + d) / v ≤ q - 1 := by
  have hv := n.pos
  rcases h with h | h
  · have := digit_lt u1 d1 hv; omega
  · have m := n.mul q
    have e := t.e
    have : (u * 4294967296 + d) / v < q := Int.ediv_lt_of_lt_mul hv (by omega)
    omega
theorem Try.again {u d v n1 n0 q r : Int} (n : Norm v n1 n0) (t : Try u d v n1 q r) (u0 : 0 ≤ u) (u1 : u < v) (d0 : 0 ≤ d) (d1 : d < 4294967296) (h : 4294967296 ≤ q ∨ 4294967296 * r + d < q * n0) (hr : r + n1 < 4294967296) : Try u d v n1 (q - 1) (r + n1) := by
  have up := t.more n u1 d1 h
  have p := digit_nonneg u0 d0 n.pos
  obtain ⟨e, r0, r1, q0, q1, _⟩ := t
  exact ⟨by rw [Int.sub_mul, Int.one_mul]; omega, by have := n.a; omega, hr, by omega, by omega, up⟩
theorem Try.stop {u d v n1 n0 q r : Int} (n : Norm v n1 n0) (t : Try u d v n1 q r) (u1 : u < v) (d0 : 0 ≤ d) (d1 : d < 4294967296) (h : 4294967296 ≤ q ∨ 4294967296 * r + d < q * n0) (hr : 4294967296 ≤ r + n1) : q - 1 = (u * 4294967296 + d) / v := by
  have up := t.more n u1 d1 h
  have m := n.mul (q - 1)
  obtain ⟨e, r0, r1, q0, q1, _⟩ := t
  have k : (q - 1) * n1 = u - r - n1 := by rw [Int.sub_mul, Int.one_mul]; omega
  have hq : 0 ≤ q := q0
  have l : (q - 1) * n0 ≤ 4294967296 * 4294967296 := by
    by_cases z : q = 0
    · subst z; have := n.c; omega
    · exact Int.mul_le_mul (by omega) (by have := n.d; omega) n.c (by omega)
  have : q - 1 ≤ (u * 4294967296 + d) / v := Int.le_ediv_of_mul_le n.pos (by rw [m, k]; omega)
  omega
theorem Try.done {u d v n1 n0 q r : Int} (n : Norm v n1 n0) (t : Try u d v n1 q r) (h : q * n0 ≤ 4294967296 * r + d) : q = (u * 4294967296 + d) / v := by
  have m := n.mul q
  obtain ⟨e, r0, r1, q0, q1, up⟩ := t
  have : q ≤ (u * 4294967296 + d) / v := Int.le_ediv_of_mul_le n.pos (by rw [m]; omega)
  omega
/-- What is left behind a digit, modulo 2^64. -/
theorem left_digit {u d v : Int} (u0 : 0 ≤ u) (d0 : 0 ≤ d) (hv : 0 < v) (hb : v < 18446744073709551616) :
    ((u * 4294967296 + d) - (u * 4294967296 + d) / v * v) % 18446744073709551616 = (u * 4294967296 + d) % v := by
  have e := Int.emod_def (u * 4294967296 + d) v
  rw [Int.mul_comm v] at e
  rw [← e]
  have := Int.emod_nonneg (u * 4294967296 + d) (show v ≠ 0 by omega)
  have := Int.emod_lt_of_pos (u * 4294967296 + d) hv
  exact Int.emod_eq_of_lt (by omega) (by omega)
/-- Two digits are the quotient; what is left behind them is what is left. -/
theorem two_digits {N y p v x1 x0 : Int} (hp : 0 < p) (hy : 0 < y) (ev : v = y * p) {u : Int} (eu : N * p = u * 18446744073709551616 + x1 * 4294967296 + x0)
    (h0 : 0 ≤ x0) (h1 : x0 < 4294967296) :
    (u * 4294967296 + x1) / v * 4294967296 + ((u * 4294967296 + x1) % v * 4294967296 + x0) / v = N / y ∧ ((u * 4294967296 + x1) % v * 4294967296 + x0) % v / p = N % y := by
  have hv : 0 < v := by rw [ev]; exact Int.mul_pos hy hp
  have a := Int.mul_ediv_add_emod (u * 4294967296 + x1) v
  have b := Int.mul_ediv_add_emod ((u * 4294967296 + x1) % v * 4294967296 + x0) v
  have r0 := Int.emod_nonneg ((u * 4294967296 + x1) % v * 4294967296 + x0) (show v ≠ 0 by omega)
  have r1 := Int.emod_lt_of_pos ((u * 4294967296 + x1) % v * 4294967296 + x0) hv
  generalize ((u * 4294967296 + x1) % v * 4294967296 + x0) % v = R at *
  generalize ((u * 4294967296 + x1) % v * 4294967296 + x0) / v = Q0 at *
  generalize (u * 4294967296 + x1) / v = Q1 at *
  have e : N * p = R + v * (Q1 * 4294967296 + Q0) := by
    rw [Int.mul_add, ← Int.mul_assoc]; omega
  have q : N * p / v = Q1 * 4294967296 + Q0 := by
    rw [e, Int.add_mul_ediv_left _ _ (by omega), Int.ediv_eq_zero_of_lt r0 r1]; omega
  have r : N * p % v = R := by rw [e, Int.add_mul_emod_self_left]; exact Int.emod_eq_of_lt r0 r1
  rw [ev] at q r
  rw [Int.mul_ediv_mul_of_pos_left _ _ hp] at q
  rw [Int.mul_comm N, Int.mul_comm y, Int.mul_emod_mul_of_pos _ _ hp] at r
  exact ⟨q.symm, by rw [← r]; exact Int.mul_ediv_cancel_left _ (by omega)⟩
end W
end Go.Proofs.YtdjehbagnkfkpaaDoor
