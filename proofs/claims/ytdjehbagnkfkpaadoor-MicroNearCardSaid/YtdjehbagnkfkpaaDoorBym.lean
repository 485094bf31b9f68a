/- Plain numbers: the reference's amounts (a whole number without bound, kept modulo 2^128 and whether it is over); products by doubling; a division bit by bit. -/
import Derived.Test.YtdjehbagnkfkpaaDoorMath
namespace Go.Proofs.YtdjehbagnkfkpaaDoor
set_option linter.unusedVariables false
namespace W
/-- The words of an amount, and whether it is over. -/
def mh (x : Int) : Int := u (hi x)
def ml (x : Int) : Int := lo x
def mo (x : Int) : Bool := decide (340282366920938463463374607431768211456 ≤ x)
theorem isLo_mh (x : Int) : IsLo (mh x) := isLo_u _
theorem isLo_ml (x : Int) : IsLo (ml x) := isLo_lo _
theorem mag_plus {x y : Int} (hx : 0 ≤ x) (hy : 0 ≤ y) :
    u (hi (V (mh x) (ml x) + V (mh y) (ml y))) = mh (x + y) ∧ lo (V (mh x) (ml x) + V (mh y) (ml y)) = ml (x + y) ∧
    (mo x || mo y || decide (340282366920938463463374607431768211456 ≤ V (mh x) (ml x) + V (mh y) (ml y))) = mo (x + y) := by
  have ex : V (mh x) (ml x) = x % 340282366920938463463374607431768211456 := by unfold mh ml V u hi lo; omega
  have ey : V (mh y) (ml y) = y % 340282366920938463463374607431768211456 := by unfold mh ml V u hi lo; omega
  rw [ex, ey]
  refine ⟨?_, ?_, ?_⟩
  · unfold mh u hi; omega
  · unfold ml lo; omega
  · unfold mo
    rw [Bool.eq_iff_iff]
    simp only [Bool.or_eq_true, decide_eq_true_eq]
    omega
theorem V_mag {x : Int} (a : 0 ≤ x) (b : x < 340282366920938463463374607431768211456) : V (mh x) (ml x) = x ∧ mo x = false := by
  refine ⟨by unfold mh ml V u hi lo; omega, ?_⟩
  unfold mo; exact decide_eq_false (by omega)
theorem mag_V {h l : Int} (i : IsLo h) (j : IsLo l) : mh (V h l) = h ∧ ml (V h l) = l ∧ mo (V h l) = false := by
  obtain ⟨_, _⟩ := i; obtain ⟨_, _⟩ := j
  refine ⟨by unfold mh u hi V; omega, by unfold ml lo V; omega, ?_⟩
  unfold mo; exact decide_eq_false (by unfold V; omega)
/-- A product by doubling: behind a further bit. -/
theorem times_bit (a n : Int) (k : Nat) : a * (n / 2 ^ k) = a * (n / 2 ^ (k + 1)) + a * (n / 2 ^ (k + 1)) + (if n / 2 ^ k % 2 = 1 then a else 0) := by
  have e : n / 2 ^ (k + 1) = n / 2 ^ k / 2 := by rw [Int.pow_succ, Int.ediv_ediv_of_nonneg (by exact Int.le_of_lt (Int.pow_pos (by omega)))]
  rw [e]
  generalize n / 2 ^ k = m
  have h : m = 2 * (m / 2) + m % 2 := by omega
  have r : m % 2 = 0 ∨ m % 2 = 1 := by omega
  generalize m / 2 = q at *
  rcases r with r | r
  · rw [if_neg (by omega)]
    have : m = q + q := by omega
    rw [this, Int.mul_add]; omega
  · rw [if_pos r]
    have : m = q + q + 1 := by omega
    rw [this, Int.mul_add, Int.mul_add]; omega
theorem pow64 : (2 : Int) ^ 64 = 18446744073709551616 := by decide
theorem pow128 : (2 : Int) ^ 128 = 340282366920938463463374607431768211456 := by decide
/-- A division bit by bit: k bits are still to come. -/
structure ByAt (A n out rest : Int) (k : Nat) : Prop where
  e : A / 2 ^ k = out / 2 ^ k * n + rest
  m : out % 2 ^ k = 0
  o : 0 ≤ out
  a : 0 ≤ rest
  b : rest < n
theorem ByAt.start {A n : Int} (hn : 0 < n) (a : 0 ≤ A) (b : A < 340282366920938463463374607431768211456) : ByAt A n 0 0 128 := by
  refine ⟨?_, by simp, by omega, by omega, hn⟩
  rw [pow128]; omega
theorem ByAt.zero {A n out rest : Int} (h : ByAt A n out rest 0) : out = A / n ∧ rest = A % n := by
  obtain ⟨e, m, o, a, b⟩ := h
  simp only [Int.pow_zero, Int.ediv_one] at e
  have q : A / n = out := by
    rw [e, Int.add_comm, Int.add_mul_ediv_right _ _ (by omega), Int.ediv_eq_zero_of_lt a b]; omega
  have r : A % n = rest := by rw [e, Int.add_comm, Int.add_mul_emod_self_right]; exact Int.emod_eq_of_lt a b
  exact ⟨q.symm, r.symm⟩
theorem ByAt.le {A n out rest : Int} {k : Nat} (h : ByAt A n out rest k) (hn : 0 < n) (hA : A < 340282366920938463463374607431768211456) : out < 340282366920938463463374607431768211456 := by
  obtain ⟨e, m, o, a, b⟩ := h
  have p : (0 : Int) < 2 ^ k := Int.pow_pos (by omega)
  have h1 := Int.ediv_mul_le A (show (2 : Int) ^ k ≠ 0 by omega)
  have h2 : out = out / 2 ^ k * 2 ^ k := by have := Int.mul_ediv_add_emod out (2 ^ k); rw [Int.mul_comm] at this; omega
  have q0 : 0 ≤ out / 2 ^ k := Int.ediv_nonneg o (by omega)
  have h3 : out / 2 ^ k ≤ A / 2 ^ k := by
    rw [e]
    have : out / 2 ^ k * 1 ≤ out / 2 ^ k * n := Int.mul_le_mul_of_nonneg_left (by omega) q0
    omega
  have h4 : out / 2 ^ k * 2 ^ k ≤ A / 2 ^ k * 2 ^ k := Int.mul_le_mul_of_nonneg_right h3 (by omega)
  omega
/-- The next bit: the rest, doubled, with the bit; then the divisor goes in or not. -/
theorem ByAt.bit {A n out rest : Int} {k : Nat} (h : ByAt A n out rest (k + 1)) : A / 2 ^ k = 2 * (out / 2 ^ (k + 1)) * n + (rest * 2 + A / 2 ^ k % 2) ∧ out / 2 ^ k = 2 * (out / 2 ^ (k + 1)) ∧ out % 2 ^ k = 0 := by
  obtain ⟨e, m, o, a, b⟩ := h
  have p : (0 : Int) < 2 ^ k := Int.pow_pos (by omega)
  have d1 : A / 2 ^ (k + 1) = A / 2 ^ k / 2 := by rw [Int.pow_succ, Int.ediv_ediv_of_nonneg (by omega)]
  have d2 : out / 2 ^ (k + 1) = out / 2 ^ k / 2 := by rw [Int.pow_succ, Int.ediv_ediv_of_nonneg (by omega)]
  have hm : out = 2 ^ (k + 1) * (out / 2 ^ (k + 1)) := by have := Int.mul_ediv_add_emod out (2 ^ (k + 1)); omega
  have hd : out / 2 ^ k = 2 * (out / 2 ^ (k + 1)) := by
    generalize out / 2 ^ (k + 1) = q at *
    rw [hm, Int.pow_succ, Int.mul_assoc, Int.mul_ediv_cancel_left _ (by omega)]
  have hz : out % 2 ^ k = 0 := by
    generalize out / 2 ^ (k + 1) = q at *
    rw [hm, Int.pow_succ, Int.mul_assoc]; exact Int.mul_emod_right _ _
  refine ⟨?_, hd, hz⟩
  rw [d1] at e
  generalize A / 2 ^ k = x at *
  generalize out / 2 ^ (k + 1) = q at *
  have : 2 * q * n = q * n + q * n := by rw [Int.mul_assoc, Int.two_mul]
  omega
theorem ByAt.no {A n out rest : Int} {k : Nat} (h : ByAt A n out rest (k + 1)) (g : rest * 2 + A / 2 ^ k % 2 < n) : ByAt A n out (rest * 2 + A / 2 ^ k % 2) k := by
  obtain ⟨e, d, z⟩ := h.bit
  have := h.a
  exact ⟨by rw [d]; exact e, z, h.o, by omega, g⟩
theorem ByAt.yes {A n out rest : Int} {k : Nat} (h : ByAt A n out rest (k + 1)) (g : n ≤ rest * 2 + A / 2 ^ k % 2) : ByAt A n (out + 2 ^ k) (rest * 2 + A / 2 ^ k % 2 - n) k := by
  obtain ⟨e, d, z⟩ := h.bit
  have p : (0 : Int) < 2 ^ k := Int.pow_pos (by omega)
  have f : (out + 2 ^ k) / 2 ^ k = out / 2 ^ k + 1 := by rw [Int.add_ediv_of_dvd_right (Int.dvd_refl _), Int.ediv_self (by omega)]
  have ha := h.a
  have hb := h.b
  have ho := h.o
  refine ⟨?_, by simpa using z, by omega, by omega, by omega⟩
  rw [f, d, Int.add_mul, Int.one_mul]
  omega
/-- The bit of an amount of two words. -/
theorem bit_low (h l : Int) (k : Nat) (hk : k < 64) : V h l / 2 ^ k % 2 = l / 2 ^ k % 2 := by
  have p : (0 : Int) < 2 ^ k := Int.pow_pos (by omega)
  have e : (18446744073709551616 : Int) = 2 * 2 ^ (63 - k) * 2 ^ k := by
    rw [Int.mul_assoc, ← Int.pow_add, show 63 - k + k = 63 by omega]; decide
  have : V h l = l + h * (2 * 2 ^ (63 - k)) * 2 ^ k := by unfold V; rw [e, ← Int.mul_assoc]; omega
  rw [this, Int.add_mul_ediv_right _ _ (by omega)]
  have : h * (2 * 2 ^ (63 - k)) = 2 * (h * 2 ^ (63 - k)) := by rw [Int.mul_left_comm]
  rw [this]; omega
theorem bit_high (h l : Int) (k : Nat) (hk : 64 ≤ k) (j : IsLo l) : V h l / 2 ^ k % 2 = h / 2 ^ (k - 64) % 2 := by
  obtain ⟨_, _⟩ := j
  have e : (2 : Int) ^ k = 18446744073709551616 * 2 ^ (k - 64) := by
    rw [← pow64, ← Int.pow_add, show 64 + (k - 64) = k by omega]
  rw [e, ← Int.ediv_ediv_of_nonneg (by omega), show V h l / 18446744073709551616 = h by unfold V; omega]
/-- What a bit laid into a word does to the amount. -/
theorem set_high (h l : Int) (k : Nat) (hk : 64 ≤ k) : V h l + 2 ^ k = V (h + 2 ^ (k - 64)) l := by
  have e : (2 : Int) ^ k = 2 ^ (k - 64) * 18446744073709551616 := by
    rw [← pow64, ← Int.pow_add, show k - 64 + 64 = k by omega]
  unfold V; rw [e, Int.add_mul]; omega
theorem set_low (h l : Int) (k : Nat) : V h l + 2 ^ k = V h (l + 2 ^ k) := by unfold V; omega
theorem free_high {h l : Int} {k : Nat} (j : IsLo l) (hk : 64 ≤ k) (z : V h l % 2 ^ (k + 1) = 0) : h % 2 ^ (k - 64 + 1) = 0 := by
  obtain ⟨_, _⟩ := j
  have e : (2 : Int) ^ (k + 1) = 18446744073709551616 * 2 ^ (k - 64 + 1) := by
    rw [← pow64, ← Int.pow_add, show 64 + (k - 64 + 1) = k + 1 by omega]
  have d := Int.dvd_of_emod_eq_zero z
  obtain ⟨c, hc⟩ := d
  rw [e] at hc
  have p : (0 : Int) < 2 ^ (k - 64 + 1) := Int.pow_pos (by omega)
  have : h = 2 ^ (k - 64 + 1) * c := by
    rw [Int.mul_assoc] at hc
    generalize 2 ^ (k - 64 + 1) * c = y at *
    unfold V at hc; omega
  rw [this]; exact Int.mul_emod_right _ _
theorem free_low {h l : Int} {k : Nat} (hk : k < 64) (z : V h l % 2 ^ (k + 1) = 0) : l % 2 ^ (k + 1) = 0 := by
  have e : (18446744073709551616 : Int) = 2 ^ (63 - k) * 2 ^ (k + 1) := by
    rw [← Int.pow_add, show 63 - k + (k + 1) = 64 by omega]; decide
  have : V h l = l + h * 2 ^ (63 - k) * 2 ^ (k + 1) := by unfold V; rw [e, ← Int.mul_assoc]; omega
  rw [this, Int.add_mul_emod_self_right] at z
  exact z
end W
end Go.Proofs.YtdjehbagnkfkpaaDoor
