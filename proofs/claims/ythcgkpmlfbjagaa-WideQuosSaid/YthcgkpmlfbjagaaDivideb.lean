/- wide.divide: the quotient and what is left, of every two amounts. -/
import Derived.Test.YthcgkpmlfbjagaaDivide
namespace Go.Proofs.Ythcgkpmlfbjagaa
set_option linter.unusedVariables false
open Go.RowKit W
theorem times_fit (a1 a0 b1 b0 : Int) (i1 : IsLo a1) (i0 : IsLo a0) (j1 : IsLo b1) (j0 : IsLo b0) (z : a1 = 0 ∨ b1 = 0) (f : V a1 a0 * V b1 b0 < 340282366920938463463374607431768211456) (w : World) :
    Calls Try.prog 49 #[.agg #[.int .u64 a0, .int .u64 a1], .agg #[.int .u64 b0, .int .u64 b1]] w
      fun e w' => e = .returned (.tuple #[.agg #[.int .u64 (lo (V a1 a0 * V b1 b0)), .int .u64 (hi (V a1 a0 * V b1 b0))], .bool true]) ∧ Below w.heap.size w w' := by
  refine (times_yes a1 a0 b1 b0 i1 i0 j1 j0 z w).mono ?_
  rintro e w' ⟨p1, p0, ok, rfl, T, hb⟩
  cases ok
  · have := T.no rfl; omega
  · obtain ⟨e1, e0, _⟩ := T.yes rfl
    rw [e1, e0]
    exact ⟨rfl, hb⟩
theorem minus_fit (a1 a0 x : Int) (i0 : IsLo a0) (i1 : IsLo a1) (x0 : 0 ≤ x) (x1 : x ≤ V a1 a0) (w : World) :
    Calls Try.prog 69 #[.agg #[.int .u64 a0, .int .u64 a1], .agg #[.int .u64 (lo x), .int .u64 (hi x)]] w
      fun e w' => e = .returned (.agg #[.int .u64 (lo (V a1 a0 - x)), .int .u64 (hi (V a1 a0 - x))]) ∧ Below w.heap.size w w' := by
  have hx : IsLo (hi x) := by obtain ⟨_, _⟩ := i0; obtain ⟨_, _⟩ := i1; exact ⟨by unfold hi; omega, by unfold V at x1; unfold hi; omega⟩
  have m := minus_spec a1 a0 (hi x) (lo x) i0 i1 (isLo_lo x) hx w
  rw [V_hi_lo] at m
  have e : u (hi (V a1 a0 - x)) = hi (V a1 a0 - x) := by
    obtain ⟨_, _⟩ := i0; obtain ⟨_, _⟩ := i1; unfold V at x1; unfold u hi V; omega
  rw [e] at m
  exact m
/-- The highest 64 bits of a divisor of two words. -/
theorem high_word (b1 b0 : Int) (s : Nat) (hs : s < 64) (i0 : IsLo b0) : V b1 b0 = (b1 * 2 ^ s + b0 / 2 ^ (64 - s)) * 2 ^ (64 - s) + b0 % 2 ^ (64 - s) := by
  have e : (2 : Int) ^ s * 2 ^ (64 - s) = 18446744073709551616 := by rw [← Int.pow_add, show s + (64 - s) = 64 by omega]; decide
  have d := Int.mul_ediv_add_emod b0 (2 ^ (64 - s))
  rw [Int.mul_comm] at d
  rw [Int.add_mul, Int.mul_assoc, e]
  unfold V; omega
theorem pow_cases (s : Nat) (hs : s < 64) : (2 : Int) ^ (64 - s) = 2 ∨ 4 ≤ (2 : Int) ^ (64 - s) := by
  by_cases h : s = 63
  · subst h; exact .inl (by decide)
  · right
    have : 2 ^ 2 ≤ 2 ^ (64 - s) := Nat.pow_le_pow_right (by omega) (by omega)
    have e : (2 : Int) ^ (64 - s) = ((2 ^ (64 - s) : Nat) : Int) := by simp
    omega
theorem half_low (a1 a0 : Int) (i1 : IsLo a1) (i0 : IsLo a0) : bits .or .u64 (IntKind.u64.wrap (a1 * 9223372036854775808)) (a0 / 2) = lo (V a1 a0 / 2) := by
  obtain ⟨_, _⟩ := i1
  have w : IntKind.u64.wrap (a1 * 9223372036854775808) = IntKind.u64.wrap (a1 % 2 * 2 ^ 63) := by
    rw [IntKind.wrap_u64, IntKind.wrap_u64, show (2 : Int) ^ 63 = 9223372036854775808 by decide]; omega
  have m := move_or (a1 % 2) a0 63 (by omega) (by omega) (by rw [show (2 : Int) ^ 63 = 9223372036854775808 by decide]; omega) i0
  rw [show 64 - 63 = 1 by omega, Int.pow_one] at m
  rw [w, m, show (2 : Int) ^ 63 = 9223372036854775808 by decide]
  obtain ⟨_, _⟩ := i0
  unfold lo V; omega
theorem half_high (a1 a0 : Int) (i0 : IsLo a0) : a1 / 2 = hi (V a1 a0 / 2) := by obtain ⟨_, _⟩ := i0; unfold hi V; omega
set_option maxHeartbeats 1000000 in
theorem divide_spec (a1 a0 b1 b0 : Int) (i1 : IsLo a1) (i0 : IsLo a0) (j1 : IsLo b1) (j0 : IsLo b0) (n : V b1 b0 ≠ 0) (w : World) :
    Calls Try.prog 52 #[.agg #[.int .u64 a0, .int .u64 a1], .agg #[.int .u64 b0, .int .u64 b1]] w
      fun e w' => e = .returned (.tuple #[.agg #[.int .u64 (lo (V a1 a0 / V b1 b0)), .int .u64 (hi (V a1 a0 / V b1 b0))], .agg #[.int .u64 (lo (V a1 a0 % V b1 b0)), .int .u64 (hi (V a1 a0 % V b1 b0))]]) ∧ Below w.heap.size w w' := by
  by_cases hz : b1 = 0
  · subst hz
    have e : V 0 b0 = b0 := by unfold V; omega
    rw [e] at n ⊢
    have c := divideBy_spec a1 a0 b0 i1 i0 j0 n
    have r0 := Int.emod_nonneg (V a1 a0) n
    have r1 := Int.emod_lt_of_pos (V a1 a0) (show 0 < b0 by have := j0.a; omega)
    have h0 : hi (V a1 a0 % b0) = 0 := by have := j0.b; unfold hi; omega
    have l0 : lo (V a1 a0 % b0) = V a1 a0 % b0 := by have := j0.b; unfold lo; omega
    rw [h0, l0]
    exact divide_low a1 a0 b0 _ _ _ c w
  have A0 : 0 ≤ V a1 a0 := by obtain ⟨_, _⟩ := i1; obtain ⟨_, _⟩ := i0; unfold V; omega
  have A1 : V a1 a0 < 340282366920938463463374607431768211456 := by obtain ⟨_, _⟩ := i1; obtain ⟨_, _⟩ := i0; unfold V; omega
  have B1 : 18446744073709551616 ≤ V b1 b0 := by obtain ⟨_, _⟩ := j1; obtain ⟨_, _⟩ := j0; unfold V; omega
  have B2 : V b1 b0 < 340282366920938463463374607431768211456 := by obtain ⟨_, _⟩ := j1; obtain ⟨_, _⟩ := j0; unfold V; omega
  obtain ⟨s, hs, v0, v1, ks⟩ := lz_spec b1 j1 hz
  have pw : (0 : Int) < 2 ^ (64 - s) := Int.pow_pos (by omega)
  have p63 : (0 : Int) < 2 ^ (63 - s) := Int.pow_pos (by omega)
  have two : (2 : Int) ^ (64 - s) = 2 * 2 ^ (63 - s) := by rw [show 64 - s = 63 - s + 1 by omega, Int.pow_succ, Int.mul_comm]
  have eb : b0 / 2 / 2 ^ (63 - s) = b0 / 2 ^ (64 - s) := by rw [Int.ediv_ediv_of_nonneg (by omega), ← two]
  have mo_ := move_or b1 b0 s hs j1.a v1 j0
  have hw := high_word b1 b0 s hs j0
  have ha := half_low a1 a0 i1 i0
  have hh := half_high a1 a0 i0
  have l0 : 0 ≤ b0 / 2 ^ (64 - s) := Int.ediv_nonneg j0.a (Int.le_of_lt pw)
  have lt2 : b0 / 2 ^ (64 - s) < 2 ^ s := Int.ediv_lt_of_lt_mul pw (by
    have e : (2 : Int) ^ s * 2 ^ (64 - s) = 18446744073709551616 := by rw [← Int.pow_add, show s + (64 - s) = 64 by omega]; decide
    have := j0.b; omega)
  obtain ⟨high, hhigh⟩ : ∃ z, z = b1 * 2 ^ s + b0 / 2 ^ (64 - s) := ⟨_, rfl⟩
  rw [← hhigh] at mo_ hw
  have highb : high < 18446744073709551616 := by
    have e : (18446744073709551616 : Int) = 2 ^ (64 - s) * 2 ^ s := by rw [← Int.pow_add, show 64 - s + s = 64 by omega]; decide
    have h1 : (b1 + 1) * 2 ^ s ≤ 2 ^ (64 - s) * 2 ^ s := Int.mul_le_mul_of_nonneg_right (by
      rw [e] at v1
      have := Int.lt_of_mul_lt_mul_right v1 (by exact Int.le_of_lt (Int.pow_pos (by omega)))
      omega) (by exact Int.le_of_lt (Int.pow_pos (by omega)))
    rw [Int.add_mul, Int.one_mul, ← e] at h1
    omega
  have high0 : 9223372036854775808 ≤ high := by omega
  have kd := div64_spec (a1 / 2) (lo (V a1 a0 / 2)) high ⟨by have := i1.a; omega, by have := i1.b; omega⟩ (isLo_lo _) ⟨by omega, highb⟩ (by have := i1.b; omega)
  have eV : V (a1 / 2) (lo (V a1 a0 / 2)) = V a1 a0 / 2 := by rw [hh, V_hi_lo]
  rw [eV] at kd
  have et : V a1 a0 / 2 / high / 2 ^ (63 - s) = V a1 a0 / (high * 2 ^ (64 - s)) := by
    rw [Int.ediv_ediv_of_nonneg (by omega), Int.ediv_ediv_of_nonneg (by omega), two, Int.mul_left_comm]
  have e0 := Int.emod_nonneg b0 (show (2 : Int) ^ (64 - s) ≠ 0 by omega)
  have e1 := Int.emod_lt_of_pos b0 pw
  obtain ⟨D, hD⟩ : ∃ z, z = high * 2 ^ (64 - s) := ⟨_, rfl⟩
  obtain ⟨t, ht⟩ : ∃ z, z = V a1 a0 / D := ⟨_, rfl⟩
  rw [← hD] at et hw
  rw [← ht] at et
  obtain ⟨tr1, tr2⟩ := high_try (B := V b1 b0) A0 A1 hD high0 (pow_cases s hs) hw e0 e1 ht
  have q0 : 0 ≤ V a1 a0 / V b1 b0 := Int.ediv_nonneg A0 (by omega)
  have q1 : V a1 a0 / V b1 b0 < 18446744073709551616 := Int.ediv_lt_of_lt_mul (by omega) (by omega)
  have t0 : 0 ≤ t := by omega
  have tb : t < 18446744073709551617 := by omega
  have hp : ∃ p, ((t ≠ 0 ∧ IntKind.u64.wrap (t - 1) = p) ∨ (t = 0 ∧ p = 0)) ∧ 0 ≤ p ∧ (p = V a1 a0 / V b1 b0 ∨ p = V a1 a0 / V b1 b0 - 1) := by
    by_cases z : t = 0
    · exact ⟨0, .inr ⟨z, rfl⟩, by omega, .inl (by omega)⟩
    · refine ⟨t - 1, .inl ⟨z, wrap_in (by omega) (by omega)⟩, by omega, ?_⟩
      omega
  obtain ⟨p, hp, p0, pq⟩ := hp
  have pB : p < 18446744073709551616 := by omega
  have ip : IsLo p := ⟨p0, pB⟩
  obtain ⟨d0, d1, dy, dn⟩ := tried A0 (show 0 < V b1 b0 by omega) pq
  have pr : V b1 b0 * V 0 p = p * V b1 b0 := by rw [show V 0 p = p by unfold V; omega, Int.mul_comm]
  have x0 : 0 ≤ p * V b1 b0 := Int.mul_nonneg p0 (by omega)
  have kt := times_fit b1 b0 0 p j1 j0 isLo_0 ip (.inr rfl) (by rw [pr]; omega)
  rw [pr] at kt
  have km := minus_fit a1 a0 (p * V b1 b0) i0 i1 x0 (by omega)
  obtain ⟨R, hR⟩ : ∃ z, z = V a1 a0 - p * V b1 b0 := ⟨_, rfl⟩
  rw [← hR] at km d0 d1 dy dn
  have iR : IsLo (hi R) := ⟨by unfold hi; omega, by unfold hi; omega⟩
  have kb := below_spec (hi R) (lo R) b1 b0 (isLo_lo R) j0
  rw [V_hi_lo] at kb
  rw [eb] at *
  by_cases g : R < V b1 b0
  · obtain ⟨f1, f2⟩ := dy g
    rw [decide_eq_true g] at kb
    have hq : hi (V a1 a0 / V b1 b0) = 0 := by unfold hi; omega
    have lq : lo (V a1 a0 / V b1 b0) = p := by rw [← f1]; unfold lo; omega
    rw [hq, lq, ← f2]
    exact divide_high_t a1 a0 b1 b0 _ high _ _ t p _ _ _ _ _ (by simpa using hz) s hs ha (by rw [Int.ediv_ediv_of_nonneg (by omega), ← two]; exact mo_) et hp ks kd kt km kb w
  · obtain ⟨f1, f2⟩ := dn g
    rw [decide_eq_false g] at kb
    have kn := minus_fit (hi R) (lo R) (V b1 b0) (isLo_lo R) iR (by omega) (by rw [V_hi_lo]; omega)
    rw [V_hi_lo, hi_V j0, lo_V j0] at kn
    have hq : hi (V a1 a0 / V b1 b0) = 0 := by unfold hi; omega
    have lq : lo (V a1 a0 / V b1 b0) = p + 1 := by rw [← f1]; unfold lo; omega
    rw [hq, lq, ← f2]
    exact divide_high_f a1 a0 b1 b0 _ high _ _ t p _ _ _ _ (p + 1) _ _ _ (by simpa using hz) s hs ha (by rw [Int.ediv_ediv_of_nonneg (by omega), ← two]; exact mo_) et hp (wrap_in (by omega) (by omega)) ks kd kt km kb kn w
end Go.Proofs.Ythcgkpmlfbjagaa
