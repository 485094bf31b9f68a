/- math/bits.Div64, at every divisor above the high word; wide.divideBy. -/
import Derived.Test.YtdjehbagnkfkpaaDoorDiv64
import Derived.Test.YtdjehbagnkfkpaaDoorWbits
import Derived.Test.YtdjehbagnkfkpaaDoorWmul
import Derived.Test.YtdjehbagnkfkpaaDoorDivz
namespace Go.Proofs.YtdjehbagnkfkpaaDoor
set_option linter.unusedVariables false
open Go.RowKit W
/-- Two words moved to the left: the high one and what comes in from the low one, side by side. -/
theorem move_or (h l : Int) (s : Nat) (hs : s < 64) (h0 : 0 ≤ h) (h1 : h * 2 ^ s < 18446744073709551616) (i : IsLo l) :
    bits .or .u64 (IntKind.u64.wrap (h * 2 ^ s)) (l / 2 ^ (64 - s)) = h * 2 ^ s + l / 2 ^ (64 - s) := by
  obtain ⟨l0, l1⟩ := i
  have p : (0 : Int) < 2 ^ s := Int.pow_pos (by omega)
  have q : (0 : Int) < 2 ^ (64 - s) := Int.pow_pos (by omega)
  have e : (2 : Int) ^ s * 2 ^ (64 - s) = 18446744073709551616 := by rw [← Int.pow_add, show s + (64 - s) = 64 by omega]; decide
  have a0 : 0 ≤ h * 2 ^ s := Int.mul_nonneg h0 (by omega)
  have b0 : 0 ≤ l / 2 ^ (64 - s) := Int.ediv_nonneg l0 (by omega)
  have b1 : l / 2 ^ (64 - s) < 2 ^ s := Int.ediv_lt_of_lt_mul q (by omega)
  have b2 : l / 2 ^ (64 - s) ≤ l := Int.ediv_le_self _ l0
  rw [wrap_in a0 h1, u64_or _ _ a0 h1 b0 (by omega)]
  obtain ⟨x, rfl⟩ := Int.eq_ofNat_of_zero_le h0
  generalize l / 2 ^ (64 - s) = b at *
  obtain ⟨y, rfl⟩ := Int.eq_ofNat_of_zero_le b0
  have ep : (2 : Int) ^ s = ((2 ^ s : Nat) : Int) := by simp
  rw [ep] at b1 ⊢
  rw [← Int.natCast_mul, Int.toNat_natCast, Int.toNat_natCast]
  have hy : y < 2 ^ s := by omega
  have := Nat.two_pow_add_eq_or_of_lt hy x
  rw [Nat.mul_comm x, ← this, Int.natCast_add]
theorem lt_move {h l y : Int} (p : Int) (hp : 0 < p) (i : IsLo l) (lt : h < y) : h * p + l * p / 18446744073709551616 < y * p := by
  obtain ⟨_, _⟩ := i
  have a : l * p < 18446744073709551616 * p := Int.mul_lt_mul_of_pos_right (by omega) hp
  have b : l * p / 18446744073709551616 < p := Int.ediv_lt_of_lt_mul (by omega) (by rw [Int.mul_comm p]; exact a)
  have c : (h + 1) * p ≤ y * p := Int.mul_le_mul_of_nonneg_right (by omega) (by omega)
  rw [Int.add_mul, Int.one_mul] at c
  omega
theorem move_low (l : Int) (s : Nat) (hs : s < 64) : l * 2 ^ s / 18446744073709551616 = l / 2 ^ (64 - s) := by
  have p : (0 : Int) < 2 ^ s := Int.pow_pos (by omega)
  have e : (18446744073709551616 : Int) = 2 ^ (64 - s) * 2 ^ s := by rw [← Int.pow_add, show 64 - s + s = 64 by omega]; decide
  rw [e, Int.mul_ediv_mul_of_pos_left _ _ p]
theorem mod_left {u d q v : Int} (h : (u * 4294967296 + d - q * v) % 18446744073709551616 = u * 4294967296 + d - q * v) :
    IntKind.u64.wrap (IntKind.u64.wrap (IntKind.u64.wrap (u * 4294967296) + d) - IntKind.u64.wrap (q * v)) = u * 4294967296 + d - q * v := by
  simp only [IntKind.wrap_u64]
  generalize q * v = z at *
  omega
theorem dig_start {u d v n1 n0 : Int} (n : Norm v n1 n0) (u0 : 0 ≤ u) (u1 : u < v) (d0 : 0 ≤ d) (d1 : d < 4294967296) :
    Dig u d v n1 n0 (IntKind.u64.wrap (u.tdiv n1)) (IntKind.u64.wrap (u - IntKind.u64.wrap (IntKind.u64.wrap (u.tdiv n1) * n1))) := by
  have t := try_start n u0 u1 d0 d1
  have q0 := t.q0
  have q1 := t.q1
  have r0 := t.r0
  have r1 := t.r1
  have e := t.e
  have m0 : 0 ≤ u / n1 * n1 := Int.mul_nonneg q0 (by have := n.a; omega)
  have vb : v < 18446744073709551616 := by obtain ⟨a, b, c, d, e⟩ := n; omega
  rw [Int.tdiv_eq_ediv_of_nonneg u0, wrap_in q0 (by omega), wrap_in m0 (by omega), wrap_in (by omega) (by omega)]
  exact ⟨n, u0, u1, d0, d1, t⟩
set_option maxHeartbeats 1000000 in
theorem div64_spec (h l y : Int) (ih : IsLo h) (il : IsLo l) (iy : IsLo y) (lt : h < y) (w : World) :
    Calls Tryd.prog 85 #[.int .u64 h, .int .u64 l, .int .u64 y] w fun e w' => e = .returned (.tuple #[.int .u64 (V h l / y), .int .u64 (V h l % y)]) ∧ Below w.heap.size w w' := by
  obtain ⟨h0, h1⟩ := ih
  have y0 : y ≠ 0 := by omega
  by_cases hz : h = 0
  · subst hz
    have e : V 0 l = l := by unfold V; omega
    rw [e]
    exact div64_zero l y il iy y0 w
  obtain ⟨s, hs, v0, v1, ks⟩ := lz_spec y iy y0
  have p : (0 : Int) < 2 ^ s := Int.pow_pos (by omega)
  have hb : h * 2 ^ s < 18446744073709551616 := by
    have : h * 2 ^ s < y * 2 ^ s := Int.mul_lt_mul_of_pos_right lt p
    omega
  have or_ := move_or h l s hs h0 hb il
  have lm := lt_move (2 ^ s) p il lt
  rw [move_low l s hs] at lm
  have ml := move_low l s hs
  have a0 : 0 ≤ h * 2 ^ s := Int.mul_nonneg h0 (by omega)
  have l0 : 0 ≤ l / 2 ^ (64 - s) := Int.ediv_nonneg il.a (Int.le_of_lt (Int.pow_pos (by omega)))
  obtain ⟨v, hv⟩ : ∃ v, v = y * 2 ^ s := ⟨_, rfl⟩
  obtain ⟨u, hu⟩ : ∃ u, u = h * 2 ^ s + l / 2 ^ (64 - s) := ⟨_, rfl⟩
  obtain ⟨x, hx⟩ : ∃ x, x = IntKind.u64.wrap (l * 2 ^ s) := ⟨_, rfl⟩
  have x0 : 0 ≤ x := by rw [hx, IntKind.wrap_u64]; omega
  have x1 : x < 18446744073709551616 := by rw [hx, IntKind.wrap_u64]; omega
  rw [← hu] at or_ lm
  rw [← hv] at lm v0 v1
  have n : Norm v (v / 4294967296) (v % 4294967296) := ⟨by omega, by omega, by omega, by omega, by omega⟩
  have u0 : 0 ≤ u := by omega
  have hp := n.pos
  have D1 := dig_start n u0 lm (show 0 ≤ x / 4294967296 by omega) (show x / 4294967296 < 4294967296 by omega)
  have t0 := Int.emod_nonneg (u * 4294967296 + x / 4294967296) (show v ≠ 0 by omega)
  have t1 := Int.emod_lt_of_pos (u * 4294967296 + x / 4294967296) hp
  have ld1 := left_digit u0 (show 0 ≤ x / 4294967296 by omega) hp v1
  have em1 := Int.emod_def (u * 4294967296 + x / 4294967296) v
  rw [Int.mul_comm v] at em1
  have q1a := digit_nonneg u0 (show 0 ≤ x / 4294967296 by omega) hp
  have q1b := digit_lt lm (show x / 4294967296 < 4294967296 by omega) hp
  have two := two_digits (N := V h l) (y := y) (p := 2 ^ s) (v := v) (x1 := x / 4294967296) (x0 := x % 4294967296) p (by omega) hv (u := u) (by
    have e1 : V h l * 2 ^ s = h * 2 ^ s * 18446744073709551616 + l * 2 ^ s := by unfold V; rw [Int.add_mul, Int.mul_right_comm]
    have e2 : x = l * 2 ^ s % 18446744073709551616 := by rw [hx, IntKind.wrap_u64]
    generalize l * 2 ^ s = z at *
    generalize h * 2 ^ s = z' at *
    omega) (by omega) (by omega)
  obtain ⟨t, ht⟩ : ∃ t, t = (u * 4294967296 + x / 4294967296) % v := ⟨_, rfl⟩
  obtain ⟨Q1, hQ1⟩ : ∃ z, z = (u * 4294967296 + x / 4294967296) / v := ⟨_, rfl⟩
  rw [← ht] at t0 t1 em1 two
  rw [← hQ1] at em1 two q1a q1b
  rw [← hQ1, ← ht] at ld1
  have D2 := dig_start n t0 t1 (show 0 ≤ x % 4294967296 by omega) (show x % 4294967296 < 4294967296 by omega)
  have ld2 := left_digit t0 (show 0 ≤ x % 4294967296 by omega) hp v1
  have em2 := Int.emod_def (t * 4294967296 + x % 4294967296) v
  rw [Int.mul_comm v] at em2
  have r0 := Int.emod_nonneg (t * 4294967296 + x % 4294967296) (show v ≠ 0 by omega)
  have q0a := digit_nonneg t0 (show 0 ≤ x % 4294967296 by omega) hp
  have q0b := digit_lt t1 (show x % 4294967296 < 4294967296 by omega) hp
  obtain ⟨Q0, hQ0⟩ : ∃ z, z = (t * 4294967296 + x % 4294967296) / v := ⟨_, rfl⟩
  rw [← hQ0] at em2 two q0a q0b ld2
  rw [← two.1, ← two.2]
  have ml1 := mod_left (u := u) (d := x / 4294967296) (q := Q1) (v := v) (by omega)
  have ml2 := mod_left (u := t) (d := x % 4294967296) (q := Q0) (v := v) (by omega)
  refine div64_walk h l y v _ _ u x _ _ _ _ _ Q1 _ _ _ t _ _ _ Q0 _ _ _ _ _ _ _ s (by simpa using y0) (by omega) (by simpa using hz) hs (by omega) ks (by rw [← hv]; exact wrap_in (by omega) v1) rfl (and_low32 v (by omega) v1) or_ hx.symm rfl (and_low32 x x0 x1)
    rfl rfl rfl rfl rfl rfl ?_ rfl rfl rfl rfl ?_ rfl rfl rfl ?_ rfl D1 hQ1 D2 hQ0 w
  · rw [ml1]; omega
  · rw [wrap_in (show 0 ≤ Q1 * 4294967296 by omega) (by omega)]; exact wrap_in (by omega) (by omega)
  · rw [ml2]; exact em2.symm
end Go.Proofs.YtdjehbagnkfkpaaDoor
