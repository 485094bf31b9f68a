/- math/bits.Mul64; wide: times. -/
import Derived.Test.YthcgkpmlfbjagaaWlimbs
import Derived.Laws.MathBits
namespace Go.Proofs.Ythcgkpmlfbjagaa
set_option linter.unusedVariables false
open Go.RowKit W
set_option maxHeartbeats 800000 in
theorem mul64_spec (x y : Int) (i : IsLo x) (j : IsLo y) (w : World) :
    Calls Try.prog 56 #[.int .u64 x, .int .u64 y] w fun e w' => e = .returned (.tuple #[.int .u64 (hi (x * y)), .int .u64 (lo (x * y))]) ∧ w = w' := by
  have l1 := and_low32 x i.a i.b
  have l2 := and_low32 y j.a j.b
  go_enter Try.func56, Try.ntmps56
  go_wp2
  go_returns
  have m := mul64_arith x y i.a i.b j.a j.b
  refine ⟨ret_two ?_ ?_, rfl⟩
  · simp only [IntKind.wrap_u64]
    rw [and_low32 _ (Int.emod_nonneg _ (by omega)) (Int.emod_lt_of_pos _ (by omega))]
    exact m
  · rw [IntKind.wrap_u64]; rfl
/-- What times answers: the product where two words hold it. -/
structure TimesOut (p p1 p0 : Int) (ok : Bool) : Prop where
  lo1 : IsLo p1
  lo0 : IsLo p0
  yes : ok = true → p1 = hi p ∧ p0 = lo p ∧ p < 340282366920938463463374607431768211456
  no : ok = false → 340282366920938463463374607431768211456 ≤ p
/-- The post, under one name. -/
def TimesPost (w : World) (p : Int) (e : Ending) (w' : World) : Prop :=
  ∃ p1 p0 ok, e = .returned (.tuple #[.agg #[.int .u64 p0, .int .u64 p1], .bool ok]) ∧ TimesOut p p1 p0 ok ∧ Below w.heap.size w w'
theorem big_prod {a1 a0 b1 b0 : Int} (i1 : IsLo a1) (i0 : IsLo a0) (j1 : IsLo b1) (j0 : IsLo b0) (n : a1 ≠ 0) (m : b1 ≠ 0) : 340282366920938463463374607431768211456 ≤ V a1 a0 * V b1 b0 := by
  obtain ⟨_, _⟩ := i1; obtain ⟨_, _⟩ := i0; obtain ⟨_, _⟩ := j1; obtain ⟨_, _⟩ := j0
  have h : 18446744073709551616 * 18446744073709551616 ≤ V a1 a0 * V b1 b0 := Int.mul_le_mul (by unfold V; omega) (by unfold V; omega) (by omega) (by unfold V; omega)
  omega
set_option maxHeartbeats 1000000 in
theorem times_no (a1 a0 b1 b0 : Int) (i1 : IsLo a1) (i0 : IsLo a0) (j1 : IsLo b1) (j0 : IsLo b0) (n : a1 ≠ 0) (m : b1 ≠ 0) (w : World) :
    Calls Try.prog 49 #[.agg #[.int .u64 a0, .int .u64 a1], .agg #[.int .u64 b0, .int .u64 b1]] w (TimesPost w (V a1 a0 * V b1 b0)) := by
  have t := big_prod i1 i0 j1 j0 n m
  have n' : (a1 != 0) = true := by simpa using n
  have m' : (b1 != 0) = true := by simpa using m
  have T := Go.RowKit.Hid (340282366920938463463374607431768211456 ≤ V a1 a0 * V b1 b0)
  have H : Hid (340282366920938463463374607431768211456 ≤ V a1 a0 * V b1 b0) := t
  clear t T
  go_enter Try.func49, Try.ntmps49
  go_wp2_with fail
  go_returns
  exact ⟨0, 0, false, rfl, ⟨isLo_0, isLo_0, fun h => (Bool.false_ne_true h).elim, fun _ => H.out⟩, by go_grown⟩
/-- Of the four words' products: what the parts say. -/
theorem times_parts {a1 a0 b1 b0 p o1 x1 o2 x2 hh ll x12 top car : Int} (i1 : IsLo a1) (i0 : IsLo a0) (j1 : IsLo b1) (j0 : IsLo b0) (z : a1 = 0 ∨ b1 = 0)
    (hp : p = V a1 a0 * V b1 b0) (h1 : hh = hi (a0 * b0)) (h2 : ll = lo (a0 * b0)) (h3 : o1 = hi (a1 * b0)) (h4 : x1 = lo (a1 * b0)) (h5 : o2 = hi (a0 * b1)) (h6 : x2 = lo (a0 * b1))
    (h7 : x12 = x1 + x2) (h8 : top = addD hh x12 0) (h9 : car = addC hh x12 0) (ok : Bool) (hok : ok = true ↔ o1 = 0 ∧ o2 = 0 ∧ car = 0) : TimesOut p top ll ok := by
  have e : p = (a1 * b0 + a0 * b1) * 18446744073709551616 + a0 * b0 := by rw [hp]; exact times_split a1 a0 b1 b0 z
  have q1 := prod_lo i0 j0
  have q2 := prod_lo i1 j0
  have q3 := prod_lo i0 j1
  have zz : a1 * b0 = 0 ∨ a0 * b1 = 0 := by rcases z with rfl | rfl <;> simp
  generalize a0 * b0 = A at *
  generalize a1 * b0 = D at *
  generalize a0 * b1 = F at *
  simp only [hi, lo] at h1 h2 h3 h4 h5 h6
  simp only [addD, addC] at h8 h9
  refine ⟨⟨by omega, by omega⟩, ⟨by omega, by omega⟩, fun h => ?_, fun h => ?_⟩
  · have := hok.1 h
    refine ⟨?_, ?_, ?_⟩ <;> (try simp only [hi, lo]) <;> omega
  · have n : ¬ (o1 = 0 ∧ o2 = 0 ∧ car = 0) := fun t => by rw [hok.2 t] at h; exact Bool.false_ne_true h.symm
    omega
set_option maxHeartbeats 4000000 in
theorem times_yes (a1 a0 b1 b0 : Int) (i1 : IsLo a1) (i0 : IsLo a0) (j1 : IsLo b1) (j0 : IsLo b0) (z : a1 = 0 ∨ b1 = 0) (w : World) :
    Calls Try.prog 49 #[.agg #[.int .u64 a0, .int .u64 a1], .agg #[.int .u64 b0, .int .u64 b1]] w (TimesPost w (V a1 a0 * V b1 b0)) := by
  have c1 := mul64_spec a0 b0 i0 j0
  have c2 := mul64_spec a1 b0 i1 j0
  have c3 := mul64_spec a0 b1 i0 j1
  have ih := hi_prod i0 j0
  obtain ⟨p, hp⟩ : ∃ p, p = V a1 a0 * V b1 b0 := ⟨_, rfl⟩
  obtain ⟨hh, h1⟩ : ∃ p, p = hi (a0 * b0) := ⟨_, rfl⟩
  obtain ⟨ll, h2⟩ : ∃ p, p = lo (a0 * b0) := ⟨_, rfl⟩
  obtain ⟨o1, h3⟩ : ∃ p, p = hi (a1 * b0) := ⟨_, rfl⟩
  obtain ⟨x1, h4⟩ : ∃ p, p = lo (a1 * b0) := ⟨_, rfl⟩
  obtain ⟨o2, h5⟩ : ∃ p, p = hi (a0 * b1) := ⟨_, rfl⟩
  obtain ⟨x2, h6⟩ : ∃ p, p = lo (a0 * b1) := ⟨_, rfl⟩
  obtain ⟨x12, h7⟩ : ∃ p, p = x1 + x2 := ⟨_, rfl⟩
  have iz : IsLo x12 := by
    have a := isLo_lo (a1 * b0); have b := isLo_lo (a0 * b1)
    rw [← h4] at a; rw [← h6] at b; rw [h7]
    rcases z with rfl | rfl
    · have : x1 = 0 := by rw [h4]; simp [lo]
      rw [this]; simpa using b
    · have : x2 = 0 := by rw [h6]; simp [lo]
      rw [this]; simpa using a
  have ws : IntKind.u64.wrap (x1 + x2) = x12 := by
    rw [← h7, IntKind.wrap_u64]; obtain ⟨_, _⟩ := iz; omega
  rw [← hp]
  rw [← h1, ← h2] at c1
  rw [← h3, ← h4] at c2
  rw [← h5, ← h6] at c3
  rw [← h1] at ih
  have ra := run_addC hh x12 0 ih iz isBit_0
  obtain ⟨top, h8⟩ : ∃ p, p = addD hh x12 0 := ⟨_, rfl⟩
  obtain ⟨car, h9⟩ : ∃ p, p = addC hh x12 0 := ⟨_, rfl⟩
  rw [← h8, ← h9] at ra
  have fin : Hid (∀ ok : Bool, (ok = true ↔ o1 = 0 ∧ o2 = 0 ∧ car = 0) → TimesOut p top ll ok) := fun ok hok => times_parts i1 i0 j1 j0 z hp h1 h2 h3 h4 h5 h6 h7 h8 h9 ok hok
  have Z : Hid (a1 = 0 ∨ b1 = 0) := z
  clear hp h1 h2 h3 h4 h5 h6 h7 h8 h9 ih iz i1 i0 j1 j0 z
  by_cases n : a1 = 0
  · subst n
    go_enter Try.func49, Try.ntmps49
    go_wp2_with fail
    refine (c1 _).mono ?_
    rintro e w1 ⟨rfl, rfl⟩
    go_wp2_with fail
    refine (c2 _).mono ?_
    rintro e w1 ⟨rfl, rfl⟩
    go_wp2_with fail
    refine (c3 _).mono ?_
    rintro e w1 ⟨rfl, rfl⟩
    go_wp2_with fail
    all_goals
      go_returns
      refine ⟨_, _, _, rfl, fin.out _ ?_, by go_grown⟩
      simp [*]
  · have n' : (b1 != 0) = false := by have := Z.out; simp; omega
    go_enter Try.func49, Try.ntmps49
    go_wp2_with fail
    refine (c1 _).mono ?_
    rintro e w1 ⟨rfl, rfl⟩
    go_wp2_with fail
    refine (c2 _).mono ?_
    rintro e w1 ⟨rfl, rfl⟩
    go_wp2_with fail
    refine (c3 _).mono ?_
    rintro e w1 ⟨rfl, rfl⟩
    go_wp2_with fail
    all_goals
      go_returns
      refine ⟨_, _, _, rfl, fin.out _ ?_, by go_grown⟩
      simp [*]
end Go.Proofs.Ythcgkpmlfbjagaa
