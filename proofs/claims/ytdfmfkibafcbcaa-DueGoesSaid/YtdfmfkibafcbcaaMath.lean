/- Plain numbers: a wide number (high word, low word) as one whole number; the order; what fits 128 bits. No Go in sight. -/
import Init
namespace Go.Proofs.Ytdfmfkibafcbcaa
set_option linter.unusedVariables false
namespace W
def B : Int := 18446744073709551616
/-- The number of a high and a low word. -/
def V (h l : Int) : Int := h * 18446744073709551616 + l
def hi (v : Int) : Int := v / 18446744073709551616
def lo (v : Int) : Int := v % 18446744073709551616
structure IsLo (l : Int) : Prop where
  a : 0 ≤ l
  b : l < 18446744073709551616
structure IsHi (h : Int) : Prop where
  a : -9223372036854775808 ≤ h
  b : h < 9223372036854775808
instance (v : Int) : Decidable (IsHi v) :=
  if h : -9223372036854775808 ≤ v ∧ v < 9223372036854775808 then isTrue ⟨h.1, h.2⟩ else isFalse fun f => h ⟨f.a, f.b⟩
structure Fits (v : Int) : Prop where
  a : -170141183460469231731687303715884105728 ≤ v
  b : v < 170141183460469231731687303715884105728
instance (v : Int) : Decidable (Fits v) :=
  if h : -170141183460469231731687303715884105728 ≤ v ∧ v < 170141183460469231731687303715884105728 then isTrue ⟨h.1, h.2⟩ else isFalse fun f => h ⟨f.a, f.b⟩
def cmpI (x y : Int) : Int := if x < y then -1 else if x = y then 0 else 1
theorem isLo_lo (v : Int) : IsLo (lo v) := ⟨by unfold lo; omega, by unfold lo; omega⟩
theorem isHi_hi {v : Int} (f : Fits v) : IsHi (hi v) := by obtain ⟨a, b⟩ := f; exact ⟨by unfold hi; omega, by unfold hi; omega⟩
theorem V_hi_lo (v : Int) : V (hi v) (lo v) = v := by unfold V hi lo; omega
theorem hi_V {h l : Int} (i : IsLo l) : hi (V h l) = h := by obtain ⟨a, b⟩ := i; unfold hi V; omega
theorem lo_V {h l : Int} (i : IsLo l) : lo (V h l) = l := by obtain ⟨a, b⟩ := i; unfold lo V; omega
theorem fits_V {h l : Int} (j : IsHi h) (i : IsLo l) : Fits (V h l) := by obtain ⟨a, b⟩ := i; obtain ⟨c, d⟩ := j; exact ⟨by unfold V; omega, by unfold V; omega⟩
theorem V_inj {h l h' l' : Int} (i : IsLo l) (i' : IsLo l') (e : V h l = V h' l') : h = h' ∧ l = l' := by
  obtain ⟨a, b⟩ := i; obtain ⟨c, d⟩ := i'; unfold V at e; omega
theorem hl_inj {x y : Int} (h : hi x = hi y) (l : lo x = lo y) : x = y := by unfold hi at h; unfold lo at l; omega
theorem isLo_0 : IsLo 0 := ⟨by omega, by omega⟩
theorem isHi_0 : IsHi 0 := ⟨by omega, by omega⟩
theorem cmp_lt {x y : Int} (h : x < y) : cmpI x y = -1 := by unfold cmpI; rw [if_pos h]
theorem cmp_eq {x y : Int} (h : x = y) : cmpI x y = 0 := by unfold cmpI; rw [if_neg (by omega), if_pos h]
theorem cmp_gt {x y : Int} (h : y < x) : cmpI x y = 1 := by unfold cmpI; rw [if_neg (by omega), if_neg (by omega)]
theorem cmp_cases (x y : Int) : (x < y ∧ cmpI x y = -1) ∨ (x = y ∧ cmpI x y = 0) ∨ (y < x ∧ cmpI x y = 1) := by
  rcases Int.lt_trichotomy x y with h | h | h
  · exact .inl ⟨h, cmp_lt h⟩
  · exact .inr (.inl ⟨h, cmp_eq h⟩)
  · exact .inr (.inr ⟨h, cmp_gt h⟩)
theorem V_eq {h l h' l' : Int} (a : h = h') (b : l = l') : V h l = V h' l' := by rw [a, b]
theorem V_lt1 {h l h' l' : Int} (i : IsLo l) (i' : IsLo l') (a : h < h') : V h l < V h' l' := by
  obtain ⟨a, b⟩ := i; obtain ⟨c, d⟩ := i'; unfold V; omega
theorem V_lt2 {h l h' l' : Int} (a : h = h') (b : l < l') : V h l < V h' l' := by unfold V; omega
/-- math/bits: Add64's sum and carry, Sub64's difference and borrow. -/
def addD (x y c : Int) : Int := (x + y + c) % 18446744073709551616
def addC (x y c : Int) : Int := (x + y + c) / 18446744073709551616
def subD (x y b : Int) : Int := (x - y - b) % 18446744073709551616
def subB (x y b : Int) : Int := if x < y + b then 1 else 0
structure IsBit (c : Int) : Prop where
  a : 0 ≤ c
  b : c ≤ 1
theorem isBit_0 : IsBit 0 := ⟨by omega, by omega⟩
theorem isBit_1 : IsBit 1 := ⟨by omega, by omega⟩
theorem isBit_addC {x y c : Int} (i : IsLo x) (j : IsLo y) (k : IsBit c) : IsBit (addC x y c) := by
  obtain ⟨_, _⟩ := i; obtain ⟨_, _⟩ := j; obtain ⟨_, _⟩ := k; exact ⟨by unfold addC; omega, by unfold addC; omega⟩
theorem isBit_subB (x y b : Int) : IsBit (subB x y b) := by unfold subB; split <;> exact ⟨by omega, by omega⟩
theorem isLo_addD (x y c : Int) : IsLo (addD x y c) := ⟨by unfold addD; omega, by unfold addD; omega⟩
theorem isLo_subD (x y c : Int) : IsLo (subD x y c) := ⟨by unfold subD; omega, by unfold subD; omega⟩
theorem isLo_bit {c : Int} (k : IsBit c) : IsLo c := by obtain ⟨_, _⟩ := k; exact ⟨by omega, by omega⟩
/-- A word of any kind as one without a sign; a word without a sign as one with. -/
def u (h : Int) : Int := h % 18446744073709551616
def s (h : Int) : Int := if h < 9223372036854775808 then h else h - 18446744073709551616
theorem isLo_u (h : Int) : IsLo (u h) := ⟨by unfold u; omega, by unfold u; omega⟩
theorem s_u {h : Int} (j : IsHi h) : s (u h) = h := by obtain ⟨_, _⟩ := j; unfold s u; split <;> omega
theorem minus_lo (a1 a0 b1 b0 : Int) : subD a0 b0 0 = lo (V a1 a0 - V b1 b0) := by unfold subD lo V; omega
theorem minus_hi {a1 a0 b1 b0 : Int} (i : IsLo a0) (j : IsLo b0) : subD a1 b1 (subB a0 b0 0) = u (hi (V a1 a0 - V b1 b0)) := by
  obtain ⟨_, _⟩ := i; obtain ⟨_, _⟩ := j; unfold subD subB u hi V; split <;> omega
def ab (v : Int) : Int := if v < 0 then -v else v
def resV (v : Int) : Int := if Fits v then v else 0
def resE (v : Int) : Int := if Fits v then 0 else 10
theorem resV_fits {v : Int} (f : Fits v) : resV v = v := by unfold resV; rw [if_pos f]
theorem resE_fits {v : Int} (f : Fits v) : resE v = 0 := by unfold resE; rw [if_pos f]
theorem resV_not {v : Int} (f : ¬ Fits v) : resV v = 0 := by unfold resV; rw [if_neg f]
theorem resE_not {v : Int} (f : ¬ Fits v) : resE v = 10 := by unfold resE; rw [if_neg f]
theorem resE_zero {v : Int} (h : resE v = 0) : Fits v := by unfold resE at h; split at h; assumption; omega
theorem fits_0 : Fits 0 := ⟨by omega, by omega⟩
theorem fits_resV (v : Int) : Fits (resV v) := by unfold resV; split; assumption; exact fits_0
theorem ab_lo_neg {h l : Int} (i : IsLo l) (j : IsHi h) (n : h < 0) : lo (V 0 0 - V (u h) l) = lo (ab (V h l)) := by
  obtain ⟨_, _⟩ := i; obtain ⟨_, _⟩ := j; have : ab (V h l) = -(V h l) := by unfold ab V; rw [if_pos (by omega)]
  rw [this]; unfold lo V u; omega
theorem ab_hi_neg {h l : Int} (i : IsLo l) (j : IsHi h) (n : h < 0) : u (hi (V 0 0 - V (u h) l)) = hi (ab (V h l)) := by
  obtain ⟨_, _⟩ := i; obtain ⟨_, _⟩ := j; have : ab (V h l) = -(V h l) := by unfold ab V; rw [if_pos (by omega)]
  rw [this]; unfold hi V u; omega
theorem ab_lo_pos {h l : Int} (i : IsLo l) (n : 0 ≤ h) : l = lo (ab (V h l)) := by
  obtain ⟨_, _⟩ := i; have : ab (V h l) = V h l := by unfold ab V; rw [if_neg (by omega)]
  rw [this]; unfold lo V; omega
theorem ab_hi_pos {h l : Int} (i : IsLo l) (j : IsHi h) (n : 0 ≤ h) : u h = hi (ab (V h l)) := by
  obtain ⟨_, _⟩ := i; obtain ⟨_, _⟩ := j; have : ab (V h l) = V h l := by unfold ab V; rw [if_neg (by omega)]
  rw [this]; unfold hi V u; omega
def sg (n : Bool) (m : Int) : Int := if n then -m else m
theorem sg_f (m : Int) : sg false m = m := rfl
theorem sg_t (m : Int) : sg true m = -m := rfl
theorem pos_fits {m1 m0 : Int} (i : IsLo m1) (j : IsLo m0) (n : 0 ≤ s m1) : Fits (V m1 m0) ∧ hi (V m1 m0) = s m1 ∧ lo (V m1 m0) = m0 := by
  obtain ⟨_, _⟩ := i; obtain ⟨_, _⟩ := j; unfold s at n ⊢
  split at n
  · refine ⟨⟨by unfold V; omega, by unfold V; omega⟩, ?_, by unfold V lo; omega⟩
    unfold V hi; rw [if_pos ‹_›]; omega
  · omega
theorem pos_over {m1 m0 : Int} (i : IsLo m1) (j : IsLo m0) (n : s m1 < 0) : ¬ Fits (V m1 m0) := by
  obtain ⟨_, _⟩ := i; obtain ⟨_, _⟩ := j; unfold s at n
  split at n
  · omega
  · intro f; have := f.b; unfold V at this; omega
theorem neg_fits {m1 m0 : Int} (i : IsLo m1) (j : IsLo m0) (n : s (u (hi (V 0 0 - V m1 m0))) < 0 ∨ (s (u (hi (V 0 0 - V m1 m0))) = 0 ∧ lo (V 0 0 - V m1 m0) = 0)) :
    Fits (-(V m1 m0)) ∧ hi (-(V m1 m0)) = s (u (hi (V 0 0 - V m1 m0))) ∧ lo (-(V m1 m0)) = lo (V 0 0 - V m1 m0) := by
  obtain ⟨_, _⟩ := i; obtain ⟨_, _⟩ := j
  have e : V 0 0 - V m1 m0 = -(V m1 m0) := by unfold V; omega
  rw [e] at n ⊢
  have f : Fits (-(V m1 m0)) := by
    unfold s u hi lo V at n
    refine ⟨?_, ?_⟩ <;> unfold V <;> split at n <;> omega
  exact ⟨f, (s_u (isHi_hi f)).symm, rfl⟩
theorem neg_over {m1 m0 : Int} (i : IsLo m1) (j : IsLo m0) (n : 0 ≤ s (u (hi (V 0 0 - V m1 m0)))) (k : ¬ (s (u (hi (V 0 0 - V m1 m0))) = 0 ∧ lo (V 0 0 - V m1 m0) = 0)) : ¬ Fits (-(V m1 m0)) := by
  obtain ⟨_, _⟩ := i; obtain ⟨_, _⟩ := j
  have e : V 0 0 - V m1 m0 = -(V m1 m0) := by unfold V; omega
  rw [e] at n k
  intro f
  have g := isHi_hi f
  rw [s_u g] at n k
  obtain ⟨f1, f2⟩ := f
  simp only [hi, lo, V] at n k f1 f2; omega
theorem prod_lo {x y : Int} (i : IsLo x) (j : IsLo y) : 0 ≤ x * y ∧ x * y ≤ 340282366920938463426481119284349108225 := by
  obtain ⟨a, b⟩ := i; obtain ⟨c, d⟩ := j
  refine ⟨Int.mul_nonneg a c, ?_⟩
  have h : x * y ≤ 18446744073709551615 * 18446744073709551615 := Int.mul_le_mul (by omega) (by omega) c (by omega)
  omega
theorem hi_prod {x y : Int} (i : IsLo x) (j : IsLo y) : IsLo (hi (x * y)) := by
  have h := prod_lo i j
  exact ⟨by unfold hi; omega, by unfold hi; omega⟩
/-- A product of two amounts of two words, one of which has no high word. -/
theorem times_split (a1 a0 b1 b0 : Int) (z : a1 = 0 ∨ b1 = 0) : V a1 a0 * V b1 b0 = (a1 * b0 + a0 * b1) * 18446744073709551616 + a0 * b0 := by
  unfold V
  rcases z with rfl | rfl
  · simp [Int.mul_add, Int.mul_assoc, Int.mul_comm]
  · simp [Int.mul_add, Int.mul_assoc, Int.mul_comm, Int.mul_left_comm]
end W
end Go.Proofs.Ytdfmfkibafcbcaa
