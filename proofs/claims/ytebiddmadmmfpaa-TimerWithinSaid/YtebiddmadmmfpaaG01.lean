/- Texts that belong together: Math Math2 Wbase Hid Ints Tmath Wbits Wsum Wadd Wlimbs Wmul Wsig Wabs Wof Wsmall Tsum Lz Divm Div64 Divz Div64b Divby Quom Wbelow Divide Divideb Wcmp. -/
import Init
import Derived.Test.YtebiddmadmmfpaaProg
import Derived.WalkKit
import Derived.WalkSpells
import Derived.WalkLawsBesides
import Derived.Handy
import Derived.Deep.RegionHeld3
import Derived.Deep.QuietTactic
import Derived.BigQuiet
import Derived.KernelRfl
import Derived.Deep.Cut
import Derived.ChangeSlices
import Derived.Laws.Externs
import Derived.Laws.MathBits
import Derived.Test.YtebiddmadmmfpaaShelf
import Derived.Lib.ItoaNum
set_option linter.unusedSimpArgs false
set_option linter.unusedVariables false
/- Plain numbers: a wide number (high word, low word) as one whole number; the order; what fits 128 bits. No Go in sight. -/
namespace Go.Proofs.Ytebiddmadmmfpaa
set_option linter.unusedVariables false
namespace W
def B : Int := 18446744073709551616
/-- The number of a high and a low word. -/
def V (h l : Int) : Int := h * 18446744073709551616 + l
def hi (v : Int) : Int := v / 18446744073709551616
def lo (v : Int) : Int := v % 18446744073709551616
structure IsLo (l : Int) : Prop where
  a : 0 ≤ l
  b : l < 18446744073709551616
structure IsHi (h : Int) : Prop where
  a : -9223372036854775808 ≤ h
  b : h < 9223372036854775808
instance (v : Int) : Decidable (IsHi v) :=
  if h : -9223372036854775808 ≤ v ∧ v < 9223372036854775808 then isTrue ⟨h.1, h.2⟩ else isFalse fun f => h ⟨f.a, f.b⟩
structure Fits (v : Int) : Prop where
  a : -170141183460469231731687303715884105728 ≤ v
  b : v < 170141183460469231731687303715884105728
instance (v : Int) : Decidable (Fits v) :=
  if h : -170141183460469231731687303715884105728 ≤ v ∧ v < 170141183460469231731687303715884105728 then isTrue ⟨h.1, h.2⟩ else isFalse fun f => h ⟨f.a, f.b⟩
def cmpI (x y : Int) : Int := if x < y then -1 else if x = y then 0 else 1
theorem isLo_lo (v : Int) : IsLo (lo v) := ⟨by unfold lo; omega, by unfold lo; omega⟩
theorem isHi_hi {v : Int} (f : Fits v) : IsHi (hi v) := by obtain ⟨a, b⟩ := f; exact ⟨by unfold hi; omega, by unfold hi; omega⟩
theorem V_hi_lo (v : Int) : V (hi v) (lo v) = v := by unfold V hi lo; omega
theorem hi_V {h l : Int} (i : IsLo l) : hi (V h l) = h := by obtain ⟨a, b⟩ := i; unfold hi V; omega
theorem lo_V {h l : Int} (i : IsLo l) : lo (V h l) = l := by obtain ⟨a, b⟩ := i; unfold lo V; omega
theorem fits_V {h l : Int} (j : IsHi h) (i : IsLo l) : Fits (V h l) := by obtain ⟨a, b⟩ := i; obtain ⟨c, d⟩ := j; exact ⟨by unfold V; omega, by unfold V; omega⟩
theorem V_inj {h l h' l' : Int} (i : IsLo l) (i' : IsLo l') (e : V h l = V h' l') : h = h' ∧ l = l' := by
  obtain ⟨a, b⟩ := i; obtain ⟨c, d⟩ := i'; unfold V at e; omega
theorem hl_inj {x y : Int} (h : hi x = hi y) (l : lo x = lo y) : x = y := by unfold hi at h; unfold lo at l; omega
theorem isLo_0 : IsLo 0 := ⟨by omega, by omega⟩
theorem isHi_0 : IsHi 0 := ⟨by omega, by omega⟩
theorem cmp_lt {x y : Int} (h : x < y) : cmpI x y = -1 := by unfold cmpI; rw [if_pos h]
theorem cmp_eq {x y : Int} (h : x = y) : cmpI x y = 0 := by unfold cmpI; rw [if_neg (by omega), if_pos h]
theorem cmp_gt {x y : Int} (h : y < x) : cmpI x y = 1 := by unfold cmpI; rw [if_neg (by omega), if_neg (by omega)]
theorem cmp_cases (x y : Int) : (x < y ∧ cmpI x y = -1) ∨ (x = y ∧ cmpI x y = 0) ∨ (y < x ∧ cmpI x y = 1) := by
  rcases Int.lt_trichotomy x y with h | h | h
  · exact .inl ⟨h, cmp_lt h⟩
  · exact .inr (.inl ⟨h, cmp_eq h⟩)
  · exact .inr (.inr ⟨h, cmp_gt h⟩)
theorem V_eq {h l h' l' : Int} (a : h = h') (b : l = l') : V h l = V h' l' := by rw [a, b]
theorem V_lt1 {h l h' l' : Int} (i : IsLo l) (i' : IsLo l') (a : h < h') : V h l < V h' l' := by
  obtain ⟨a, b⟩ := i; obtain ⟨c, d⟩ := i'; unfold V; omega
theorem V_lt2 {h l h' l' : Int} (a : h = h') (b : l < l') : V h l < V h' l' := by unfold V; omega
/-- math/bits: Add64's sum and carry, Sub64's difference and borrow. -/
def addD (x y c : Int) : Int := (x + y + c) % 18446744073709551616
def addC (x y c : Int) : Int := (x + y + c) / 18446744073709551616
def subD (x y b : Int) : Int := (x - y - b) % 18446744073709551616
def subB (x y b : Int) : Int := if x < y + b then 1 else 0
structure IsBit (c : Int) : Prop where
  a : 0 ≤ c
  b : c ≤ 1
theorem isBit_0 : IsBit 0 := ⟨by omega, by omega⟩
theorem isBit_1 : IsBit 1 := ⟨by omega, by omega⟩
theorem isBit_addC {x y c : Int} (i : IsLo x) (j : IsLo y) (k : IsBit c) : IsBit (addC x y c) := by
  obtain ⟨_, _⟩ := i; obtain ⟨_, _⟩ := j; obtain ⟨_, _⟩ := k; exact ⟨by unfold addC; omega, by unfold addC; omega⟩
theorem isBit_subB (x y b : Int) : IsBit (subB x y b) := by unfold subB; split <;> exact ⟨by omega, by omega⟩
theorem isLo_addD (x y c : Int) : IsLo (addD x y c) := ⟨by unfold addD; omega, by unfold addD; omega⟩
theorem isLo_subD (x y c : Int) : IsLo (subD x y c) := ⟨by unfold subD; omega, by unfold subD; omega⟩
theorem isLo_bit {c : Int} (k : IsBit c) : IsLo c := by obtain ⟨_, _⟩ := k; exact ⟨by omega, by omega⟩
/-- A word of any kind as one without a sign; a word without a sign as one with. -/
def u (h : Int) : Int := h % 18446744073709551616
def s (h : Int) : Int := if h < 9223372036854775808 then h else h - 18446744073709551616
theorem isLo_u (h : Int) : IsLo (u h) := ⟨by unfold u; omega, by unfold u; omega⟩
theorem s_u {h : Int} (j : IsHi h) : s (u h) = h := by obtain ⟨_, _⟩ := j; unfold s u; split <;> omega
theorem minus_lo (a1 a0 b1 b0 : Int) : subD a0 b0 0 = lo (V a1 a0 - V b1 b0) := by unfold subD lo V; omega
theorem minus_hi {a1 a0 b1 b0 : Int} (i : IsLo a0) (j : IsLo b0) : subD a1 b1 (subB a0 b0 0) = u (hi (V a1 a0 - V b1 b0)) := by
  obtain ⟨_, _⟩ := i; obtain ⟨_, _⟩ := j; unfold subD subB u hi V; split <;> omega
def ab (v : Int) : Int := if v < 0 then -v else v
def resV (v : Int) : Int := if Fits v then v else 0
def resE (v : Int) : Int := if Fits v then 0 else 10
theorem resV_fits {v : Int} (f : Fits v) : resV v = v := by unfold resV; rw [if_pos f]
theorem resE_fits {v : Int} (f : Fits v) : resE v = 0 := by unfold resE; rw [if_pos f]
theorem resV_not {v : Int} (f : ¬ Fits v) : resV v = 0 := by unfold resV; rw [if_neg f]
theorem resE_not {v : Int} (f : ¬ Fits v) : resE v = 10 := by unfold resE; rw [if_neg f]
theorem resE_zero {v : Int} (h : resE v = 0) : Fits v := by unfold resE at h; split at h; assumption; omega
theorem fits_0 : Fits 0 := ⟨by omega, by omega⟩
theorem fits_resV (v : Int) : Fits (resV v) := by unfold resV; split; assumption; exact fits_0
theorem ab_lo_neg {h l : Int} (i : IsLo l) (j : IsHi h) (n : h < 0) : lo (V 0 0 - V (u h) l) = lo (ab (V h l)) := by
  obtain ⟨_, _⟩ := i; obtain ⟨_, _⟩ := j; have : ab (V h l) = -(V h l) := by unfold ab V; rw [if_pos (by omega)]
  rw [this]; unfold lo V u; omega
theorem ab_hi_neg {h l : Int} (i : IsLo l) (j : IsHi h) (n : h < 0) : u (hi (V 0 0 - V (u h) l)) = hi (ab (V h l)) := by
  obtain ⟨_, _⟩ := i; obtain ⟨_, _⟩ := j; have : ab (V h l) = -(V h l) := by unfold ab V; rw [if_pos (by omega)]
  rw [this]; unfold hi V u; omega
theorem ab_lo_pos {h l : Int} (i : IsLo l) (n : 0 ≤ h) : l = lo (ab (V h l)) := by
  obtain ⟨_, _⟩ := i; have : ab (V h l) = V h l := by unfold ab V; rw [if_neg (by omega)]
  rw [this]; unfold lo V; omega
theorem ab_hi_pos {h l : Int} (i : IsLo l) (j : IsHi h) (n : 0 ≤ h) : u h = hi (ab (V h l)) := by
  obtain ⟨_, _⟩ := i; obtain ⟨_, _⟩ := j; have : ab (V h l) = V h l := by unfold ab V; rw [if_neg (by omega)]
  rw [this]; unfold hi V u; omega
def sg (n : Bool) (m : Int) : Int := if n then -m else m
theorem sg_f (m : Int) : sg false m = m := rfl
theorem sg_t (m : Int) : sg true m = -m := rfl
theorem pos_fits {m1 m0 : Int} (i : IsLo m1) (j : IsLo m0) (n : 0 ≤ s m1) : Fits (V m1 m0) ∧ hi (V m1 m0) = s m1 ∧ lo (V m1 m0) = m0 := by
  obtain ⟨_, _⟩ := i; obtain ⟨_, _⟩ := j; unfold s at n ⊢
  split at n
  · refine ⟨⟨by unfold V; omega, by unfold V; omega⟩, ?_, by unfold V lo; omega⟩
    unfold V hi; rw [if_pos ‹_›]; omega
  · omega
theorem pos_over {m1 m0 : Int} (i : IsLo m1) (j : IsLo m0) (n : s m1 < 0) : ¬ Fits (V m1 m0) := by
  obtain ⟨_, _⟩ := i; obtain ⟨_, _⟩ := j; unfold s at n
  split at n
  · omega
  · intro f; have := f.b; unfold V at this; omega
theorem neg_fits {m1 m0 : Int} (i : IsLo m1) (j : IsLo m0) (n : s (u (hi (V 0 0 - V m1 m0))) < 0 ∨ (s (u (hi (V 0 0 - V m1 m0))) = 0 ∧ lo (V 0 0 - V m1 m0) = 0)) :
    Fits (-(V m1 m0)) ∧ hi (-(V m1 m0)) = s (u (hi (V 0 0 - V m1 m0))) ∧ lo (-(V m1 m0)) = lo (V 0 0 - V m1 m0) := by
  obtain ⟨_, _⟩ := i; obtain ⟨_, _⟩ := j
  have e : V 0 0 - V m1 m0 = -(V m1 m0) := by unfold V; omega
  rw [e] at n ⊢
  have f : Fits (-(V m1 m0)) := by
    unfold s u hi lo V at n
    refine ⟨?_, ?_⟩ <;> unfold V <;> split at n <;> omega
  exact ⟨f, (s_u (isHi_hi f)).symm, rfl⟩
theorem neg_over {m1 m0 : Int} (i : IsLo m1) (j : IsLo m0) (n : 0 ≤ s (u (hi (V 0 0 - V m1 m0)))) (k : ¬ (s (u (hi (V 0 0 - V m1 m0))) = 0 ∧ lo (V 0 0 - V m1 m0) = 0)) : ¬ Fits (-(V m1 m0)) := by
  obtain ⟨_, _⟩ := i; obtain ⟨_, _⟩ := j
  have e : V 0 0 - V m1 m0 = -(V m1 m0) := by unfold V; omega
  rw [e] at n k
  intro f
  have g := isHi_hi f
  rw [s_u g] at n k
  obtain ⟨f1, f2⟩ := f
  simp only [hi, lo, V] at n k f1 f2; omega
theorem prod_lo {x y : Int} (i : IsLo x) (j : IsLo y) : 0 ≤ x * y ∧ x * y ≤ 340282366920938463426481119284349108225 := by
  obtain ⟨a, b⟩ := i; obtain ⟨c, d⟩ := j
  refine ⟨Int.mul_nonneg a c, ?_⟩
  have h : x * y ≤ 18446744073709551615 * 18446744073709551615 := Int.mul_le_mul (by omega) (by omega) c (by omega)
  omega
theorem hi_prod {x y : Int} (i : IsLo x) (j : IsLo y) : IsLo (hi (x * y)) := by
  have h := prod_lo i j
  exact ⟨by unfold hi; omega, by unfold hi; omega⟩
/-- A product of two amounts of two words, one of which has no high word. -/
theorem times_split (a1 a0 b1 b0 : Int) (z : a1 = 0 ∨ b1 = 0) : V a1 a0 * V b1 b0 = (a1 * b0 + a0 * b1) * 18446744073709551616 + a0 * b0 := by
  unfold V
  rcases z with rfl | rfl
  · simp [Int.mul_add, Int.mul_assoc, Int.mul_comm]
  · simp [Int.mul_add, Int.mul_assoc, Int.mul_comm, Int.mul_left_comm]
end W
end Go.Proofs.Ytebiddmadmmfpaa
/- Plain numbers: sums of many wide numbers in three limbs. No Go in sight. -/
namespace Go.Proofs.Ytebiddmadmmfpaa
set_option linter.unusedVariables false
namespace W
/-- Three limbs of a sum, modulo 2^192. -/
structure SumAt (t s0 s1 s2 : Int) : Prop where
  a : s0 = t % 18446744073709551616
  b : s1 = t / 18446744073709551616 % 18446744073709551616
  c : s2 = t / 18446744073709551616 / 18446744073709551616 % 18446744073709551616
theorem sumAt_0 : SumAt 0 0 0 0 := ⟨rfl, rfl, rfl⟩
theorem SumAt.lo0 {t s0 s1 s2 : Int} (h : SumAt t s0 s1 s2) : IsLo s0 := by obtain ⟨a, b, c⟩ := h; exact ⟨by omega, by omega⟩
theorem SumAt.lo1 {t s0 s1 s2 : Int} (h : SumAt t s0 s1 s2) : IsLo s1 := by obtain ⟨a, b, c⟩ := h; exact ⟨by omega, by omega⟩
theorem SumAt.lo2 {t s0 s1 s2 : Int} (h : SumAt t s0 s1 s2) : IsLo s2 := by obtain ⟨a, b, c⟩ := h; exact ⟨by omega, by omega⟩
theorem SumAt.step {t s0 s1 s2 eh el : Int} (h : SumAt t s0 s1 s2) (j : IsHi eh) (i : IsLo el) :
    SumAt (t + V eh el) (addD s0 el 0) (addD s1 (u eh) (addC s0 el 0)) (addD s2 (u (eh / 9223372036854775808)) (addC s1 (u eh) (addC s0 el 0))) := by
  obtain ⟨a, b, c⟩ := h; obtain ⟨_, _⟩ := i; obtain ⟨_, _⟩ := j
  have q : eh / 18446744073709551616 = eh / 9223372036854775808 := by omega
  have p : (t + V eh el) / 18446744073709551616 = t / 18446744073709551616 + eh + (s0 + el) / 18446744073709551616 := by simp only [V]; omega
  have r0 : 0 ≤ (s0 + el) / 18446744073709551616 := by omega
  have r1 : (s0 + el) / 18446744073709551616 ≤ 1 := by omega
  have e0 : addC s0 el 0 = (s0 + el) / 18446744073709551616 := by simp [addC]
  generalize hr : (s0 + el) / 18446744073709551616 = r at *
  have k : (t / 18446744073709551616 + eh + r) / 18446744073709551616 = t / 18446744073709551616 / 18446744073709551616 + eh / 18446744073709551616 + (s1 + eh % 18446744073709551616 + r) / 18446744073709551616 := by omega
  refine ⟨?_, ?_, ?_⟩
  · simp only [addD, V]; omega
  · rw [p, e0]; simp only [addD, u]; omega
  · rw [p, k, e0, q]; simp only [addD, addC, u]; omega
theorem SumAt.done {t s0 s1 s2 : Int} (h : SumAt t s0 s1 s2) (lo : -1569275433846670190958947355801916604025588861116008628224 ≤ t) (up : t ≤ 1569275433846670190958947355801916604025588861116008628224)
    (e : s2 = u (s s1 / 9223372036854775808)) : Fits t ∧ hi t = s s1 ∧ W.lo t = s0 := by
  obtain ⟨a, b, c⟩ := h
  have f : Fits t := by
    simp only [u, s] at e
    exact ⟨by split at e <;> omega, by split at e <;> omega⟩
  refine ⟨f, ?_, ?_⟩
  · obtain ⟨_, _⟩ := f
    simp only [hi, s]; split <;> omega
  · simp only [W.lo]; omega
theorem SumAt.over {t s0 s1 s2 : Int} (h : SumAt t s0 s1 s2) (e : s2 ≠ u (s s1 / 9223372036854775808)) : ¬ Fits t := by
  rintro ⟨x, y⟩
  obtain ⟨a, b, c⟩ := h
  apply e
  simp only [u, s]; split <;> omega
def sumV : List (Int × Int) → Int
  | [] => 0
  | p :: l => V p.1 p.2 + sumV l
theorem sumV_append (l m : List (Int × Int)) : sumV (l ++ m) = sumV l + sumV m := by
  induction l with
  | nil => simp [sumV]
  | cons p l ih => simp [sumV, ih, Int.add_assoc]
theorem sumV_take (l : List (Int × Int)) (k : Nat) (h : k < l.length) : sumV (l.take (k + 1)) = sumV (l.take k) + V (l.getD k (0, 0)).1 (l.getD k (0, 0)).2 := by
  rw [List.take_succ_eq_append_getElem h, sumV_append]
  simp [sumV, List.getD, List.getElem?_eq_getElem h]
structure IsW (p : Int × Int) : Prop where
  a : IsHi p.1
  b : IsLo p.2
theorem sumV_bound (l : List (Int × Int)) (h : ∀ p ∈ l, IsW p) : -(170141183460469231731687303715884105728 * (l.length : Int)) ≤ sumV l ∧ sumV l ≤ 170141183460469231731687303715884105728 * (l.length : Int) := by
  induction l with
  | nil => simp [sumV]
  | cons p l ih =>
    have i := ih fun q hq => h q (List.mem_cons_of_mem _ hq)
    have w := h p (List.mem_cons_self ..)
    have f := fits_V w.a w.b
    obtain ⟨f1, f2⟩ := f
    simp only [sumV, List.length_cons]
    omega
end W
end Go.Proofs.Ytebiddmadmmfpaa
/- Small lemmas for all walks: what lay below stays; worlds under a name; wide numbers as results. -/
namespace Go.Proofs.Ytebiddmadmmfpaa
set_option linter.unusedVariables false
open Go.RowKit W
theorem ret_int {k : IntKind} {a b : Int} (h : a = b) : Ending.returned (.int k a) = .returned (.int k b) := by rw [h]
theorem ret_bool {a b : Bool} (h : a = b) : Ending.returned (.bool a) = .returned (.bool b) := by rw [h]
theorem ret_two {k : IntKind} {a b c d : Int} (h : a = b) (g : c = d) : Ending.returned (.tuple #[.int k a, .int k c]) = .returned (.tuple #[.int k b, .int k d]) := by rw [h, g]
/-- What lay below stays: cells and marks, as rules for the walk. -/
theorem bcell {W w1 : World} (hb : Below W.heap.size W w1) :
    (∀ b o, b < W.heap.size → w1.cell? ⟨b, o, none⟩ = W.cell? ⟨b, o, none⟩) ∧ (∀ b o, b < W.heap.size → w1.frozen? ⟨b, o, none⟩ = W.frozen? ⟨b, o, none⟩) ∧ W.heap.size ≤ w1.heap.size :=
  ⟨fun b o h => hb.cell (p := ⟨b, o, none⟩) h, fun b o h => hb.frozen (p := ⟨b, o, none⟩) h, hb.size⟩
/-- A cell of a block that lay there ahead of a call: what it holds, that it may be written, that its block is there. -/
theorem live {W w1 : World} (v : Value) (hb : Below W.heap.size W w1) (b o : Nat) (h : b < W.heap.size) (hv : W.cell? ⟨b, o, none⟩ = some v) (hf : W.frozen? ⟨b, o, none⟩ = false) :
    w1.cell? ⟨b, o, none⟩ = some v ∧ w1.frozen? ⟨b, o, none⟩ = false ∧ b < w1.heap.size :=
  ⟨(hb.cell (p := ⟨b, o, none⟩) h).trans hv, (hb.frozen (p := ⟨b, o, none⟩) h).trans hf, Nat.lt_of_lt_of_le h hb.size⟩
theorem wrap_s {m : Int} (i : IsLo m) : IntKind.i64.wrap m = s m := by
  obtain ⟨_, _⟩ := i; rw [IntKind.wrap_i64]; unfold s; split <;> omega
/-- The sum of the numbers, or that it is over. -/
abbrev sumRes (t : Int) : Ending := .returned (.tuple #[.agg #[.int .i64 (hi (resV t)), .int .u64 (lo (resV t))], .int .i64 (resE t)])
abbrev wideRes (v : Int) : Ending := .returned (.agg #[.int .i64 (hi v), .int .u64 (lo v)])
theorem ret_res {v x1 x0 : Int} (f : Fits v) (h1 : hi v = x1) (h0 : lo v = x0) : Ending.returned (.tuple #[.agg #[.int .i64 x1, .int .u64 x0], .int .i64 0]) =
    .returned (.tuple #[.agg #[.int .i64 (hi (resV v)), .int .u64 (lo (resV v))], .int .i64 (resE v)]) := by
  rw [resV_fits f, resE_fits f, h1, h0]
theorem ret_over {v : Int} (f : ¬ Fits v) : Ending.returned (.tuple #[.agg #[.int .i64 0, .int .u64 0], .int .i64 10]) =
    .returned (.tuple #[.agg #[.int .i64 (hi (resV v)), .int .u64 (lo (resV v))], .int .i64 (resE v)]) := by
  rw [resV_not f, resE_not f]; rfl
/-- Below block B the world w is as W was. -/
structure Keeps (B : Nat) (W w : World) : Prop where
  below : Below B W w
  le : B ≤ W.heap.size
theorem Keeps.start {B : Nat} {W : World} (h : B ≤ W.heap.size) : Keeps B W W := ⟨Below.refl _ _, h⟩
theorem Keeps.size {B : Nat} {W w : World} (k : Keeps B W w) : B ≤ w.heap.size := Nat.le_trans k.le k.below.size
theorem Keeps.call {B : Nat} {W w w1 : World} (k : Keeps B W w) (hb : Below w.heap.size w w1) : Keeps B W w1 := ⟨k.below.trans (hb.mono k.size), k.le⟩
theorem Keeps.alloc {B : Nat} {W w : World} (k : Keeps B W w) (o : Obj) : Keeps B W (w.alloc o) := ⟨k.below.alloc k.size o, k.le⟩
theorem Keeps.drew {B : Nat} {W w : World} (k : Keeps B W w) : Keeps B W w.drew := ⟨k.below.drew, k.le⟩
theorem Keeps.setCell {B : Nat} {W w : World} (k : Keeps B W w) {p : Addr} (hp : B ≤ p.block) (u : Value) : Keeps B W (w.setCell p u) := ⟨k.below.setCell hp u, k.le⟩
theorem Keeps.cell {B : Nat} {W w : World} (k : Keeps B W w) {b o : Nat} {v : Value} (h : W.cell? ⟨b, o, none⟩ = some v) (hb : b < B) : w.cell? ⟨b, o, none⟩ = some v := (k.below.cell (p := ⟨b, o, none⟩) hb).trans h
theorem Keeps.free {B : Nat} {W w : World} (k : Keeps B W w) {b o : Nat} (h : W.frozen? ⟨b, o, none⟩ = false) (hb : b < B) : w.frozen? ⟨b, o, none⟩ = false := (k.below.frozen (p := ⟨b, o, none⟩) hb).trans h
/-- The world under a name, with what is known of it. -/
theorem abs_wp {P : Program} {c : Code} {Q : Exit → Act → World → Prop} {a : Act} {w : World} (F : World → Prop) (hF : F w) (h : ∀ W, F W → c.wp P Q a W) : c.wp P Q a w := h w hF
theorem abs_list {P : Program} {ops : Array Oper} {Q : Exit → Act → World → Prop} {l : List Oper} {a : Act} {w : World} (F : World → Prop) (hF : F w) (h : ∀ W, F W → wpList P ops Q l a W) : wpList P ops Q l a w := h w hF
theorem below_drewN {B : Nat} {a w : World} (h : Below B a w) (n : Nat) : Below B a (w.drewN n) := ⟨h.os, h.tape, h.output, h.size, h.block⟩
theorem lo_of_wf {x : Int} (h : (Lit.int .u64 x).wf = true) : IsLo x := by
  simp only [Lit.wf, IntKind.min, IntKind.max, IntKind.signed, IntKind.bits, Bool.and_eq_true] at h
  exact ⟨by simp at h; omega, by simp at h; omega⟩
theorem hi_of_wf {x : Int} (h : (Lit.int .i64 x).wf = true) : IsHi x := by
  simp only [Lit.wf, IntKind.min, IntKind.max, IntKind.signed, IntKind.bits, Bool.and_eq_true, decide_eq_true_eq, if_true] at h
  exact ⟨by omega, by omega⟩
theorem isW_res (v : Int) : IsW (hi (resV v), lo (resV v)) := ⟨isHi_hi (fits_resV v), isLo_lo _⟩
/-- Small: the number as an int64, if it is one. -/
def smallV (v : Int) : Int := if IsHi v then v else 0
def smallB (v : Int) : Bool := decide (IsHi v)
end Go.Proofs.Ytebiddmadmmfpaa
/- Small words for all walks: a fact behind a name; boxes of two and three cells. -/
namespace Go.Proofs.Ytebiddmadmmfpaa
set_option linter.unusedVariables false
open Go.RowKit W
/-- A contract of a function that only computes. -/
abbrev CalcN (f : Nat) (args : Array Value) (w : World) (r : Value) : Prop := Calls Try.prog f args w fun e w' => e = .returned r ∧ w = w'
theorem hide {p : Prop} (h : p) : Hid p := h
/-- A box of two cells that may be written. -/
structure Box2 (w : World) (b : Nat) (x y : Value) : Prop where
  x : w.cell? ⟨b, 0, none⟩ = some x
  y : w.cell? ⟨b, 1, none⟩ = some y
  fx : w.frozen? ⟨b, 0, none⟩ = false
  fy : w.frozen? ⟨b, 1, none⟩ = false
  lt : b < w.heap.size
theorem Box2.later {w w' : World} {b : Nat} {x y : Value} (h : Box2 w b x y) (k : Below w.heap.size w w') : Box2 w' b x y :=
  ⟨(k.cell (p := ⟨b, 0, none⟩) h.lt).trans h.x, (k.cell (p := ⟨b, 1, none⟩) h.lt).trans h.y,
   (k.frozen (p := ⟨b, 0, none⟩) h.lt).trans h.fx, (k.frozen (p := ⟨b, 1, none⟩) h.lt).trans h.fy, Nat.lt_of_lt_of_le h.lt k.size⟩
/-- A box of three cells that may be written. -/
structure Box3 (w : World) (b : Nat) (x y z : Value) : Prop where
  x : w.cell? ⟨b, 0, none⟩ = some x
  y : w.cell? ⟨b, 1, none⟩ = some y
  z : w.cell? ⟨b, 2, none⟩ = some z
  fx : w.frozen? ⟨b, 0, none⟩ = false
  fy : w.frozen? ⟨b, 1, none⟩ = false
  fz : w.frozen? ⟨b, 2, none⟩ = false
  lt : b < w.heap.size
theorem Box3.later {w w' : World} {b : Nat} {x y z : Value} (h : Box3 w b x y z) (k : Below w.heap.size w w') : Box3 w' b x y z :=
  ⟨(k.cell (p := ⟨b, 0, none⟩) h.lt).trans h.x, (k.cell (p := ⟨b, 1, none⟩) h.lt).trans h.y, (k.cell (p := ⟨b, 2, none⟩) h.lt).trans h.z,
   (k.frozen (p := ⟨b, 0, none⟩) h.lt).trans h.fx, (k.frozen (p := ⟨b, 1, none⟩) h.lt).trans h.fy, (k.frozen (p := ⟨b, 2, none⟩) h.lt).trans h.fz, Nat.lt_of_lt_of_le h.lt k.size⟩
/-- A box of one cell that may be written. -/
structure Box1 (w : World) (b : Nat) (x : Value) : Prop where
  x : w.cell? ⟨b, 0, none⟩ = some x
  fx : w.frozen? ⟨b, 0, none⟩ = false
  lt : b < w.heap.size
theorem Box1.later {w w' : World} {b : Nat} {x : Value} (h : Box1 w b x) (k : Below w.heap.size w w') : Box1 w' b x :=
  ⟨(k.cell (p := ⟨b, 0, none⟩) h.lt).trans h.x, (k.frozen (p := ⟨b, 0, none⟩) h.lt).trans h.fx, Nat.lt_of_lt_of_le h.lt k.size⟩
theorem box1 {w w' : World} (k : Below w.heap.size w w') (b : Nat) (x : Value) (hx : w.cell? ⟨b, 0, none⟩ = some x) (fx : w.frozen? ⟨b, 0, none⟩ = false) (lt : b < w.heap.size) : Box1 w' b x :=
  Box1.later ⟨hx, fx, lt⟩ k
theorem box2 {w w' : World} (k : Below w.heap.size w w') (b : Nat) (x y : Value) (hx : w.cell? ⟨b, 0, none⟩ = some x) (hy : w.cell? ⟨b, 1, none⟩ = some y) (fx : w.frozen? ⟨b, 0, none⟩ = false) (fy : w.frozen? ⟨b, 1, none⟩ = false) (lt : b < w.heap.size) : Box2 w' b x y :=
  Box2.later ⟨hx, hy, fx, fy, lt⟩ k
theorem box3 {w w' : World} (k : Below w.heap.size w w') (b : Nat) (x y z : Value) (hx : w.cell? ⟨b, 0, none⟩ = some x) (hy : w.cell? ⟨b, 1, none⟩ = some y) (hz : w.cell? ⟨b, 2, none⟩ = some z) (fx : w.frozen? ⟨b, 0, none⟩ = false) (fy : w.frozen? ⟨b, 1, none⟩ = false) (fz : w.frozen? ⟨b, 2, none⟩ = false) (lt : b < w.heap.size) : Box3 w' b x y z :=
  Box3.later ⟨hx, hy, hz, fx, fy, fz, lt⟩ k
end Go.Proofs.Ytebiddmadmmfpaa
/- Slices of numbers that came in, nil too. -/
namespace Go.Proofs.Ytebiddmadmmfpaa
set_option linter.unusedVariables false
set_option linter.unusedSimpArgs false
open Go.RowKit W
/-- Numbers of a kind in a block. -/
structure LieI (k : IntKind) (w : World) (g o : Nat) (xs : List Int) : Prop where
  cell : ∀ j (h : j < xs.length), w.cell? ⟨g, o + j, none⟩ = some (.int k xs[j])
  lt : g < w.heap.size
theorem LieI.later {k : IntKind} {w w' : World} {g o : Nat} {xs : List Int} (h : LieI k w g o xs) (b : Below w.heap.size w w') : LieI k w' g o xs :=
  ⟨fun j hj => (b.cell (p := ⟨g, o + j, none⟩) h.lt).trans (h.cell j hj), Nat.lt_of_lt_of_le h.lt b.size⟩
/-- A slice of numbers, nil too. -/
def IsInts (k : IntKind) (w : World) (a : Option Addr) (xs : List Int) : Prop := xs = [] ∨ ∃ g o, a = some ⟨g, o, none⟩ ∧ LieI k w g o xs
theorem IsInts.later {k : IntKind} {w w' : World} {a : Option Addr} {xs : List Int} (h : IsInts k w a xs) (b : Below w.heap.size w w') : IsInts k w' a xs := by
  rcases h with h | ⟨g, o, rfl, h⟩
  · exact .inl h
  · exact .inr ⟨g, o, rfl, h.later b⟩
theorem cellb_lt {w : World} {b o : Nat} {v : Value} (h : w.cell? ⟨b, o, none⟩ = some v) : b < w.heap.size := by
  rcases Nat.lt_or_ge b w.heap.size with hlt | hge
  · exact hlt
  · unfold World.cell? at h; simp [Array.getElem?_eq_none hge] at h
open Go.ChangeShapes Go.WideShapes in
/-- A slice of numbers as it is read. -/
theorem isInts_of {H : Type} {enc : TypeId × Value → H} {P : Program} {w : World} {base : Nat} {spare : Nat → Bool} {held : Bool} {n : Nat} {t e : TypeId} {k : IntKind} {v : Value} {y : DataW H × List MemPlace}
    (ht : P.underlying t = some (.slice e)) (he : P.underlying e = some (.int k)) (hc : P.cellsOf e = 1) (h : DataW.trod enc P w base spare held n t [v] = some y) :
    ∃ a c xs, v = .slice a xs.length c ∧ IsInts k w a xs ∧ ∀ x ∈ xs, (Lit.int k x).wf = true := by
  rcases open_ints ht he hc h with ⟨hcs, _⟩ | ⟨a, len, cap, zs, hcs, _, hl, hm, hz, _, hcell, hwf⟩
  · simp at hcs
    exact ⟨none, 0, [], hcs, .inl rfl, by simp⟩
  · simp at hcs
    have lz : len ≤ zs.length := by rw [hz]; split <;> omega
    have lt : (zs.take len).length = len := by rw [List.length_take]; omega
    refine ⟨some a, cap, zs.take len, by rw [lt]; exact hcs, ?_, fun x hx => hwf x (List.mem_of_mem_take hx)⟩
    rcases Nat.eq_zero_or_pos len with rfl | hpos
    · exact .inl (by simp)
    · have g0 := hcell 0 (by omega)
      obtain ⟨b, off, spot⟩ := a
      have hspot : spot = none := by simpa [Addr.add] using World.cell?_spot g0
      subst hspot
      refine .inr ⟨b, off, rfl, ⟨fun j hj => ?_, ?_⟩⟩
      · rw [lt] at hj
        have := hcell j (by omega)
        rw [add_plain] at this
        rw [this]
        simp [List.getD_eq_getElem?_getD, List.getElem?_eq_getElem (show j < zs.length by omega)]
      · have := hcell 0 (by omega)
        rw [add_plain] at this
        exact cellb_lt this
end Go.Proofs.Ytebiddmadmmfpaa
/- timer: the plain mathematics: samples, sorted lists, merged lists, sums, ranks. -/
namespace Go.Proofs.Ytebiddmadmmfpaa.T9
set_option linter.unusedVariables false
set_option linter.unusedSimpArgs false
def okS (v : Int) : Bool := decide (0 ≤ v ∧ v ≤ 100000000000000)
def fineB (xs : List Int) : Bool := xs.all okS
theorem fine_mem {xs : List Int} (h : fineB xs = true) {x : Int} (hx : x ∈ xs) : 0 ≤ x ∧ x ≤ 100000000000000 := by
  have := List.all_eq_true.1 h x hx
  simpa [okS] using this
theorem fine_of {xs : List Int} (h : ∀ (j : Nat) (h : j < xs.length), 0 ≤ xs[j] ∧ xs[j] ≤ 100000000000000) : fineB xs = true := by
  refine List.all_eq_true.2 fun x hx => ?_
  obtain ⟨j, hj, rfl⟩ := List.getElem_of_mem hx
  simpa [okS] using h j hj
theorem not_fine {xs : List Int} {j : Nat} (h : j < xs.length) (n : ¬ (0 ≤ xs[j] ∧ xs[j] ≤ 100000000000000)) : fineB xs = false := by
  rcases q : fineB xs with _ | _
  · rfl
  · exact absurd (fine_mem q (List.getElem_mem h)) n
theorem fine_perm {xs ys : List Int} (h : xs.Perm ys) : fineB xs = fineB ys := h.all_eq
/-- The list by rising numbers. -/
def srt (xs : List Int) : List Int := xs.mergeSort fun x y => decide (x ≤ y)
theorem srt_perm (xs : List Int) : (srt xs).Perm xs := List.mergeSort_perm _ _
theorem srt_len (xs : List Int) : (srt xs).length = xs.length := (srt_perm xs).length_eq
theorem srt_up (xs : List Int) : (srt xs).Pairwise (· ≤ ·) := by
  have h := List.pairwise_mergeSort (le := fun x y : Int => decide (x ≤ y)) (by intro a b c; simp only [decide_eq_true_eq]; omega) (by intro a b; simp only [Bool.or_eq_true, decide_eq_true_eq]; omega) xs
  exact h.imp (by intro a b q; simpa using q)
theorem srt_of {xs ys : List Int} (p : ys.Perm xs) (h : ys.Pairwise (· ≤ ·)) : ys = srt xs :=
  List.Perm.eq_of_pairwise (le := (· ≤ ·)) (fun a b _ _ h1 h2 => by omega) h (srt_up xs) (p.trans (srt_perm xs).symm)
theorem srt_eq {xs ys : List Int} (p : ys.Perm xs) : srt ys = srt xs := srt_of ((srt_perm ys).trans p) (srt_up ys)
/-- Two lists put together: the lesser first number first, of the same the first list's. -/
def mg (a b : List Int) : List Int := a.merge b fun x y => decide (x ≤ y)
theorem mg_nil (b : List Int) : mg [] b = b := by simp [mg]
theorem mg_nil2 (a : List Int) : mg a [] = a := by simp [mg]
theorem mg_b {x y : Int} {a b : List Int} (h : y < x) : mg (x :: a) (y :: b) = y :: mg (x :: a) b := by
  simp only [mg, List.cons_merge_cons]; rw [if_neg (by simpa using h)]
theorem mg_a {x y : Int} {a b : List Int} (h : ¬ y < x) : mg (x :: a) (y :: b) = x :: mg a (y :: b) := by
  simp only [mg, List.cons_merge_cons]; rw [if_pos (by simpa using h)]
theorem mg_perm (a b : List Int) : (mg a b).Perm (a ++ b) := List.merge_perm_append _
theorem mg_len (a b : List Int) : (mg a b).length = a.length + b.length := by rw [(mg_perm a b).length_eq]; simp
theorem mg_srt (a b : List Int) : mg (srt a) (srt b) = srt (a ++ b) := by
  refine srt_of ((mg_perm _ _).trans ((srt_perm a).append (srt_perm b))) ?_
  have h := List.pairwise_merge (le := fun x y : Int => decide (x ≤ y)) (by intro a b c; simp only [decide_eq_true_eq]; omega) (by intro a b; simp only [Bool.or_eq_true, decide_eq_true_eq]; omega) (srt a) (srt b) ((srt_up a).imp (by intro x y q; simpa using q)) ((srt_up b).imp (by intro x y q; simpa using q))
  exact h.imp (by intro x y q; simpa using q)
theorem srt_small {xs : List Int} (h : xs.length < 2) : srt xs = xs := by
  refine (srt_of (List.Perm.refl _) ?_).symm
  match xs, h with
  | [], _ => exact List.Pairwise.nil
  | [x], _ => exact List.pairwise_singleton _ _
theorem srt_halves (xs : List Int) (k : Nat) : mg (srt (xs.take k)) (srt (xs.drop k)) = srt xs := by rw [mg_srt, List.take_append_drop]
/-- Sums. -/
theorem sum_take {xs : List Int} {k : Nat} (h : k < xs.length) : (xs.take (k + 1)).sum = (xs.take k).sum + xs[k] := by
  rw [List.take_succ_eq_append_getElem h, List.sum_append]; simp only [List.sum_cons, List.sum_nil]; omega
theorem sum_le {xs : List Int} {m : Int} (h : ∀ x ∈ xs, 0 ≤ x ∧ x ≤ m) : 0 ≤ xs.sum ∧ xs.sum ≤ xs.length * m := by
  induction xs with
  | nil => simp
  | cons x r ih =>
    have h1 := h x (by simp)
    have h2 := ih fun y hy => h y (by simp [hy])
    have e : ((x :: r).length : Int) * m = r.length * m + m := by rw [List.length_cons]; simp only [Int.natCast_add, Int.add_mul]; omega
    rw [List.sum_cons, e]; omega
theorem fine_sum {xs : List Int} (h : fineB xs = true) (k : Nat) : 0 ≤ (xs.take k).sum ∧ (xs.take k).sum ≤ xs.length * 100000000000000 := by
  have h1 := sum_le (xs := xs.take k) (m := 100000000000000) fun x hx => fine_mem h (List.mem_of_mem_take hx)
  have h2 : (xs.take k).length ≤ xs.length := by simp; omega
  omega
theorem sum_perm {xs ys : List Int} (h : xs.Perm ys) : xs.sum = ys.sum := by
  induction h with
  | nil => rfl
  | cons x _ ih => simp [ih]
  | swap x y l => simp; omega
  | trans _ _ h1 h2 => exact h1.trans h2
/-- The nearest rank. -/
def rnk (n p : Int) : Int := n * p / 100000000 + if n * p % 100000000 = 0 then 0 else 1
theorem rnk_le {n p : Int} (h1 : 1 ≤ n) (h2 : 1 ≤ p) (h3 : p ≤ 100000000) : 1 ≤ rnk n p ∧ rnk n p ≤ n := by
  have a : n * p ≤ n * 100000000 := Int.mul_le_mul_of_nonneg_left h3 (by omega)
  have b : 1 * 1 ≤ n * p := Int.mul_le_mul h1 h2 (by omega) (by omega)
  unfold rnk; split <;> omega
/-- The squares' sum, that begins anew where 128 bits don't hold it. -/
def sq1 (m s v : Int) : Int := let t := s + (v - m) * (v - m); if W.Fits t then t else 0
def sqC (m : Int) (xs : List Int) : Int := xs.foldl (sq1 m) 0
def sqS (m : Int) (xs : List Int) : Int := (xs.map fun v => (v - m) * (v - m)).sum
theorem sqC_take {m : Int} {xs : List Int} {k : Nat} (h : k < xs.length) : sqC m (xs.take (k + 1)) = sq1 m (sqC m (xs.take k)) xs[k] := by
  unfold sqC; rw [List.take_succ_eq_append_getElem h, List.foldl_append]; rfl
theorem sqS_take {m : Int} {xs : List Int} {k : Nat} (h : k < xs.length) : sqS m (xs.take (k + 1)) = sqS m (xs.take k) + (xs[k] - m) * (xs[k] - m) := by
  unfold sqS; rw [List.take_succ_eq_append_getElem h, List.map_append, List.sum_append]; simp only [List.map_cons, List.map_nil, List.sum_cons, List.sum_nil]; omega
theorem sq_le {x b : Int} (h1 : -b ≤ x) (h2 : x ≤ b) : 0 ≤ x * x ∧ x * x ≤ b * b := by
  rcases Int.le_total 0 x with h | h
  · exact ⟨Int.mul_nonneg h h, Int.mul_le_mul h2 h2 h (by omega)⟩
  · have e : x * x = (-x) * (-x) := by rw [Int.neg_mul_neg]
    rw [e]
    exact ⟨Int.mul_nonneg (by omega) (by omega), Int.mul_le_mul (by omega) (by omega) (by omega) (by omega)⟩
theorem sqC_le {m b : Int} {xs : List Int} (h : ∀ x ∈ xs, -b ≤ x - m ∧ x - m ≤ b) : ∀ k, 0 ≤ sqC m (xs.take k) ∧ sqC m (xs.take k) ≤ k * (b * b) := by
  intro k
  induction k with
  | zero => simp [sqC]
  | succ k ih =>
    by_cases hk : k < xs.length
    · rw [sqC_take hk]
      have h0 := h xs[k] (List.getElem_mem hk)
      have h1 := sq_le h0.1 h0.2
      have e : ((k + 1 : Nat) : Int) * (b * b) = k * (b * b) + b * b := by simp only [Int.natCast_add, Int.add_mul]; omega
      rw [e]
      unfold sq1
      simp only
      split <;> omega
    · rw [List.take_of_length_le (by omega)]
      rw [List.take_of_length_le (by omega)] at ih
      have e : ((k + 1 : Nat) : Int) * (b * b) = k * (b * b) + b * b := by simp only [Int.natCast_add, Int.add_mul]; omega
      have : 0 ≤ b * b := by
        rcases Int.le_total 0 b with q | q
        · exact Int.mul_nonneg q q
        · rw [← Int.neg_mul_neg]; exact Int.mul_nonneg (by omega) (by omega)
      omega
theorem sqS_le {m b : Int} {xs : List Int} (h : ∀ x ∈ xs, -b ≤ x - m ∧ x - m ≤ b) : 0 ≤ sqS m xs ∧ sqS m xs ≤ xs.length * (b * b) := by
  have := sum_le (xs := xs.map fun v => (v - m) * (v - m)) (m := b * b) (by
    intro y hy
    obtain ⟨x, hx, rfl⟩ := List.mem_map.1 hy
    exact sq_le (h x hx).1 (h x hx).2)
  simpa [sqS] using this
/-- Where 128 bits hold it, it is the sum. -/
theorem sqC_eq {m b : Int} {xs : List Int} (h : ∀ x ∈ xs, -b ≤ x - m ∧ x - m ≤ b) (f : xs.length * (b * b) < 170141183460469231731687303715884105728) : sqC m xs = sqS m xs := by
  have aux : ∀ k, k ≤ xs.length → sqC m (xs.take k) = sqS m (xs.take k) := by
    intro k
    induction k with
    | zero => intro _; simp [sqC, sqS]
    | succ k ih =>
      intro hk
      rw [sqC_take (by omega), sqS_take (by omega), ih (by omega)]
      have h1 := sqS_le (xs := xs.take (k + 1)) fun x hx => h x (List.mem_of_mem_take hx)
      rw [sqS_take (by omega)] at h1
      have h2 : ((xs.take (k + 1)).length : Int) * (b * b) ≤ xs.length * (b * b) := by
        refine Int.mul_le_mul_of_nonneg_right (by simp; omega) ?_
        rcases Int.le_total 0 b with q | q
        · exact Int.mul_nonneg q q
        · rw [← Int.neg_mul_neg]; exact Int.mul_nonneg (by omega) (by omega)
      unfold sq1
      simp only
      rw [if_pos ⟨by omega, by omega⟩]
  have := aux xs.length (Nat.le_refl _)
  rwa [List.take_length] at this
theorem sqS_perm {m : Int} {xs ys : List Int} (h : xs.Perm ys) : sqS m xs = sqS m ys := sum_perm (h.map _)
end Go.Proofs.Ytebiddmadmmfpaa.T9
/- math/bits, as the model runs it. -/
namespace Go.Proofs.Ytebiddmadmmfpaa
set_option linter.unusedVariables false
open Go.RowKit W
theorem run_addC (x y c : Int) (i : IsLo x) (j : IsLo y) (k : IsBit c) (w : World) :
    (callFunc 54 #[.int .u64 x, .int .u64 y, .int .u64 c]).run Try.prog w =
      .ok (.value (.tuple #[.int .u64 (addD x y c), .int .u64 (addC x y c)])) w := by
  obtain ⟨x, rfl⟩ := Int.eq_ofNat_of_zero_le i.a
  obtain ⟨y, rfl⟩ := Int.eq_ofNat_of_zero_le j.a
  obtain ⟨c, rfl⟩ := Int.eq_ofNat_of_zero_le k.a
  obtain ⟨_, hc⟩ := k
  have hc : c = 0 ∨ c = 1 := by omega
  rw [run_callFunc_extern Try.func54 (by kernel_rfl) (by kernel_rfl) (by kernel_rfl) (e := (Extern.MathBitsCarry.rows.getD 0 default).2) (by kernel_rfl)]
  rcases hc with rfl | rfl <;> rfl
theorem run_subB (x y c : Int) (i : IsLo x) (j : IsLo y) (k : IsBit c) (w : World) :
    (callFunc 82 #[.int .u64 x, .int .u64 y, .int .u64 c]).run Try.prog w =
      .ok (.value (.tuple #[.int .u64 (subD x y c), .int .u64 (subB x y c)])) w := by
  obtain ⟨x, rfl⟩ := Int.eq_ofNat_of_zero_le i.a
  obtain ⟨y, rfl⟩ := Int.eq_ofNat_of_zero_le j.a
  obtain ⟨c, rfl⟩ := Int.eq_ofNat_of_zero_le k.a
  obtain ⟨_, hc⟩ := k
  obtain ⟨_, hx⟩ := i
  obtain ⟨_, hy⟩ := j
  have hc : c = 0 ∨ c = 1 := by omega
  rw [run_callFunc_extern Try.func82 (by kernel_rfl) (by kernel_rfl) (by kernel_rfl) (e := (Extern.MathBitsCarry.rows.getD 1 default).2) (by kernel_rfl)]
  have e1 : subD x y c = (((x + 18446744073709551616 - y - c) % 18446744073709551616 : Nat) : Int) := by unfold subD; omega
  have e2 : subB x y c = ((if x < y + c then 1 else 0 : Nat) : Int) := by unfold subB; split <;> split <;> omega
  rw [e1, e2]
  rcases hc with rfl | rfl <;> rfl
end Go.Proofs.Ytebiddmadmmfpaa
/- wide: Sum. -/
namespace Go.Proofs.Ytebiddmadmmfpaa
set_option linter.unusedVariables false
open Go.RowKit W
structure SumInv (w wr : World) (s0 s1 s2 : Int) : Prop where
  c0 : wr.cell? ⟨w.heap.size + 1, 0, none⟩ = some (.int .u64 s0)
  c1 : wr.cell? ⟨w.heap.size + 1, 1, none⟩ = some (.int .u64 s1)
  c2 : wr.cell? ⟨w.heap.size + 1, 2, none⟩ = some (.int .u64 s2)
  f0 : wr.frozen? ⟨w.heap.size + 1, 0, none⟩ = false
  f1 : wr.frozen? ⟨w.heap.size + 1, 1, none⟩ = false
  f2 : wr.frozen? ⟨w.heap.size + 1, 2, none⟩ = false
  r0 : wr.cell? ⟨w.heap.size, 0, none⟩ = some (.int .i64 0)
  r1 : wr.cell? ⟨w.heap.size, 1, none⟩ = some (.int .u64 0)
  g0 : wr.frozen? ⟨w.heap.size, 0, none⟩ = false
  g1 : wr.frozen? ⟨w.heap.size, 1, none⟩ = false
  sz : w.heap.size + 1 < wr.heap.size
  below : Below w.heap.size w wr
/-- The elements of a slice of wide numbers, as they lie in memory. -/
structure Holds (w : World) (b off len : Nat) (ws : List (Int × Int)) : Prop where
  size : ws.length = len
  chi : ∀ j, j < len → w.cell? ⟨b, off + j * 2, none⟩ = some (.int .i64 (ws.getD j (0, 0)).1)
  clo : ∀ j, j < len → w.cell? ⟨b, off + j * 2 + 1, none⟩ = some (.int .u64 (ws.getD j (0, 0)).2)
  fit : ∀ p ∈ ws, IsW p
theorem Holds.at {w : World} {b off len : Nat} {ws : List (Int × Int)} (h : Holds w b off len ws) (k : Nat) (hk : k < len) : IsW (ws.getD k (0, 0)) := by
  apply h.fit
  have := h.size
  simp only [List.getD, List.getElem?_eq_getElem (show k < ws.length by omega), Option.getD_some]
  exact List.getElem_mem _
set_option maxHeartbeats 4000000 in
theorem sum_some (b off len cap : Nat) (ws : List (Int × Int)) (w : World) (hb : b < w.heap.size) (hl : len ≤ 140737488355328) (H : Holds w b off len ws) :
    Calls Try.prog 28 #[.slice (some ⟨b, off, none⟩) len cap] w fun e w' => e = sumRes (sumV ws) ∧ Below w.heap.size w w' := by
  go_enter Try.func28, Try.ntmps28
  go_wp2
  go_loopw [11] (fun i wr => ∃ (k : Nat) (s0 s1 s2 : Int), k ≤ len ∧ i = .int .i64 k ∧ SumInv w wr s0 s1 s2 ∧ SumAt (sumV (ws.take k)) s0 s1 s2) (fun i _ => len - (intOf i).toNat)
  case atStart =>
    refine ⟨0, 0, 0, 0, by omega, rfl, ⟨?_, ?_, ?_, ?_, ?_, ?_, ?_, ?_, ?_, ?_, ?_, ?_⟩, sumAt_0⟩
    all_goals first | go_grown; done | (simp [go_sem]; done)
  case round =>
    obtain ⟨k, s0, s1, s2, hk, rfl, inv, at_⟩ := hrel
    by_cases hlt : k < len
    · have e1 := (inv.below.cell (p := ⟨b, off + k * 2, none⟩) hb).trans (H.chi k hlt)
      have e2 := (inv.below.cell (p := ⟨b, off + k * 2 + 1, none⟩) hb).trans (H.clo k hlt)
      have ew := H.at k hlt
      have ewa := ew.a
      have ewb := ew.b
      clear ew
      have st := at_.step ewa ewb
      rw [← sumV_take ws k (by have := H.size; omega)] at st
      generalize (ws.getD k (0, 0)).1 = eh at *
      generalize (ws.getD k (0, 0)).2 = el at *
      have hu : IntKind.u64.wrap eh = u eh := by rw [IntKind.wrap_u64]; rfl
      have hv : IntKind.u64.wrap (eh / 9223372036854775808) = u (eh / 9223372036854775808) := by rw [IntKind.wrap_u64]; rfl
      have b1 := isBit_addC at_.lo0 ewb isBit_0
      have b2 := isBit_addC at_.lo1 (isLo_u eh) b1
      have a1 := run_addC s0 el 0 at_.lo0 ewb isBit_0
      have a2 := run_addC s1 (u eh) (addC s0 el 0) at_.lo1 (isLo_u eh) b1
      have a3 := run_addC s2 (u (eh / 9223372036854775808)) (addC s1 (u eh) (addC s0 el 0)) at_.lo2 (isLo_u _) b2
      obtain ⟨y, hy⟩ : ∃ y, y = u (eh / 9223372036854775808) := ⟨_, rfl⟩
      obtain ⟨z, hz⟩ : ∃ y, y = u eh := ⟨_, rfl⟩
      obtain ⟨x0, h0⟩ : ∃ x, x = addD s0 el 0 := ⟨_, rfl⟩
      obtain ⟨q0, h1⟩ : ∃ x, x = addC s0 el 0 := ⟨_, rfl⟩
      rw [← hz] at hu a2 a3 st
      rw [← hy] at hv a3 st
      rw [← h0] at a1 st
      rw [← h1] at a1 a2 a3 st
      obtain ⟨x1, h2⟩ : ∃ x, x = addD s1 z q0 := ⟨_, rfl⟩
      obtain ⟨q1, h3⟩ : ∃ x, x = addC s1 z q0 := ⟨_, rfl⟩
      rw [← h2] at a2 st
      rw [← h3] at a2 a3 st
      obtain ⟨x2, h4⟩ : ∃ x, x = addD s2 y q1 := ⟨_, rfl⟩
      obtain ⟨q2, h5⟩ : ∃ x, x = addC s2 y q1 := ⟨_, rfl⟩
      rw [← h4] at a3 st
      rw [← h5] at a3
      have ST : Hid (SumAt (sumV (ws.take (k + 1))) x0 x1 x2) := st
      clear hy hz h0 h1 h2 h3 h4 h5 b1 b2 at_ ewa ewb st
      have c0 := inv.c0
      have c1 := inv.c1
      have c2 := inv.c2
      have f0 := inv.f0
      have f1 := inv.f1
      have f2 := inv.f2
      have sz := inv.sz
      have H' : Hid (Holds w b off len ws) := H
      have I : Hid (SumInv w wr s0 s1 s2) := inv
      clear H inv
      go_wp2
      go_roundw
      case rel =>
        refine ⟨k + 1, x0, x1, x2, by omega, by go_num, ?_, ST.out⟩
        have inv := I.out
        have r0 := inv.r0
        have r1 := inv.r1
        have g0 := inv.g0
        have g1 := inv.g1
        have bl := inv.below
        have sz0 : w.heap.size < wr.heap.size := by omega
        refine ⟨?_, ?_, ?_, ?_, ?_, ?_, ?_, ?_, ?_, ?_, ?_, ?_⟩
        all_goals first | (go_grown; done) | (simp [go_sem, c0, c1, c2, f0, f1, f2, r0, r1, g0, g1, sz, sz0]; done) | (simp; omega)
      case measure => simp [intOf]; omega
    · obtain rfl : k = len := by omega
      rw [List.take_of_length_le (by have := H.size; omega)] at at_
      have bd := sumV_bound ws H.fit
      rw [H.size] at bd
      have wm := wrap_s at_.lo1
      obtain ⟨q, hq⟩ : ∃ q, q = s s1 := ⟨_, rfl⟩
      rw [← hq] at wm
      obtain ⟨y, hy⟩ : ∃ y, y = u (q / 9223372036854775808) := ⟨_, rfl⟩
      have hv : IntKind.u64.wrap (q / 9223372036854775808) = y := by rw [IntKind.wrap_u64, hy]; rfl
      have A : Hid (s2 = y → Fits (sumV ws) ∧ hi (sumV ws) = q ∧ W.lo (sumV ws) = s0) := fun e => by rw [hq]; exact at_.done (by omega) (by omega) (by rw [e, hy, hq])
      have O : Hid (s2 ≠ y → ¬ Fits (sumV ws)) := fun e => at_.over (by rw [← hq, ← hy]; exact e)
      have c0 := inv.c0
      have c1 := inv.c1
      have c2 := inv.c2
      have r0 := inv.r0
      have r1 := inv.r1
      have g0 := inv.g0
      have g1 := inv.g1
      have sz := inv.sz
      have sz0 : w.heap.size < wr.heap.size := by omega
      have I : Hid (SumInv w wr s0 s1 s2) := inv
      clear hq hy bd at_ H inv
      by_cases g : s2 = y
      · subst g
        obtain ⟨f, h1, h0⟩ := A.out rfl
        have F : Hid (Fits (sumV ws) ∧ hi (sumV ws) = q ∧ W.lo (sumV ws) = s0) := ⟨f, h1, h0⟩
        clear f h1 h0 A O
        go_wp2
        have bl := I.out.below
        refine bodyPost_ret (by simp [results, Try.results28, go_sem, r0, r1, sz0]; try rfl) rfl ?_
        exact ⟨ret_res F.out.1 F.out.2.1 F.out.2.2, by go_grown⟩
      · have f := O.out g
        have F : Hid (¬ Fits (sumV ws)) := f
        clear A O f
        go_wp2
        have bl := I.out.below
        refine bodyPost_ret (by simp [results, Try.results28, go_sem, r0, r1, sz0]; try rfl) rfl ?_
        exact ⟨ret_over F.out, by go_grown⟩
end Go.Proofs.Ytebiddmadmmfpaa
/- wide: Add. -/
namespace Go.Proofs.Ytebiddmadmmfpaa
set_option linter.unusedVariables false
open Go.RowKit W
set_option maxHeartbeats 1000000 in
theorem add_spec (a b c d : Int) (i : IsW (a, b)) (j : IsW (c, d)) (w : World) :
    Calls Try.prog 25 #[.agg #[.int .i64 a, .int .u64 b], .agg #[.int .i64 c, .int .u64 d]] w fun e w' => e = sumRes (V a b + V c d) ∧ Below w.heap.size w w' := by
  have e0 : sumV [(a, b), (c, d)] = V a b + V c d := by simp [sumV]
  rw [← e0]
  obtain ⟨t, ht⟩ : ∃ t, t = sumV [(a, b), (c, d)] := ⟨_, rfl⟩
  rw [← ht]
  have T : Hid (t = sumV [(a, b), (c, d)]) := ht
  obtain ⟨r1, hr1⟩ : ∃ r, r = hi (resV t) := ⟨_, rfl⟩
  obtain ⟨r0, hr0⟩ : ∃ r, r = lo (resV t) := ⟨_, rfl⟩
  obtain ⟨re, hre⟩ : ∃ r, r = resE t := ⟨_, rfl⟩
  unfold sumRes
  rw [← hr1, ← hr0, ← hre]
  have R1 : Hid (r1 = hi (resV t)) := hr1
  have R0 : Hid (r0 = lo (resV t)) := hr0
  have RE : Hid (re = resE t) := hre
  clear e0 ht hr1 hr0 hre
  go_enter Try.func25, Try.ntmps25
  go_wp2_with fail
  refine (sum_some (w.heap.size + 1 + 1 + 1) 0 2 2 [(a, b), (c, d)] _ (by simp) (by omega) ⟨rfl, ?_, ?_, ?_⟩).mono ?_
  · intro j hj
    obtain rfl | rfl : j = 0 ∨ j = 1 := by omega
    all_goals simp [go_sem]
  · intro j hj
    obtain rfl | rfl : j = 0 ∨ j = 1 := by omega
    all_goals simp [go_sem]
  · intro p hp
    simp only [List.mem_cons, List.not_mem_nil, or_false] at hp
    rcases hp with rfl | rfl <;> assumption
  · rintro e w1 ⟨he, hb⟩
    rw [← T.out] at he
    unfold sumRes at he
    rw [← R1.out, ← R0.out, ← RE.out] at he
    rw [he]
    obtain ⟨khb0, fhb0, zhb0⟩ := live (.int .i64 0) hb (w.heap.size + 1 + 1) 0 (by simp; try omega) (by simp [go_sem]) (by simp [go_sem]); obtain ⟨khb1, fhb1, zhb1⟩ := live (.int .u64 0) hb (w.heap.size + 1 + 1) 1 (by simp; try omega) (by simp [go_sem]) (by simp [go_sem])
    have B0 : Below w.heap.size w w1 := Below.trans (by go_grown) (hb.mono (by simp; omega))
    go_wp2
    refine bodyPost_ret (by simp [results, Try.results25, go_sem, khb0, khb1]; try rfl) rfl ?_
    exact ⟨rfl, by go_grown⟩
end Go.Proofs.Ytebiddmadmmfpaa
/- wide's limbs: minus, amount, signed. -/
namespace Go.Proofs.Ytebiddmadmmfpaa
set_option linter.unusedVariables false
open Go.RowKit W
set_option maxHeartbeats 400000 in
theorem minus_spec (a1 a0 b1 b0 : Int) (i0 : IsLo a0) (i1 : IsLo a1) (j0 : IsLo b0) (j1 : IsLo b1) (w : World) :
    Calls Try.prog 72 #[.agg #[.int .u64 a0, .int .u64 a1], .agg #[.int .u64 b0, .int .u64 b1]] w
      fun e w' => e = .returned (.agg #[.int .u64 (lo (V a1 a0 - V b1 b0)), .int .u64 (u (hi (V a1 a0 - V b1 b0)))]) ∧ Below w.heap.size w w' := by
  have s1 := run_subB a0 b0 0 i0 j0 isBit_0
  have s2 := run_subB a1 b1 (subB a0 b0 0) i1 j1 (isBit_subB _ _ _)
  rw [← minus_lo, ← minus_hi i0 j0]
  go_enter Try.func72, Try.ntmps72
  go_wp2
  go_returns
  exact ⟨rfl, by go_grown⟩
set_option maxHeartbeats 400000 in
theorem amount_spec (ah al : Int) (i : IsLo al) (j : IsHi ah) (w : World) :
    Calls Try.prog 50 #[.agg #[.int .i64 ah, .int .u64 al]] w
      fun e w' => e = .returned (.tuple #[.bool (decide (ah < 0)), .agg #[.int .u64 (lo (ab (V ah al))), .int .u64 (hi (ab (V ah al)))]]) ∧ Below w.heap.size w w' := by
  have hu : IntKind.u64.wrap ah = u ah := by rw [IntKind.wrap_u64]; rfl
  by_cases n : ah < 0
  · have c := minus_spec 0 0 (u ah) al isLo_0 isLo_0 i (isLo_u ah)
    rw [ab_lo_neg i j n, ab_hi_neg i j n] at c
    have n' : ¬ 0 ≤ ah := by omega
    go_enter Try.func50, Try.ntmps50
    go_wp2_with (go_at_call 72; refine (c _).mono ?_; rintro e w1 ⟨rfl, hb⟩; obtain ⟨hc, hf, hz⟩ := bcell hb; simp only [World.size_alloc] at hc hf hz)
    have B0 : Below w.heap.size w w1 := Below.trans (by go_grown) (hb.mono (by simp; omega))
    refine bodyPost_ret (by simp [results, Try.results50, go_sem, hc]; try rfl) rfl ?_
    exact ⟨by simp [n], by go_grown⟩
  · have n' : 0 ≤ ah := by omega
    rw [← ab_lo_pos i n', ← ab_hi_pos i j n']
    go_enter Try.func50, Try.ntmps50
    go_wp2
    go_region
    all_goals go_wp2
    go_returns
    exact ⟨by simp [n'], by go_grown⟩
set_option maxHeartbeats 400000 in
theorem signed_f (m1 m0 : Int) (i : IsLo m1) (j : IsLo m0) (w : World) :
    Calls Try.prog 52 #[.bool false, .agg #[.int .u64 m0, .int .u64 m1]] w
      fun e w' => e = .returned (.tuple #[.agg #[.int .i64 (hi (resV (V m1 m0))), .int .u64 (lo (resV (V m1 m0)))], .int .i64 (resE (V m1 m0))]) ∧ Below w.heap.size w w' := by
  have wm := wrap_s i
  obtain ⟨q1, hq1⟩ : ∃ q, q = s m1 := ⟨_, rfl⟩
  rw [← hq1] at wm
  have H2 : Hid (q1 = s m1) := hq1
  clear hq1
  go_enter Try.func52, Try.ntmps52
  go_wp2
  · go_returns
    have e := H2.out
    have f := pos_fits i j (show 0 ≤ s m1 by omega)
    exact ⟨ret_res f.1 (by omega) (by omega), by go_grown⟩
  · go_returns
    have e := H2.out
    have f := pos_fits i j (show 0 ≤ s m1 by omega)
    exact ⟨ret_res f.1 (by omega) (by omega), by go_grown⟩
  · go_returns
    have e := H2.out
    exact ⟨ret_over (pos_over i j (by omega)), by go_grown⟩
  · go_returns
    have e := H2.out
    have f := pos_fits i j (show 0 ≤ s m1 by omega)
    exact ⟨ret_res f.1 (by omega) (by omega), by go_grown⟩
set_option maxHeartbeats 2000000 in
theorem signed_t (m1 m0 : Int) (i : IsLo m1) (j : IsLo m0) (w : World) :
    Calls Try.prog 52 #[.bool true, .agg #[.int .u64 m0, .int .u64 m1]] w
      fun e w' => e = .returned (.tuple #[.agg #[.int .i64 (hi (resV (-(V m1 m0)))), .int .u64 (lo (resV (-(V m1 m0))))], .int .i64 (resE (-(V m1 m0)))]) ∧ Below w.heap.size w w' := by
  have c := minus_spec 0 0 m1 m0 isLo_0 isLo_0 j i
  have wm := wrap_s (isLo_u (hi (V 0 0 - V m1 m0)))
  obtain ⟨p0, hp0⟩ : ∃ p, p = lo (V 0 0 - V m1 m0) := ⟨_, rfl⟩
  obtain ⟨p1, hp1⟩ : ∃ p, p = u (hi (V 0 0 - V m1 m0)) := ⟨_, rfl⟩
  rw [← hp1, ← hp0] at c
  rw [← hp1] at wm
  obtain ⟨q1, hq1⟩ : ∃ q, q = s p1 := ⟨_, rfl⟩
  rw [← hq1] at wm
  have H0 : Hid (p0 = lo (V 0 0 - V m1 m0)) := hp0
  have H1 : Hid (q1 = s (u (hi (V 0 0 - V m1 m0)))) := by rw [← hp1]; exact hq1
  clear hq1 hp0 hp1
  go_enter Try.func52, Try.ntmps52
  go_wp2_with (go_at_call 72; refine (c _).mono ?_; rintro e w1 ⟨rfl, hb⟩; obtain ⟨khb0, fhb0, zhb0⟩ := live (.int .u64 m0) hb (w.heap.size) 0 (by simp; try omega) (by simp [go_sem]) (by simp [go_sem]); obtain ⟨khb1, fhb1, zhb1⟩ := live (.int .u64 m1) hb (w.heap.size) 1 (by simp; try omega) (by simp [go_sem]) (by simp [go_sem]); obtain ⟨khb2, fhb2, zhb2⟩ := live (.int .i64 0) hb (w.heap.size + 1) 0 (by simp; try omega) (by simp [go_sem]) (by simp [go_sem]); obtain ⟨khb3, fhb3, zhb3⟩ := live (.int .u64 0) hb (w.heap.size + 1) 1 (by simp; try omega) (by simp [go_sem]) (by simp [go_sem]); clear c)
  all_goals
    have B0 : Below w.heap.size w w1 := Below.trans (by go_grown) (hb.mono (by simp; omega))
    have h0 := H0.out
    have h1 := H1.out
    refine bodyPost_ret (by simp [results, Try.results52, go_sem, khb2, khb3, zhb2]; try rfl) rfl ?_
  · have f := neg_fits i j (by omega)
    exact ⟨ret_res f.1 (by omega) (by omega), by go_grown⟩
  · exact ⟨ret_over (neg_over i j (by omega) (by omega)), by go_grown⟩
  · have k : 0 ≤ q1 := by have k := ‹(!decide (q1 < 0)) = true›; simpa using k
    exact ⟨ret_over (neg_over i j (by omega) (by omega)), by go_grown⟩
  · have k : q1 < 0 := by have k := ‹(!decide (q1 < 0)) = false›; simpa using k
    have f := neg_fits i j (by omega)
    exact ⟨ret_res f.1 (by omega) (by omega), by go_grown⟩
end Go.Proofs.Ytebiddmadmmfpaa
/- math/bits.Mul64; wide: times. -/
namespace Go.Proofs.Ytebiddmadmmfpaa
set_option linter.unusedVariables false
open Go.RowKit W
set_option maxHeartbeats 800000 in
theorem mul64_spec (x y : Int) (i : IsLo x) (j : IsLo y) (w : World) :
    Calls Try.prog 77 #[.int .u64 x, .int .u64 y] w fun e w' => e = .returned (.tuple #[.int .u64 (hi (x * y)), .int .u64 (lo (x * y))]) ∧ w = w' := by
  have l1 := and_low32 x i.a i.b
  have l2 := and_low32 y j.a j.b
  go_enter Try.func77, Try.ntmps77
  go_wp2
  go_returns
  have m := mul64_arith x y i.a i.b j.a j.b
  refine ⟨ret_two ?_ ?_, rfl⟩
  · simp only [IntKind.wrap_u64]
    rw [and_low32 _ (Int.emod_nonneg _ (by omega)) (Int.emod_lt_of_pos _ (by omega))]
    exact m
  · rw [IntKind.wrap_u64]; rfl
/-- What times answers: the product where two words hold it. -/
structure TimesOut (p p1 p0 : Int) (ok : Bool) : Prop where
  lo1 : IsLo p1
  lo0 : IsLo p0
  yes : ok = true → p1 = hi p ∧ p0 = lo p ∧ p < 340282366920938463463374607431768211456
  no : ok = false → 340282366920938463463374607431768211456 ≤ p
/-- The post, under one name. -/
def TimesPost (w : World) (p : Int) (e : Ending) (w' : World) : Prop :=
  ∃ p1 p0 ok, e = .returned (.tuple #[.agg #[.int .u64 p0, .int .u64 p1], .bool ok]) ∧ TimesOut p p1 p0 ok ∧ Below w.heap.size w w'
theorem big_prod {a1 a0 b1 b0 : Int} (i1 : IsLo a1) (i0 : IsLo a0) (j1 : IsLo b1) (j0 : IsLo b0) (n : a1 ≠ 0) (m : b1 ≠ 0) : 340282366920938463463374607431768211456 ≤ V a1 a0 * V b1 b0 := by
  obtain ⟨_, _⟩ := i1; obtain ⟨_, _⟩ := i0; obtain ⟨_, _⟩ := j1; obtain ⟨_, _⟩ := j0
  have h : 18446744073709551616 * 18446744073709551616 ≤ V a1 a0 * V b1 b0 := Int.mul_le_mul (by unfold V; omega) (by unfold V; omega) (by omega) (by unfold V; omega)
  omega
set_option maxHeartbeats 1000000 in
theorem times_no (a1 a0 b1 b0 : Int) (i1 : IsLo a1) (i0 : IsLo a0) (j1 : IsLo b1) (j0 : IsLo b0) (n : a1 ≠ 0) (m : b1 ≠ 0) (w : World) :
    Calls Try.prog 53 #[.agg #[.int .u64 a0, .int .u64 a1], .agg #[.int .u64 b0, .int .u64 b1]] w (TimesPost w (V a1 a0 * V b1 b0)) := by
  have t := big_prod i1 i0 j1 j0 n m
  have n' : (a1 != 0) = true := by simpa using n
  have m' : (b1 != 0) = true := by simpa using m
  have T := Go.RowKit.Hid (340282366920938463463374607431768211456 ≤ V a1 a0 * V b1 b0)
  have H : Hid (340282366920938463463374607431768211456 ≤ V a1 a0 * V b1 b0) := t
  clear t T
  go_enter Try.func53, Try.ntmps53
  go_wp2_with fail
  go_returns
  exact ⟨0, 0, false, rfl, ⟨isLo_0, isLo_0, fun h => (Bool.false_ne_true h).elim, fun _ => H.out⟩, by go_grown⟩
/-- Of the four words' products: what the parts say. -/
theorem times_parts {a1 a0 b1 b0 p o1 x1 o2 x2 hh ll x12 top car : Int} (i1 : IsLo a1) (i0 : IsLo a0) (j1 : IsLo b1) (j0 : IsLo b0) (z : a1 = 0 ∨ b1 = 0)
    (hp : p = V a1 a0 * V b1 b0) (h1 : hh = hi (a0 * b0)) (h2 : ll = lo (a0 * b0)) (h3 : o1 = hi (a1 * b0)) (h4 : x1 = lo (a1 * b0)) (h5 : o2 = hi (a0 * b1)) (h6 : x2 = lo (a0 * b1))
    (h7 : x12 = x1 + x2) (h8 : top = addD hh x12 0) (h9 : car = addC hh x12 0) (ok : Bool) (hok : ok = true ↔ o1 = 0 ∧ o2 = 0 ∧ car = 0) : TimesOut p top ll ok := by
  have e : p = (a1 * b0 + a0 * b1) * 18446744073709551616 + a0 * b0 := by rw [hp]; exact times_split a1 a0 b1 b0 z
  have q1 := prod_lo i0 j0
  have q2 := prod_lo i1 j0
  have q3 := prod_lo i0 j1
  have zz : a1 * b0 = 0 ∨ a0 * b1 = 0 := by rcases z with rfl | rfl <;> simp
  generalize a0 * b0 = A at *
  generalize a1 * b0 = D at *
  generalize a0 * b1 = F at *
  simp only [hi, lo] at h1 h2 h3 h4 h5 h6
  simp only [addD, addC] at h8 h9
  refine ⟨⟨by omega, by omega⟩, ⟨by omega, by omega⟩, fun h => ?_, fun h => ?_⟩
  · have := hok.1 h
    refine ⟨?_, ?_, ?_⟩ <;> (try simp only [hi, lo]) <;> omega
  · have n : ¬ (o1 = 0 ∧ o2 = 0 ∧ car = 0) := fun t => by rw [hok.2 t] at h; exact Bool.false_ne_true h.symm
    omega
set_option maxHeartbeats 4000000 in
theorem times_yes (a1 a0 b1 b0 : Int) (i1 : IsLo a1) (i0 : IsLo a0) (j1 : IsLo b1) (j0 : IsLo b0) (z : a1 = 0 ∨ b1 = 0) (w : World) :
    Calls Try.prog 53 #[.agg #[.int .u64 a0, .int .u64 a1], .agg #[.int .u64 b0, .int .u64 b1]] w (TimesPost w (V a1 a0 * V b1 b0)) := by
  have c1 := mul64_spec a0 b0 i0 j0
  have c2 := mul64_spec a1 b0 i1 j0
  have c3 := mul64_spec a0 b1 i0 j1
  have ih := hi_prod i0 j0
  obtain ⟨p, hp⟩ : ∃ p, p = V a1 a0 * V b1 b0 := ⟨_, rfl⟩
  obtain ⟨hh, h1⟩ : ∃ p, p = hi (a0 * b0) := ⟨_, rfl⟩
  obtain ⟨ll, h2⟩ : ∃ p, p = lo (a0 * b0) := ⟨_, rfl⟩
  obtain ⟨o1, h3⟩ : ∃ p, p = hi (a1 * b0) := ⟨_, rfl⟩
  obtain ⟨x1, h4⟩ : ∃ p, p = lo (a1 * b0) := ⟨_, rfl⟩
  obtain ⟨o2, h5⟩ : ∃ p, p = hi (a0 * b1) := ⟨_, rfl⟩
  obtain ⟨x2, h6⟩ : ∃ p, p = lo (a0 * b1) := ⟨_, rfl⟩
  obtain ⟨x12, h7⟩ : ∃ p, p = x1 + x2 := ⟨_, rfl⟩
  have iz : IsLo x12 := by
    have a := isLo_lo (a1 * b0); have b := isLo_lo (a0 * b1)
    rw [← h4] at a; rw [← h6] at b; rw [h7]
    rcases z with rfl | rfl
    · have : x1 = 0 := by rw [h4]; simp [lo]
      rw [this]; simpa using b
    · have : x2 = 0 := by rw [h6]; simp [lo]
      rw [this]; simpa using a
  have ws : IntKind.u64.wrap (x1 + x2) = x12 := by
    rw [← h7, IntKind.wrap_u64]; obtain ⟨_, _⟩ := iz; omega
  rw [← hp]
  rw [← h1, ← h2] at c1
  rw [← h3, ← h4] at c2
  rw [← h5, ← h6] at c3
  rw [← h1] at ih
  have ra := run_addC hh x12 0 ih iz isBit_0
  obtain ⟨top, h8⟩ : ∃ p, p = addD hh x12 0 := ⟨_, rfl⟩
  obtain ⟨car, h9⟩ : ∃ p, p = addC hh x12 0 := ⟨_, rfl⟩
  rw [← h8, ← h9] at ra
  have fin : Hid (∀ ok : Bool, (ok = true ↔ o1 = 0 ∧ o2 = 0 ∧ car = 0) → TimesOut p top ll ok) := fun ok hok => times_parts i1 i0 j1 j0 z hp h1 h2 h3 h4 h5 h6 h7 h8 h9 ok hok
  have Z : Hid (a1 = 0 ∨ b1 = 0) := z
  clear hp h1 h2 h3 h4 h5 h6 h7 h8 h9 ih iz i1 i0 j1 j0 z
  by_cases n : a1 = 0
  · subst n
    go_enter Try.func53, Try.ntmps53
    go_wp2_with fail
    refine (c1 _).mono ?_
    rintro e w1 ⟨rfl, rfl⟩
    go_wp2_with fail
    refine (c2 _).mono ?_
    rintro e w1 ⟨rfl, rfl⟩
    go_wp2_with fail
    refine (c3 _).mono ?_
    rintro e w1 ⟨rfl, rfl⟩
    go_wp2_with fail
    all_goals
      go_returns
      refine ⟨_, _, _, rfl, fin.out _ ?_, by go_grown⟩
      simp [*]
  · have n' : (b1 != 0) = false := by have := Z.out; simp; omega
    go_enter Try.func53, Try.ntmps53
    go_wp2_with fail
    refine (c1 _).mono ?_
    rintro e w1 ⟨rfl, rfl⟩
    go_wp2_with fail
    refine (c2 _).mono ?_
    rintro e w1 ⟨rfl, rfl⟩
    go_wp2_with fail
    refine (c3 _).mono ?_
    rintro e w1 ⟨rfl, rfl⟩
    go_wp2_with fail
    all_goals
      go_returns
      refine ⟨_, _, _, rfl, fin.out _ ?_, by go_grown⟩
      simp [*]
end Go.Proofs.Ytebiddmadmmfpaa
/- wide: amounts and signs. -/
namespace Go.Proofs.Ytebiddmadmmfpaa
set_option linter.unusedVariables false
open Go.RowKit W
theorem signed_any (n : Bool) (m1 m0 : Int) (i : IsLo m1) (j : IsLo m0) (w : World) :
    Calls Try.prog 52 #[.bool n, .agg #[.int .u64 m0, .int .u64 m1]] w fun e w' => e = sumRes (sg n (V m1 m0)) ∧ Below w.heap.size w w' := by
  cases n
  · exact signed_f m1 m0 i j w
  · exact signed_t m1 m0 i j w
theorem ab_le {v : Int} (f : Fits v) : 0 ≤ ab v ∧ ab v ≤ 170141183460469231731687303715884105728 := by obtain ⟨_, _⟩ := f; unfold ab; split <;> omega
theorem lo_ab {v : Int} (f : Fits v) : IsLo (hi (ab v)) := by have := ab_le f; exact ⟨by unfold hi; omega, by unfold hi; omega⟩
theorem sg_mul (x y : Int) : sg (decide (x < 0) != decide (y < 0)) (ab x * ab y) = x * y := by
  unfold sg ab
  by_cases h : x < 0 <;> by_cases g : y < 0 <;> simp [h, g, Int.neg_mul, Int.mul_neg]
theorem neg_hi {a b : Int} (i : IsW (a, b)) : decide (a < 0) = decide (V a b < 0) := by
  obtain ⟨⟨_, _⟩, ⟨_, _⟩⟩ := i; rw [decide_eq_decide]; simp only at *; unfold V; omega
theorem mul_over {x y : Int} (fx : Fits x) (fy : Fits y) (h : 340282366920938463463374607431768211456 ≤ ab x * ab y) : ¬ Fits (x * y) := by
  rintro ⟨p, q⟩
  have e := sg_mul x y
  unfold sg at e
  split at e <;> omega
end Go.Proofs.Ytebiddmadmmfpaa
/- wide: Mul. -/
namespace Go.Proofs.Ytebiddmadmmfpaa
set_option linter.unusedVariables false
open Go.RowKit W
theorem times_spec' (x y : Int) (fx : Fits x) (fy : Fits y) (w : World) :
    Calls Try.prog 53 #[.agg #[.int .u64 (lo (ab x)), .int .u64 (hi (ab x))], .agg #[.int .u64 (lo (ab y)), .int .u64 (hi (ab y))]] w (TimesPost w (ab x * ab y)) := by
  have e : V (hi (ab x)) (lo (ab x)) * V (hi (ab y)) (lo (ab y)) = ab x * ab y := by rw [V_hi_lo, V_hi_lo]
  rw [← e]
  by_cases n : hi (ab x) = 0 ∨ hi (ab y) = 0
  · exact times_yes _ _ _ _ (lo_ab fx) (isLo_lo _) (lo_ab fy) (isLo_lo _) n w
  · exact times_no _ _ _ _ (lo_ab fx) (isLo_lo _) (lo_ab fy) (isLo_lo _) (by omega) (by omega) w
set_option maxHeartbeats 4000000 in
theorem mul_walk (a b c d m1 m0 n1 n0 r1 r0 re p : Int) (na nb : Bool)
    (ca : ∀ w, Calls Try.prog 50 #[.agg #[.int .i64 a, .int .u64 b]] w fun e w' => e = .returned (.tuple #[.bool na, .agg #[.int .u64 m0, .int .u64 m1]]) ∧ Below w.heap.size w w')
    (cb : ∀ w, Calls Try.prog 50 #[.agg #[.int .i64 c, .int .u64 d]] w fun e w' => e = .returned (.tuple #[.bool nb, .agg #[.int .u64 n0, .int .u64 n1]]) ∧ Below w.heap.size w w')
    (ct : ∀ w, Calls Try.prog 53 #[.agg #[.int .u64 m0, .int .u64 m1], .agg #[.int .u64 n0, .int .u64 n1]] w (TimesPost w p))
    (cs : Hid (∀ p1 p0 : Int, TimesOut p p1 p0 true → ∀ w, Calls Try.prog 52 #[.bool (na != nb), .agg #[.int .u64 p0, .int .u64 p1]] w fun e w' => e = .returned (.tuple #[.agg #[.int .i64 r1, .int .u64 r0], .int .i64 re]) ∧ Below w.heap.size w w'))
    (ov : Hid (340282366920938463463374607431768211456 ≤ p → r1 = 0 ∧ r0 = 0 ∧ re = 10)) (w : World) :
    Calls Try.prog 27 #[.agg #[.int .i64 a, .int .u64 b], .agg #[.int .i64 c, .int .u64 d]] w fun e w' => e = .returned (.tuple #[.agg #[.int .i64 r1, .int .u64 r0], .int .i64 re]) ∧ Below w.heap.size w w' := by
  go_enter Try.func27, Try.ntmps27
  go_wp2_with fail
  refine (ca _).mono ?_
  rintro e w1 ⟨rfl, hb⟩
  obtain ⟨khb0, fhb0, zhb0⟩ := live (.int .i64 c) hb (w.heap.size + 1) 0 (by simp; try omega) (by simp [go_sem]) (by simp [go_sem]); obtain ⟨khb1, fhb1, zhb1⟩ := live (.int .u64 d) hb (w.heap.size + 1) 1 (by simp; try omega) (by simp [go_sem]) (by simp [go_sem]); obtain ⟨khb2, fhb2, zhb2⟩ := live (.int .i64 0) hb (w.heap.size + 1 + 1) 0 (by simp; try omega) (by simp [go_sem]) (by simp [go_sem]); obtain ⟨khb3, fhb3, zhb3⟩ := live (.int .u64 0) hb (w.heap.size + 1 + 1) 1 (by simp; try omega) (by simp [go_sem]) (by simp [go_sem])
  have B0 : Below w.heap.size w w1 := Below.trans (by go_grown) (hb.mono (by simp; omega))
  clear hb ca
  go_wp2_with fail
  refine (cb _).mono ?_
  rintro e w2 ⟨rfl, hc⟩
  obtain ⟨k0, f0, z0⟩ := live (.int .i64 0) hc (w.heap.size + 1 + 1) 0 (by simp; omega) (by simp [go_sem, khb2, zhb2]) (by simp [go_sem, fhb2, zhb2])
  obtain ⟨k1, f1, z1⟩ := live (.int .u64 0) hc (w.heap.size + 1 + 1) 1 (by simp; omega) (by simp [go_sem, khb3, zhb3]) (by simp [go_sem, fhb3, zhb3])
  obtain ⟨k2, f2, z2⟩ := live (.int .u64 m0) hc w1.heap.size 0 (by simp) (by simp [go_sem]) (by simp [go_sem])
  obtain ⟨k3, f3, z3⟩ := live (.int .u64 m1) hc w1.heap.size 1 (by simp) (by simp [go_sem]) (by simp [go_sem])
  have B1 : Below w.heap.size w w2 := Below.trans (by go_grown) (hc.mono (by simp; omega))
  clear hc cb B0 khb0 khb1 khb2 khb3 fhb0 fhb1 fhb2 fhb3
  go_wp2_with fail
  refine (ct _).mono ?_
  rintro e w3 ⟨p1, p0, ok, rfl, T, hd⟩
  obtain ⟨j0, g0, y0⟩ := live (.int .i64 0) hd (w.heap.size + 1 + 1) 0 (by simp; omega) (by simp [go_sem, k0, z0]) (by simp [go_sem, f0, z0])
  obtain ⟨j1, g1, y1⟩ := live (.int .u64 0) hd (w.heap.size + 1 + 1) 1 (by simp; omega) (by simp [go_sem, k1, z1]) (by simp [go_sem, f1, z1])
  have B2 : Below w.heap.size w w3 := Below.trans (by go_grown) (hd.mono (by simp; omega))
  clear hd ct k0 k1 k2 k3 f0 f1 f2 f3 B1
  cases ok
  · obtain ⟨rfl, rfl, rfl⟩ := ov.out (T.no rfl)
    clear T cs ov
    go_wp2_with fail
    refine bodyPost_ret (by simp [results, Try.results27, go_sem, j0, j1, y0]; try rfl) rfl ?_
    exact ⟨rfl, by go_grown⟩
  · have c5 := cs.out p1 p0 T
    clear T cs ov
    go_wp2_with fail
    refine (c5 _).mono ?_
    rintro e w4 ⟨rfl, he⟩
    obtain ⟨i0, h0, x0⟩ := live (.int .i64 0) he (w.heap.size + 1 + 1) 0 (by simp; omega) (by simp [go_sem, j0, y0]) (by simp [go_sem, g0, y0])
    obtain ⟨i1, h1, x1⟩ := live (.int .u64 0) he (w.heap.size + 1 + 1) 1 (by simp; omega) (by simp [go_sem, j1, y1]) (by simp [go_sem, g1, y1])
    have B3 : Below w.heap.size w w4 := Below.trans (by go_grown) (he.mono (by simp; omega))
    clear he c5 j0 j1 g0 g1 B2
    go_wp2_with fail
    refine bodyPost_ret (by simp [results, Try.results27, go_sem, i0, i1]; try rfl) rfl ?_
    exact ⟨rfl, by go_grown⟩
theorem mul_spec (a b c d : Int) (i : IsW (a, b)) (j : IsW (c, d)) (w : World) :
    Calls Try.prog 27 #[.agg #[.int .i64 a, .int .u64 b], .agg #[.int .i64 c, .int .u64 d]] w fun e w' => e = sumRes (V a b * V c d) ∧ Below w.heap.size w w' := by
  have fa := fits_V i.a i.b
  have fb := fits_V j.a j.b
  have ca := amount_spec a b i.b i.a
  have cb := amount_spec c d j.b j.a
  have ct := times_spec' (V a b) (V c d) fa fb
  refine mul_walk a b c d _ _ _ _ _ _ _ (ab (V a b) * ab (V c d)) _ _ ca cb ct ?_ ?_ w
  · intro p1 p0 T w
    obtain ⟨t1, t2, _⟩ := T.yes rfl
    have s := signed_any (decide (a < 0) != decide (c < 0)) p1 p0 T.lo1 T.lo0 w
    rw [t1, t2, V_hi_lo, neg_hi i, neg_hi j, sg_mul] at s
    rw [t1, t2, neg_hi i, neg_hi j]
    exact s
  · intro h
    have n := mul_over fa fb h
    rw [resV_not n, resE_not n]
    exact ⟨rfl, rfl, rfl⟩
end Go.Proofs.Ytebiddmadmmfpaa
/- wide: Of. -/
namespace Go.Proofs.Ytebiddmadmmfpaa
set_option linter.unusedVariables false
open Go.RowKit W
theorem hi_small {n : Int} (j : IsHi n) : n / 9223372036854775808 = hi n := by obtain ⟨_, _⟩ := j; unfold hi; omega
theorem fits_small {n : Int} (j : IsHi n) : Fits n := by obtain ⟨_, _⟩ := j; exact ⟨by omega, by omega⟩
set_option maxHeartbeats 400000 in
theorem wof_spec (n : Int) (j : IsHi n) (w : World) :
    Calls Try.prog 24 #[.int .i64 n] w fun e w' => e = wideRes n ∧ Below w.heap.size w w' := by
  have e1 : IntKind.u64.wrap n = lo n := by rw [IntKind.wrap_u64]; rfl
  have e2 := hi_small j
  unfold wideRes
  rw [← e2]
  obtain ⟨l, hl⟩ : ∃ l, l = lo n := ⟨_, rfl⟩
  rw [← hl] at e1 ⊢
  clear e2 hl
  go_enter Try.func24, Try.ntmps24
  go_wp2
  go_returns
  exact ⟨rfl, by go_grown⟩
end Go.Proofs.Ytebiddmadmmfpaa
/- wide: Small. -/
namespace Go.Proofs.Ytebiddmadmmfpaa
set_option linter.unusedVariables false
open Go.RowKit W
set_option maxHeartbeats 1000000 in
theorem small_yes (a b n : Int) (hn : IntKind.i64.wrap b = n) (c : ∀ w, Calls Try.prog 24 #[.int .i64 n] w fun e w' => e = .returned (.agg #[.int .i64 a, .int .u64 b]) ∧ Below w.heap.size w w') (w : World) :
    Calls Try.prog 55 #[.agg #[.int .i64 a, .int .u64 b]] w fun e w' => e = .returned (.tuple #[.int .i64 n, .bool true]) ∧ Below w.heap.size w w' := by
  go_enter Try.func55, Try.ntmps55
  go_wp2_with fail
  obtain ⟨W, hW⟩ : ∃ X, X = w.alloc (Obj.cells #[.int .i64 a, .int .u64 b] 34) := ⟨_, rfl⟩
  have cW0 : W.cell? ⟨w.heap.size, 0, none⟩ = some (.int .i64 a) := by rw [hW]; first | (simp [go_sem]; done)
  have fW0 : W.frozen? ⟨w.heap.size, 0, none⟩ = false := by rw [hW]; first | (simp [go_sem]; done)
  have zW0 : w.heap.size < W.heap.size := by rw [hW]; first | omega | (simp; done) | (simp; omega)
  have cW1 : W.cell? ⟨w.heap.size, 1, none⟩ = some (.int .u64 b) := by rw [hW]; first | (simp [go_sem]; done)
  have fW1 : W.frozen? ⟨w.heap.size, 1, none⟩ = false := by rw [hW]; first | (simp [go_sem]; done)
  have zW1 : w.heap.size < W.heap.size := by rw [hW]; first | omega | (simp; done) | (simp; omega)
  have BW : Below w.heap.size w W := by rw [hW]; go_grown
  rw [← hW]
  clear hW
  have K1 := (Keeps.start (Nat.le_refl W.heap.size)).drew
  go_region_held3 (fun w' => w'.cell? ⟨w.heap.size, 0, none⟩ = some (.int .i64 a) ∧ w'.cell? ⟨w.heap.size, 1, none⟩ = some (.int .u64 b) ∧ Keeps W.heap.size W w') ((refine (fun K => ⟨Keeps.cell K cW0 zW0, Keeps.cell K cW1 zW1, K⟩) (?_ : Keeps W.heap.size W _); (first | assumption | exact Keeps.alloc (by assumption) _)))
    (first | (go_at_call 24; refine (c _).mono ?_; rintro e w1 ⟨rfl, hb⟩; have K2 := Keeps.call (by assumption) hb))
  go_wp2
  go_returns
  exact ⟨rfl, BW.trans (K2.below.mono BW.size)⟩
set_option maxHeartbeats 1000000 in
theorem small_no (a b n h : Int) (hn : IntKind.i64.wrap b = n) (hne : (h == a) = false) (c : ∀ w, Calls Try.prog 24 #[.int .i64 n] w fun e w' => e = .returned (.agg #[.int .i64 h, .int .u64 b]) ∧ Below w.heap.size w w') (w : World) :
    Calls Try.prog 55 #[.agg #[.int .i64 a, .int .u64 b]] w fun e w' => e = .returned (.tuple #[.int .i64 0, .bool false]) ∧ Below w.heap.size w w' := by
  go_enter Try.func55, Try.ntmps55
  go_wp2_with fail
  obtain ⟨W, hW⟩ : ∃ X, X = w.alloc (Obj.cells #[.int .i64 a, .int .u64 b] 34) := ⟨_, rfl⟩
  have cW0 : W.cell? ⟨w.heap.size, 0, none⟩ = some (.int .i64 a) := by rw [hW]; first | (simp [go_sem]; done)
  have fW0 : W.frozen? ⟨w.heap.size, 0, none⟩ = false := by rw [hW]; first | (simp [go_sem]; done)
  have zW0 : w.heap.size < W.heap.size := by rw [hW]; first | omega | (simp; done) | (simp; omega)
  have cW1 : W.cell? ⟨w.heap.size, 1, none⟩ = some (.int .u64 b) := by rw [hW]; first | (simp [go_sem]; done)
  have fW1 : W.frozen? ⟨w.heap.size, 1, none⟩ = false := by rw [hW]; first | (simp [go_sem]; done)
  have zW1 : w.heap.size < W.heap.size := by rw [hW]; first | omega | (simp; done) | (simp; omega)
  have BW : Below w.heap.size w W := by rw [hW]; go_grown
  rw [← hW]
  clear hW
  have K1 := (Keeps.start (Nat.le_refl W.heap.size)).drew
  go_region_held3 (fun w' => w'.cell? ⟨w.heap.size, 0, none⟩ = some (.int .i64 a) ∧ w'.cell? ⟨w.heap.size, 1, none⟩ = some (.int .u64 b) ∧ Keeps W.heap.size W w') ((refine (fun K => ⟨Keeps.cell K cW0 zW0, Keeps.cell K cW1 zW1, K⟩) (?_ : Keeps W.heap.size W _); (first | assumption | exact Keeps.alloc (by assumption) _)))
    (first | (go_at_call 24; refine (c _).mono ?_; rintro e w1 ⟨rfl, hb⟩; have K2 := Keeps.call (by assumption) hb))
  go_wp2
  go_returns
  exact ⟨rfl, BW.trans (K2.below.mono BW.size)⟩
theorem small_spec (a b : Int) (i : IsW (a, b)) (w : World) :
    Calls Try.prog 55 #[.agg #[.int .i64 a, .int .u64 b]] w fun e w' => e = .returned (.tuple #[.int .i64 (smallV (V a b)), .bool (smallB (V a b))]) ∧ Below w.heap.size w w' := by
  obtain ⟨i1, i0⟩ := i
  have wm := wrap_s i0
  have j : IsHi (s b) := by obtain ⟨_, _⟩ := i0; unfold s; split <;> exact ⟨by omega, by omega⟩
  have c := wof_spec (s b) j
  have el : lo (s b) = b := by obtain ⟨_, _⟩ := i0; unfold lo s; split <;> omega
  unfold wideRes at c
  rw [el] at c
  by_cases e : hi (s b) = a
  · rw [e] at c
    have v : V a b = s b := by rw [← e]; obtain ⟨_, _⟩ := i0; unfold V hi s; split <;> omega
    have h1 : smallV (V a b) = s b := by unfold smallV; rw [v, if_pos j]
    have h2 : smallB (V a b) = true := by unfold smallB; rw [v]; exact decide_eq_true j
    rw [h1, h2]
    exact small_yes a b _ wm c w
  · have n : ¬ IsHi (V a b) := by
      rintro ⟨x, y⟩
      apply e
      obtain ⟨_, _⟩ := i0
      unfold V at x y; unfold hi s; split <;> omega
    have h1 : smallV (V a b) = 0 := by unfold smallV; rw [if_neg n]
    have h2 : smallB (V a b) = false := by unfold smallB; exact decide_eq_false n
    rw [h1, h2]
    exact small_no a b _ _ wm (by simpa using e) c w
end Go.Proofs.Ytebiddmadmmfpaa
/- timer: check; sum. (gen_tm1.py) -/
namespace Go.Proofs.Ytebiddmadmmfpaa
set_option linter.unusedVariables false
set_option linter.unusedSimpArgs false
open Go.RowKit W T9
theorem Box2.set {w : World} {b : Nat} {x y : Value} (h : Box2 w b x y) (p q : Value) : Box2 ((w.setCell ⟨b, 0, none⟩ p).setCell ⟨b, 1, none⟩ q) b p q := by
  obtain ⟨q0, q1, q2, q3, q5⟩ := h
  refine ⟨?_, ?_, ?_, ?_, ?_⟩
  · simp [go_sem, q0, q5]
  · refine World.cell?_setCell_same' _ _ _ ?_; simp [go_sem, q1]
  · simp [go_sem, q2]
  · simp [go_sem, q3]
  · simpa [World.setCell] using q5
theorem Box2.ne {w : World} {b g : Nat} {x y : Value} (h : Box2 w b x y) (hg : b ≠ g) (i : Nat) (p : Value) : Box2 (w.setCell ⟨g, i, none⟩ p) b x y := by
  obtain ⟨q0, q1, q2, q3, q5⟩ := h
  refine ⟨?_, ?_, ?_, ?_, ?_⟩
  · simp [go_sem, q0, hg]
  · simp [go_sem, q1, hg]
  · simp [go_sem, q2]
  · simp [go_sem, q3]
  · simpa [World.setCell] using q5
def okE (b : Bool) (e : Int) : Int := if b then 0 else e
set_option maxRecDepth 100000 in
set_option maxHeartbeats 4000000 in
theorem check_spec (a : Option Addr) (c : Nat) (xs : List Int) (w : World) (hx : IsInts .i64 w a xs) (hl : xs.length ≤ 140737488355328) :
    CalcN 35 #[.slice a xs.length c] w (.int .i64 (okE (fineB xs) 93)) := by
  rcases hx with rfl | ⟨g, o, rfl, hx⟩
  · go_enter Try.func35, Try.ntmps35
    go_wp2
    refine wp_loop_rounds 1 ?_
    rw [rounds_succ]
    go_wp2
    go_returns
    exact ⟨rfl, rfl⟩
  obtain ⟨E, hE⟩ : ∃ E, E = okE (fineB xs) 93 := ⟨_, rfl⟩
  rw [← hE]
  have EE := hide hE
  have H := hide hx
  clear hE hx
  go_enter Try.func35, Try.ntmps35
  go_wp2
  go_loop [7] (fun i => ∃ k : Nat, k ≤ xs.length ∧ i = .int .i64 k ∧ Hid (∀ (j : Nat) (h : j < xs.length), j < k → 0 ≤ xs[j] ∧ xs[j] ≤ 100000000000000)) (fun i => xs.length - (intOf i).toNat)
  case atStart => exact ⟨0, by omega, rfl, fun j _ h => absurd h (by omega)⟩
  case round =>
    obtain ⟨k, hk, rfl, hd⟩ := hrel
    by_cases hlt : k < xs.length
    · have c0 := H.out.cell k hlt
      obtain ⟨x, hxk⟩ : ∃ x, x = xs[k] := ⟨_, rfl⟩
      rw [← hxk] at c0
      by_cases t : 0 ≤ x ∧ x ≤ 100000000000000
      · have N : Hid (∀ (j : Nat) (h : j < xs.length), j < k + 1 → 0 ≤ xs[j] ∧ xs[j] ≤ 100000000000000) := by
          intro j h hj
          by_cases q : j = k
          · subst q; rw [← hxk]; exact t
          · exact hd.out j h (by omega)
        have t1 : ¬ x < 0 := by omega
        have t2 : ¬ 100000000000000 < x := by omega
        clear hd hxk t
        go_wp2_with fail
        go_round
        case rel => exact ⟨k + 1, by omega, by go_num, N⟩
        case measure => simp [intOf]; omega
      · have F : Hid (E = 93) := by
          show E = 93
          rw [EE.out, not_fine hlt (by rw [← hxk]; exact t)]; rfl
        by_cases t1 : x < 0
        · clear hd hxk t EE
          go_wp2_with fail
          go_returns
          exact ⟨by rw [F.out]; rfl, rfl⟩
        · have t2 : 100000000000000 < x := by omega
          clear hd hxk t EE
          go_wp2_with fail
          go_returns
          exact ⟨by rw [F.out]; rfl, rfl⟩
    · obtain rfl : k = xs.length := by omega
      have F : Hid (E = 0) := by
        show E = 0
        rw [EE.out, fine_of fun j h => hd.out j h h]; rfl
      clear hd EE
      go_wp2
      go_returns
      exact ⟨by rw [F.out]; rfl, rfl⟩
/-- The state of sum's loop. -/
structure TSum (w wr : World) (z1 z0 : Int) : Prop where
  s : Box2 wr (w.heap.size + 1) (.int .i64 z1) (.int .u64 z0)
  r : Box2 wr w.heap.size (.int .i64 0) (.int .u64 0)
  below : Below w.heap.size w wr
theorem TSum.next {w wr v : World} {z1 z0 : Int} (h : TSum w wr z1 z0) (k : Below wr.heap.size wr v) (t1 t0 : Int) :
    TSum w ((v.setCell ⟨w.heap.size + 1, 0, none⟩ (.int .i64 t1)).setCell ⟨w.heap.size + 1, 1, none⟩ (.int .u64 t0)) t1 t0 :=
  ⟨(h.s.later k).set _ _, ((h.r.later k).ne (by omega) _ _).ne (by omega) _ _, ((h.below.trans (k.mono h.below.size)).setCell (by show w.heap.size ≤ w.heap.size + 1; omega) _).setCell (by show w.heap.size ≤ w.heap.size + 1; omega) _⟩
theorem hiV_isW {v : Int} (f : Fits v) : IsW (hi v, lo v) := ⟨isHi_hi f, isLo_lo _⟩
set_option maxRecDepth 100000 in
set_option maxHeartbeats 8000000 in
theorem sum_spec9 (a : Option Addr) (c : Nat) (xs : List Int) (w : World) (hx : IsInts .i64 w a xs) (hl : xs.length ≤ 140737488355328) (hf : fineB xs = true) :
    Calls Try.prog 37 #[.slice a xs.length c] w fun e w' => e = wideRes xs.sum ∧ Below w.heap.size w w' := by
  rcases hx with rfl | ⟨g, o, rfl, hx⟩
  · go_enter Try.func37, Try.ntmps37
    go_wp2
    refine wp_loop_rounds 1 ?_
    rw [rounds_succ]
    go_wp2
    go_returns
    exact ⟨rfl, by go_grown⟩
  unfold wideRes
  obtain ⟨s1, hS⟩ : ∃ s1, s1 = hi xs.sum := ⟨_, rfl⟩
  obtain ⟨s0, hS0⟩ : ∃ s0, s0 = lo xs.sum := ⟨_, rfl⟩
  rw [← hS, ← hS0]
  have H := hide hx
  have G := hide hf
  have SS := hide hS
  have SS0 := hide hS0
  have L := hide hx.lt
  clear hf hx hS hS0
  go_enter Try.func37, Try.ntmps37
  go_wp2_with fail
  go_loopw [8] (fun i wr => ∃ (k : Nat), k ≤ xs.length ∧ i = .int .i64 k ∧ TSum w wr (hi (xs.take k).sum) (lo (xs.take k).sum)) (fun i _ => xs.length - (intOf i).toNat)
  case atStart =>
    refine ⟨0, by omega, rfl, ⟨⟨?_, ?_, ?_, ?_, ?_⟩, ⟨?_, ?_, ?_, ?_, ?_⟩, ?_⟩⟩
    all_goals first | (go_grown; done) | (simp [go_sem]; done) | (simp [go_sem, hi, lo]; done) | (simp; done) | (simp; omega)
  case round =>
    obtain ⟨k, hk, rfl, inv⟩ := hrel
    have I := hide inv
    clear inv
    by_cases hlt : k < xs.length
    · have e1 := (I.out.below.cell (p := ⟨g, o + k, none⟩) L.out).trans (H.out.cell k hlt)
      have st := sum_take hlt
      have b1 := fine_sum G.out k
      have b2 := fine_sum G.out (k + 1)
      have b3 := fine_mem G.out (List.getElem_mem hlt)
      obtain ⟨x, hxk⟩ : ∃ x, x = xs[k] := ⟨_, rfl⟩
      rw [← hxk] at e1 st b3
      obtain ⟨z, hz⟩ : ∃ z, z = (xs.take k).sum := ⟨_, rfl⟩
      obtain ⟨t, ht⟩ : ∃ t, t = (xs.take (k + 1)).sum := ⟨_, rfl⟩
      have I2 := I.out
      rw [← hz] at st b1 I2
      rw [← ht] at st b2
      have J := hide I2
      have fz : Fits z := ⟨by omega, by omega⟩
      have ft : Fits t := ⟨by omega, by omega⟩
      have fx : IsHi x := ⟨by omega, by omega⟩
      have kf := wof_spec x fx
      unfold wideRes at kf
      have ka := add_spec (hi z) (lo z) (hi x) (lo x) (hiV_isW fz) (hiV_isW (fits_small fx))
      unfold sumRes at ka
      rw [V_hi_lo, V_hi_lo, ← st, resV_fits ft, resE_fits ft] at ka
      have T := hide ht
      clear hxk st b1 b2 b3 fz ft fx hz ht I I2
      have q := J.out.s
      obtain ⟨q0, q1, q2, q3, q5⟩ := q
      have K0 := Keeps.start (Nat.le_refl wr.heap.size)
      have K1 := K0.drew
      have gw : g < wr.heap.size := Nat.lt_of_lt_of_le L.out J.out.below.size
      obtain ⟨wo, hwo⟩ : ∃ wo : World, wo = wr := ⟨_, rfl⟩
      clear hwo
      generalize hi z = z1 at *
      generalize lo z = z0 at *
      generalize hi x = x1 at *
      generalize lo x = x0 at *
      obtain ⟨t1, ht1⟩ : ∃ t1, t1 = hi t := ⟨_, rfl⟩
      obtain ⟨t0, ht0⟩ : ∃ t0, t0 = lo t := ⟨_, rfl⟩
      rw [← ht1, ← ht0] at ka
      have T1 := hide ht1
      have T0 := hide ht0
      clear ht1 ht0
      go_wp2_with fail
      go_region_with (first
        | (go_at_call 24; (with_reducible refine (kf _).mono ?_); rintro e v20 ⟨rfl, hb20⟩; have K20 := Keeps.call (B := wr.heap.size) (W := wr) (by repeat (first | assumption | refine Keeps.alloc ?_ _ | refine Keeps.drew ?_ | refine Keeps.setCell ?_ (by first | (simp; done) | omega | (simp; omega)) _)) hb20; have n0 := K20.cell q0 q5; have n1 := K20.cell q1 q5)
        | (go_at_call 25; (with_reducible refine (ka _).mono ?_); rintro e v21 ⟨rfl, hb21⟩; have K21 := Keeps.call (B := wr.heap.size) (W := wr) (by repeat (first | assumption | refine Keeps.alloc ?_ _ | refine Keeps.drew ?_ | refine Keeps.setCell ?_ (by first | (simp; done) | omega | (simp; omega)) _)) hb21; have m0 := K21.cell q0 q5; have m1 := K21.cell q1 q5; have m2 := K21.free q2 q5; have m3 := K21.free q3 q5; have m5 : w.heap.size + 1 < v21.heap.size := (by have := K21.size; omega)))
      all_goals
        have F := hide (J.out.next K21.below t1 t0)
        clear K20 K21 kf ka
        go_wp2_with fail
        go_roundw
        case rel => exact ⟨k + 1, by omega, by go_num, by rw [← T.out, ← T1.out, ← T0.out]; exact F.out⟩
        case measure => simp [intOf]; omega
    · obtain rfl : k = xs.length := by omega
      have I2 := I.out
      rw [List.take_length] at I2
      have e := SS.out
      have e0 := SS0.out
      rw [← e, ← e0] at I2
      obtain ⟨⟨q0, q1, q2, q3, q5⟩, ⟨r0, r1, r2, r3, r5⟩, bb⟩ := I2
      have BI := hide bb
      clear I e e0 bb
      go_wp2_with fail
      refine bodyPost_ret (by simp [results, Try.results37, go_sem, q0, q1, r0, r1, r2, r3, r5]; try rfl) rfl ?_
      have bb := BI.out
      refine ⟨rfl, ?_⟩
      repeat (first | exact Below.refl _ _ | assumption | refine Below.setCell ?_ (by first | (simp; done) | omega | (simp; omega)) _ | refine Below.drew ?_ | refine below_drewN ?_ _ | refine Below.alloc ?_ (by first | (simp; done) | omega | (simp; omega)) _)
end Go.Proofs.Ytebiddmadmmfpaa
/- math/bits.LeadingZeros64: by how much a number is to be moved until its highest bit is set. -/
namespace Go.Proofs.Ytebiddmadmmfpaa
set_option linter.unusedVariables false
open Go.RowKit W
theorem lz_num (x : Nat) (h0 : x ≠ 0) (h1 : x < 18446744073709551616) : ∃ s : Nat, s < 64 ∧ (64 - (Lib.bitLen x : Int)) = s ∧ 9223372036854775808 ≤ x * 2 ^ s ∧ x * 2 ^ s < 18446744073709551616 := by
  obtain ⟨a, b, c⟩ := Lib.bitLenAux_bounds 64 x (by omega) h0
  have d : Lib.bitLen x ≤ 64 := Lib.bitLen_le x 64 (by omega) (by omega)
  have e : Lib.bitLen x = Lib.bitLenAux 64 x := rfl
  rw [← e] at a b c
  generalize Lib.bitLen x = n at *
  refine ⟨64 - n, by omega, by omega, ?_, ?_⟩
  · have := Nat.mul_le_mul_right (2 ^ (64 - n)) b
    rw [← Nat.pow_add, show n - 1 + (64 - n) = 63 by omega] at this
    omega
  · have := (Nat.mul_lt_mul_right (a := 2 ^ (64 - n)) (Nat.pow_pos (by omega))).2 c
    rw [← Nat.pow_add, show n + (64 - n) = 64 by omega] at this
    omega
/-- By how much the walk moves it, and that it lies in the upper half then. -/
theorem lz_spec (y : Int) (j : IsLo y) (n : y ≠ 0) : ∃ s : Nat, s < 64 ∧ 9223372036854775808 ≤ y * 2 ^ s ∧ y * 2 ^ s < 18446744073709551616 ∧
    ∀ w, Calls Try.prog 74 #[.int .u64 y] w fun e w' => e = .returned (.int .i64 s) ∧ w = w' := by
  obtain ⟨a, b⟩ := j
  obtain ⟨x, rfl⟩ := Int.eq_ofNat_of_zero_le a
  obtain ⟨s, h1, h2, h3, h4⟩ := lz_num x (by omega) (by omega)
  have e : ((2 : Int) ^ s) = ((2 ^ s : Nat) : Int) := by simp
  have m : (x : Int) * 2 ^ s = ((x * 2 ^ s : Nat) : Int) := by rw [e, ← Int.natCast_mul]
  refine ⟨s, h1, by omega, by omega, fun w => ?_⟩
  refine (Try.bits_LeadingZeros64 (x : Int) w (by omega) (by omega)).mono ?_
  rintro e w' ⟨rfl, rfl⟩
  rw [Int.toNat_natCast, h2]
  exact ⟨rfl, rfl⟩
end Go.Proofs.Ytebiddmadmmfpaa
/- Plain numbers: a division of two words by one, digit by digit of 32 bits. No Go in sight. -/
namespace Go.Proofs.Ytebiddmadmmfpaa
set_option linter.unusedVariables false
namespace W
/-- A divisor whose highest bit is set, and its halves. -/
structure Norm (v n1 n0 : Int) : Prop where
  e : v = n1 * 4294967296 + n0
  a : 2147483648 ≤ n1
  b : n1 < 4294967296
  c : 0 ≤ n0
  d : n0 < 4294967296
/-- A digit that is tried: not too small, and at most two too great. -/
structure Try (u d v n1 q r : Int) : Prop where
  e : u = q * n1 + r
  r0 : 0 ≤ r
  r1 : r < 4294967296
  q0 : 0 ≤ q
  q1 : q ≤ 4294967297
  up : (u * 4294967296 + d) / v ≤ q
theorem Norm.pos {v n1 n0 : Int} (n : Norm v n1 n0) : 0 < v := by obtain ⟨e, a, b, c, d⟩ := n; omega
theorem Norm.mul {v n1 n0 : Int} (n : Norm v n1 n0) (q : Int) : q * v = q * n1 * 4294967296 + q * n0 := by rw [n.e, Int.mul_add, Int.mul_assoc]
theorem digit_nonneg {u d v : Int} (u0 : 0 ≤ u) (d0 : 0 ≤ d) (hv : 0 < v) : 0 ≤ (u * 4294967296 + d) / v := Int.ediv_nonneg (by omega) (by omega)
theorem digit_lt {u d v : Int} (u1 : u < v) (d1 : d < 4294967296) (hv : 0 < v) : (u * 4294967296 + d) / v < 4294967296 :=
  Int.ediv_lt_of_lt_mul hv (by omega)
theorem try_start {u d v n1 n0 : Int} (n : Norm v n1 n0) (u0 : 0 ≤ u) (u1 : u < v) (d0 : 0 ≤ d) (d1 : d < 4294967296) : Try u d v n1 (u / n1) (u - u / n1 * n1) := by
  have hv := n.pos
  have hn : 0 < n1 := by have := n.a; omega
  have h1 := Int.ediv_mul_le u (show n1 ≠ 0 by omega)
  have h2 := Int.lt_ediv_add_one_mul_self u hn
  rw [Int.add_mul, Int.one_mul] at h2
  have q0 : 0 ≤ u / n1 := Int.ediv_nonneg u0 (by omega)
  have m := n.mul ((u * 4294967296 + d) / v)
  have g := Int.ediv_mul_le (u * 4294967296 + d) (show v ≠ 0 by omega)
  have p := digit_nonneg u0 d0 hv
  have y0 : 0 ≤ (u * 4294967296 + d) / v * n0 := Int.mul_nonneg p n.c
  have k : (u * 4294967296 + d) / v * n1 ≤ u := by omega
  have q1 : u / n1 < 4294967298 := Int.ediv_lt_of_lt_mul hn (by have := n.e; have := n.a; have := n.d; omega)
  exact ⟨by omega, by omega, by have := n.b; omega, q0, by omega, Int.le_ediv_of_mul_le hn k⟩
/-- The test says that the digit is too great. -/
theorem Try.more {u d v n1 n0 q r : Int} (n : Norm v n1 n0) (t : Try u d v n1 q r) (u1 : u < v) (d1 : d < 4294967296) (h : 4294967296 ≤ q ∨ 4294967296 * r + d < q * n0) : (u * 4294967296 + d) / v ≤ q - 1 := by
  have hv := n.pos
  rcases h with h | h
  · have := digit_lt u1 d1 hv; omega
  · have m := n.mul q
    have e := t.e
    have : (u * 4294967296 + d) / v < q := Int.ediv_lt_of_lt_mul hv (by omega)
    omega
theorem Try.again {u d v n1 n0 q r : Int} (n : Norm v n1 n0) (t : Try u d v n1 q r) (u0 : 0 ≤ u) (u1 : u < v) (d0 : 0 ≤ d) (d1 : d < 4294967296) (h : 4294967296 ≤ q ∨ 4294967296 * r + d < q * n0) (hr : r + n1 < 4294967296) : Try u d v n1 (q - 1) (r + n1) := by
  have up := t.more n u1 d1 h
  have p := digit_nonneg u0 d0 n.pos
  obtain ⟨e, r0, r1, q0, q1, _⟩ := t
  exact ⟨by rw [Int.sub_mul, Int.one_mul]; omega, by have := n.a; omega, hr, by omega, by omega, up⟩
theorem Try.stop {u d v n1 n0 q r : Int} (n : Norm v n1 n0) (t : Try u d v n1 q r) (u1 : u < v) (d0 : 0 ≤ d) (d1 : d < 4294967296) (h : 4294967296 ≤ q ∨ 4294967296 * r + d < q * n0) (hr : 4294967296 ≤ r + n1) : q - 1 = (u * 4294967296 + d) / v := by
  have up := t.more n u1 d1 h
  have m := n.mul (q - 1)
  obtain ⟨e, r0, r1, q0, q1, _⟩ := t
  have k : (q - 1) * n1 = u - r - n1 := by rw [Int.sub_mul, Int.one_mul]; omega
  have hq : 0 ≤ q := q0
  have l : (q - 1) * n0 ≤ 4294967296 * 4294967296 := by
    by_cases z : q = 0
    · subst z; have := n.c; omega
    · exact Int.mul_le_mul (by omega) (by have := n.d; omega) n.c (by omega)
  have : q - 1 ≤ (u * 4294967296 + d) / v := Int.le_ediv_of_mul_le n.pos (by rw [m, k]; omega)
  omega
theorem Try.done {u d v n1 n0 q r : Int} (n : Norm v n1 n0) (t : Try u d v n1 q r) (h : q * n0 ≤ 4294967296 * r + d) : q = (u * 4294967296 + d) / v := by
  have m := n.mul q
  obtain ⟨e, r0, r1, q0, q1, up⟩ := t
  have : q ≤ (u * 4294967296 + d) / v := Int.le_ediv_of_mul_le n.pos (by rw [m]; omega)
  omega
/-- What is left behind a digit, modulo 2^64. -/
theorem left_digit {u d v : Int} (u0 : 0 ≤ u) (d0 : 0 ≤ d) (hv : 0 < v) (hb : v < 18446744073709551616) :
    ((u * 4294967296 + d) - (u * 4294967296 + d) / v * v) % 18446744073709551616 = (u * 4294967296 + d) % v := by
  have e := Int.emod_def (u * 4294967296 + d) v
  rw [Int.mul_comm v] at e
  rw [← e]
  have := Int.emod_nonneg (u * 4294967296 + d) (show v ≠ 0 by omega)
  have := Int.emod_lt_of_pos (u * 4294967296 + d) hv
  exact Int.emod_eq_of_lt (by omega) (by omega)
/-- Two digits are the quotient; what is left behind them is what is left. -/
theorem two_digits {N y p v x1 x0 : Int} (hp : 0 < p) (hy : 0 < y) (ev : v = y * p) {u : Int} (eu : N * p = u * 18446744073709551616 + x1 * 4294967296 + x0)
    (h0 : 0 ≤ x0) (h1 : x0 < 4294967296) :
    (u * 4294967296 + x1) / v * 4294967296 + ((u * 4294967296 + x1) % v * 4294967296 + x0) / v = N / y ∧ ((u * 4294967296 + x1) % v * 4294967296 + x0) % v / p = N % y := by
  have hv : 0 < v := by rw [ev]; exact Int.mul_pos hy hp
  have a := Int.mul_ediv_add_emod (u * 4294967296 + x1) v
  have b := Int.mul_ediv_add_emod ((u * 4294967296 + x1) % v * 4294967296 + x0) v
  have r0 := Int.emod_nonneg ((u * 4294967296 + x1) % v * 4294967296 + x0) (show v ≠ 0 by omega)
  have r1 := Int.emod_lt_of_pos ((u * 4294967296 + x1) % v * 4294967296 + x0) hv
  generalize ((u * 4294967296 + x1) % v * 4294967296 + x0) % v = R at *
  generalize ((u * 4294967296 + x1) % v * 4294967296 + x0) / v = Q0 at *
  generalize (u * 4294967296 + x1) / v = Q1 at *
  have e : N * p = R + v * (Q1 * 4294967296 + Q0) := by
    rw [Int.mul_add, ← Int.mul_assoc]; omega
  have q : N * p / v = Q1 * 4294967296 + Q0 := by
    rw [e, Int.add_mul_ediv_left _ _ (by omega), Int.ediv_eq_zero_of_lt r0 r1]; omega
  have r : N * p % v = R := by rw [e, Int.add_mul_emod_self_left]; exact Int.emod_eq_of_lt r0 r1
  rw [ev] at q r
  rw [Int.mul_ediv_mul_of_pos_left _ _ hp] at q
  rw [Int.mul_comm N, Int.mul_comm y, Int.mul_emod_mul_of_pos _ _ hp] at r
  exact ⟨q.symm, by rw [← r]; exact Int.mul_ediv_cancel_left _ (by omega)⟩
end W
end Go.Proofs.Ytebiddmadmmfpaa
/- math/bits.Div64, at every divisor above the high word: the walk. -/
namespace Go.Proofs.Ytebiddmadmmfpaa
set_option linter.unusedVariables false
open Go.RowKit W
/-- What a digit's loop has in hand. -/
structure Dig (u d v n1 n0 q r : Int) : Prop where
  n : Norm v n1 n0
  u0 : 0 ≤ u
  u1 : u < v
  d0 : 0 ≤ d
  d1 : d < 4294967296
  t : Try u d v n1 q r
theorem wrap_in {x : Int} (a : 0 ≤ x) (b : x < 18446744073709551616) : IntKind.u64.wrap x = x := by rw [IntKind.wrap_u64]; exact Int.emod_eq_of_lt a b
/-- A digit's test, as it stands. -/
theorem Dig.test {u d v n1 n0 q r : Int} (g : Dig u d v n1 n0 q r) :
    IntKind.u64.wrap (4294967296 * r) = 4294967296 * r ∧ ((4294967296 ≤ q ∨ IntKind.u64.wrap (4294967296 * r + d) < IntKind.u64.wrap (q * n0)) ↔ (4294967296 ≤ q ∨ 4294967296 * r + d < q * n0)) := by
  have := g.t.r0; have := g.t.r1; have := g.d0; have := g.d1
  have w1 : IntKind.u64.wrap (4294967296 * r + d) = 4294967296 * r + d := wrap_in (by omega) (by omega)
  refine ⟨wrap_in (by omega) (by omega), ?_⟩
  rw [w1]
  by_cases h : 4294967296 ≤ q
  · simp [h]
  · have a := Int.mul_nonneg g.t.q0 g.n.c
    have b : q * n0 ≤ 4294967295 * 4294967295 := Int.mul_le_mul (by omega) (by have := g.n.d; omega) g.n.c (by omega)
    rw [wrap_in a (by omega)]
theorem Dig.stop {u d v n1 n0 q r : Int} (g : Dig u d v n1 n0 q r) (h : 4294967296 ≤ q ∨ 4294967296 * r + d < q * n0) (hr : ¬ r + n1 < 4294967296) : q - 1 = (u * 4294967296 + d) / v :=
  g.t.stop g.n g.u1 g.d0 g.d1 h (by omega)
theorem Dig.done {u d v n1 n0 q r : Int} (g : Dig u d v n1 n0 q r) (h : ¬ (4294967296 ≤ q ∨ 4294967296 * r + d < q * n0)) : q = (u * 4294967296 + d) / v :=
  g.t.done g.n (by omega)
theorem Dig.next {u d v n1 n0 q r : Int} (g : Dig u d v n1 n0 q r) (h : 4294967296 ≤ q ∨ 4294967296 * r + d < q * n0) : IntKind.u64.wrap (q - 1) = q - 1 ∧ IntKind.u64.wrap (r + n1) = r + n1 ∧ 1 ≤ q := by
  have a := g.t.more g.n g.u1 g.d1 h
  have b := digit_nonneg g.u0 g.d0 g.n.pos
  have := g.t.q1; have := g.t.r0; have := g.t.r1; have := g.n.a; have := g.n.b
  exact ⟨wrap_in (by omega) (by omega), wrap_in (by omega) (by omega), by omega⟩
theorem Dig.again {u d v n1 n0 q r : Int} (g : Dig u d v n1 n0 q r) (h : 4294967296 ≤ q ∨ 4294967296 * r + d < q * n0) (hr : r + n1 < 4294967296) : Dig u d v n1 n0 (q - 1) (r + n1) :=
  ⟨g.n, g.u0, g.u1, g.d0, g.d1, g.t.again g.n g.u0 g.u1 g.d0 g.d1 h hr⟩
set_option maxHeartbeats 8000000 in
theorem div64_walk (h l y v n1 n0 u x x1 x0 q r qn Q1 a1 a2 a3 t q2 c1 r2 Q0 b1 b2 b3 b4 b5 Z1 Z2 : Int) (s : Nat) (m1 : (y == 0) = false) (m2 : ¬ y ≤ h) (m3 : (h == 0) = false) (hs : s < 64) (nz : ¬ n1 = 0)
    (ks : ∀ w, Calls Try.prog 74 #[.int .u64 y] w fun e w' => e = .returned (.int .i64 s) ∧ w = w')
    (e1 : IntKind.u64.wrap (y * 2 ^ s) = v) (e2 : v / 4294967296 = n1) (e3 : bits .and .u64 v 4294967295 = n0) (e4 : bits .or .u64 (IntKind.u64.wrap (h * 2 ^ s)) (l / 2 ^ (64 - s)) = u)
    (e5 : IntKind.u64.wrap (l * 2 ^ s) = x) (e6 : x / 4294967296 = x1) (e7 : bits .and .u64 x 4294967295 = x0) (e8 : IntKind.u64.wrap (u.tdiv n1) = q) (e9 : IntKind.u64.wrap (q * n1) = qn) (e10 : IntKind.u64.wrap (u - qn) = r)
    (f1 : IntKind.u64.wrap (u * 4294967296) = a1) (f2 : IntKind.u64.wrap (a1 + x1) = a2) (f3 : IntKind.u64.wrap (Q1 * v) = a3) (f4 : IntKind.u64.wrap (a2 - a3) = t)
    (f5 : IntKind.u64.wrap (t.tdiv n1) = q2) (f6 : IntKind.u64.wrap (q2 * n1) = c1) (f7 : IntKind.u64.wrap (t - c1) = r2)
    (g1 : IntKind.u64.wrap (Q1 * 4294967296) = b1) (g2 : IntKind.u64.wrap (b1 + Q0) = Z1) (g3 : IntKind.u64.wrap (t * 4294967296) = b2) (g4 : IntKind.u64.wrap (b2 + x0) = b3) (g5 : IntKind.u64.wrap (Q0 * v) = b4) (g6 : IntKind.u64.wrap (b3 - b4) = b5) (g7 : b5 / 2 ^ s = Z2)
    (T1 : Hid (Dig u x1 v n1 n0 q r)) (H1 : Hid (Q1 = (u * 4294967296 + x1) / v)) (T2 : Hid (Dig t x0 v n1 n0 q2 r2)) (H0 : Hid (Q0 = (t * 4294967296 + x0) / v)) (w : World) :
    Calls Try.prog 75 #[.int .u64 h, .int .u64 l, .int .u64 y] w fun e w' => e = .returned (.tuple #[.int .u64 Z1, .int .u64 Z2]) ∧ Below w.heap.size w w' := by
  go_enter Try.func75, Try.ntmps75
  go_wp2_with fail
  refine (ks _).mono ?_
  rintro e w1 ⟨rfl, rfl⟩
  go_wp2_with fail
  go_loop [15, 16] (fun a b => ∃ q r : Int, a = .int .u64 q ∧ b = .int .u64 r ∧ Hid (Dig u x1 v n1 n0 q r)) (fun a _ => (intOf a).toNat)
  case atStart => exact ⟨q, r, rfl, rfl, T1⟩
  case round =>
    obtain ⟨q', r', rfl, rfl, D⟩ := hrel
    obtain ⟨k1, k2⟩ := D.out.test
    obtain ⟨A, hA⟩ : ∃ A, IntKind.u64.wrap (q' * n0) = A := ⟨_, rfl⟩
    obtain ⟨R, hR⟩ : ∃ A, IntKind.u64.wrap (4294967296 * r' + x1) = A := ⟨_, rfl⟩
    rw [hA, hR] at k2
    have K := hide k2
    clear k2
    have c : (4294967296 ≤ q') ∨ (q' < 4294967296 ∧ R < A) ∨ (q' < 4294967296 ∧ A ≤ R) := by omega
    rcases c with c | ⟨c, c'⟩ | ⟨c, c'⟩
    · obtain ⟨n2', n3', n4⟩ := D.out.next (K.out.1 (.inl c))
      obtain ⟨p, hp⟩ : ∃ p, p = q' - 1 := ⟨_, rfl⟩
      obtain ⟨m, hm⟩ : ∃ m, m = r' + n1 := ⟨_, rfl⟩
      have n2 : IntKind.u64.wrap (q' - 1) = p := by rw [hp]; exact n2'
      have n3 : IntKind.u64.wrap (r' + n1) = m := by rw [hm]; exact n3'
      have g1 : m < 4294967296 → Dig u x1 v n1 n0 p m := by rw [hp, hm]; exact D.out.again (K.out.1 (.inl c))
      have g2 : ¬ m < 4294967296 → p = (u * 4294967296 + x1) / v := by rw [hp, hm]; exact D.out.stop (K.out.1 (.inl c))
      have PQ : Hid (0 ≤ p ∧ p < q') := ⟨by omega, by omega⟩
      clear n4 n2' n3'
      have G1 := hide g1
      have G2 := hide g2
      clear hp hm g1 g2
      by_cases hr : m < 4294967296
      · have DD := hide (G1.out hr)
        go_wp2_with fail
        go_round
        case rel => exact ⟨_, _, rfl, rfl, DD⟩
        case measure => have := PQ.out; simp [intOf]; omega
      · have st := G2.out hr
        rw [← H1.out] at st
        subst st
        have hr' : 4294967296 ≤ m := by omega
        clear D K hr
        go_wp2_with fail
        go_loop [18, 16] (fun a b => ∃ q r : Int, a = .int .u64 q ∧ b = .int .u64 r ∧ Hid (Dig t x0 v n1 n0 q r)) (fun a _ => (intOf a).toNat)
        case atStart => exact ⟨q2, r2, rfl, rfl, T2⟩
        case round =>
          obtain ⟨q', r', rfl, rfl, D⟩ := hrel
          obtain ⟨k1, k2⟩ := D.out.test
          obtain ⟨A, hA⟩ : ∃ A, IntKind.u64.wrap (q' * n0) = A := ⟨_, rfl⟩
          obtain ⟨R, hR⟩ : ∃ A, IntKind.u64.wrap (4294967296 * r' + x0) = A := ⟨_, rfl⟩
          rw [hA, hR] at k2
          have K := hide k2
          clear k2
          have c : (4294967296 ≤ q') ∨ (q' < 4294967296 ∧ R < A) ∨ (q' < 4294967296 ∧ A ≤ R) := by omega
          rcases c with c | ⟨c, c'⟩ | ⟨c, c'⟩
          · obtain ⟨n2', n3', n4⟩ := D.out.next (K.out.1 (.inl c))
            obtain ⟨p, hp⟩ : ∃ p, p = q' - 1 := ⟨_, rfl⟩
            obtain ⟨m, hm⟩ : ∃ m, m = r' + n1 := ⟨_, rfl⟩
            have n2 : IntKind.u64.wrap (q' - 1) = p := by rw [hp]; exact n2'
            have n3 : IntKind.u64.wrap (r' + n1) = m := by rw [hm]; exact n3'
            have g1 : m < 4294967296 → Dig t x0 v n1 n0 p m := by rw [hp, hm]; exact D.out.again (K.out.1 (.inl c))
            have g2 : ¬ m < 4294967296 → p = (t * 4294967296 + x0) / v := by rw [hp, hm]; exact D.out.stop (K.out.1 (.inl c))
            have PQ : Hid (0 ≤ p ∧ p < q') := ⟨by omega, by omega⟩
            clear n4 n2' n3'
            have G1 := hide g1
            have G2 := hide g2
            clear hp hm g1 g2
            by_cases hr : m < 4294967296
            · have DD := hide (G1.out hr)
              go_wp2_with fail
              go_round
              case rel => exact ⟨_, _, rfl, rfl, DD⟩
              case measure => have := PQ.out; simp [intOf]; omega
            · have st := G2.out hr
              rw [← H0.out] at st
              subst st
              have hr' : 4294967296 ≤ m := by omega
              clear D K hr
              go_wp2_with fail
              go_returns
              exact ⟨rfl, by go_grown⟩
          · obtain ⟨n2', n3', n4⟩ := D.out.next (K.out.1 (.inr c'))
            obtain ⟨p, hp⟩ : ∃ p, p = q' - 1 := ⟨_, rfl⟩
            obtain ⟨m, hm⟩ : ∃ m, m = r' + n1 := ⟨_, rfl⟩
            have n2 : IntKind.u64.wrap (q' - 1) = p := by rw [hp]; exact n2'
            have n3 : IntKind.u64.wrap (r' + n1) = m := by rw [hm]; exact n3'
            have g1 : m < 4294967296 → Dig t x0 v n1 n0 p m := by rw [hp, hm]; exact D.out.again (K.out.1 (.inr c'))
            have g2 : ¬ m < 4294967296 → p = (t * 4294967296 + x0) / v := by rw [hp, hm]; exact D.out.stop (K.out.1 (.inr c'))
            have PQ : Hid (0 ≤ p ∧ p < q') := ⟨by omega, by omega⟩
            clear n4 n2' n3'
            have G1 := hide g1
            have G2 := hide g2
            clear hp hm g1 g2
            by_cases hr : m < 4294967296
            · have DD := hide (G1.out hr)
              go_wp2_with fail
              go_round
              case rel => exact ⟨_, _, rfl, rfl, DD⟩
              case measure => have := PQ.out; simp [intOf]; omega
            · have st := G2.out hr
              rw [← H0.out] at st
              subst st
              have hr' : 4294967296 ≤ m := by omega
              clear D K hr
              go_wp2_with fail
              go_returns
              exact ⟨rfl, by go_grown⟩
          · have st := D.out.done (fun x => by rcases K.out.2 x with h | h <;> omega)
            rw [← H0.out] at st
            subst st
            clear D K
            go_wp2_with fail
            go_returns
            exact ⟨rfl, by go_grown⟩
    · obtain ⟨n2', n3', n4⟩ := D.out.next (K.out.1 (.inr c'))
      obtain ⟨p, hp⟩ : ∃ p, p = q' - 1 := ⟨_, rfl⟩
      obtain ⟨m, hm⟩ : ∃ m, m = r' + n1 := ⟨_, rfl⟩
      have n2 : IntKind.u64.wrap (q' - 1) = p := by rw [hp]; exact n2'
      have n3 : IntKind.u64.wrap (r' + n1) = m := by rw [hm]; exact n3'
      have g1 : m < 4294967296 → Dig u x1 v n1 n0 p m := by rw [hp, hm]; exact D.out.again (K.out.1 (.inr c'))
      have g2 : ¬ m < 4294967296 → p = (u * 4294967296 + x1) / v := by rw [hp, hm]; exact D.out.stop (K.out.1 (.inr c'))
      have PQ : Hid (0 ≤ p ∧ p < q') := ⟨by omega, by omega⟩
      clear n4 n2' n3'
      have G1 := hide g1
      have G2 := hide g2
      clear hp hm g1 g2
      by_cases hr : m < 4294967296
      · have DD := hide (G1.out hr)
        go_wp2_with fail
        go_round
        case rel => exact ⟨_, _, rfl, rfl, DD⟩
        case measure => have := PQ.out; simp [intOf]; omega
      · have st := G2.out hr
        rw [← H1.out] at st
        subst st
        have hr' : 4294967296 ≤ m := by omega
        clear D K hr
        go_wp2_with fail
        go_loop [18, 16] (fun a b => ∃ q r : Int, a = .int .u64 q ∧ b = .int .u64 r ∧ Hid (Dig t x0 v n1 n0 q r)) (fun a _ => (intOf a).toNat)
        case atStart => exact ⟨q2, r2, rfl, rfl, T2⟩
        case round =>
          obtain ⟨q', r', rfl, rfl, D⟩ := hrel
          obtain ⟨k1, k2⟩ := D.out.test
          obtain ⟨A, hA⟩ : ∃ A, IntKind.u64.wrap (q' * n0) = A := ⟨_, rfl⟩
          obtain ⟨R, hR⟩ : ∃ A, IntKind.u64.wrap (4294967296 * r' + x0) = A := ⟨_, rfl⟩
          rw [hA, hR] at k2
          have K := hide k2
          clear k2
          have c : (4294967296 ≤ q') ∨ (q' < 4294967296 ∧ R < A) ∨ (q' < 4294967296 ∧ A ≤ R) := by omega
          rcases c with c | ⟨c, c'⟩ | ⟨c, c'⟩
          · obtain ⟨n2', n3', n4⟩ := D.out.next (K.out.1 (.inl c))
            obtain ⟨p, hp⟩ : ∃ p, p = q' - 1 := ⟨_, rfl⟩
            obtain ⟨m, hm⟩ : ∃ m, m = r' + n1 := ⟨_, rfl⟩
            have n2 : IntKind.u64.wrap (q' - 1) = p := by rw [hp]; exact n2'
            have n3 : IntKind.u64.wrap (r' + n1) = m := by rw [hm]; exact n3'
            have g1 : m < 4294967296 → Dig t x0 v n1 n0 p m := by rw [hp, hm]; exact D.out.again (K.out.1 (.inl c))
            have g2 : ¬ m < 4294967296 → p = (t * 4294967296 + x0) / v := by rw [hp, hm]; exact D.out.stop (K.out.1 (.inl c))
            have PQ : Hid (0 ≤ p ∧ p < q') := ⟨by omega, by omega⟩
            clear n4 n2' n3'
            have G1 := hide g1
            have G2 := hide g2
            clear hp hm g1 g2
            by_cases hr : m < 4294967296
            · have DD := hide (G1.out hr)
              go_wp2_with fail
              go_round
              case rel => exact ⟨_, _, rfl, rfl, DD⟩
              case measure => have := PQ.out; simp [intOf]; omega
            · have st := G2.out hr
              rw [← H0.out] at st
              subst st
              have hr' : 4294967296 ≤ m := by omega
              clear D K hr
              go_wp2_with fail
              go_returns
              exact ⟨rfl, by go_grown⟩
          · obtain ⟨n2', n3', n4⟩ := D.out.next (K.out.1 (.inr c'))
            obtain ⟨p, hp⟩ : ∃ p, p = q' - 1 := ⟨_, rfl⟩
            obtain ⟨m, hm⟩ : ∃ m, m = r' + n1 := ⟨_, rfl⟩
            have n2 : IntKind.u64.wrap (q' - 1) = p := by rw [hp]; exact n2'
            have n3 : IntKind.u64.wrap (r' + n1) = m := by rw [hm]; exact n3'
            have g1 : m < 4294967296 → Dig t x0 v n1 n0 p m := by rw [hp, hm]; exact D.out.again (K.out.1 (.inr c'))
            have g2 : ¬ m < 4294967296 → p = (t * 4294967296 + x0) / v := by rw [hp, hm]; exact D.out.stop (K.out.1 (.inr c'))
            have PQ : Hid (0 ≤ p ∧ p < q') := ⟨by omega, by omega⟩
            clear n4 n2' n3'
            have G1 := hide g1
            have G2 := hide g2
            clear hp hm g1 g2
            by_cases hr : m < 4294967296
            · have DD := hide (G1.out hr)
              go_wp2_with fail
              go_round
              case rel => exact ⟨_, _, rfl, rfl, DD⟩
              case measure => have := PQ.out; simp [intOf]; omega
            · have st := G2.out hr
              rw [← H0.out] at st
              subst st
              have hr' : 4294967296 ≤ m := by omega
              clear D K hr
              go_wp2_with fail
              go_returns
              exact ⟨rfl, by go_grown⟩
          · have st := D.out.done (fun x => by rcases K.out.2 x with h | h <;> omega)
            rw [← H0.out] at st
            subst st
            clear D K
            go_wp2_with fail
            go_returns
            exact ⟨rfl, by go_grown⟩
    · have st := D.out.done (fun x => by rcases K.out.2 x with h | h <;> omega)
      rw [← H1.out] at st
      subst st
      clear D K
      go_wp2_with fail
      go_loop [18, 16] (fun a b => ∃ q r : Int, a = .int .u64 q ∧ b = .int .u64 r ∧ Hid (Dig t x0 v n1 n0 q r)) (fun a _ => (intOf a).toNat)
      case atStart => exact ⟨q2, r2, rfl, rfl, T2⟩
      case round =>
        obtain ⟨q', r', rfl, rfl, D⟩ := hrel
        obtain ⟨k1, k2⟩ := D.out.test
        obtain ⟨A, hA⟩ : ∃ A, IntKind.u64.wrap (q' * n0) = A := ⟨_, rfl⟩
        obtain ⟨R, hR⟩ : ∃ A, IntKind.u64.wrap (4294967296 * r' + x0) = A := ⟨_, rfl⟩
        rw [hA, hR] at k2
        have K := hide k2
        clear k2
        have c : (4294967296 ≤ q') ∨ (q' < 4294967296 ∧ R < A) ∨ (q' < 4294967296 ∧ A ≤ R) := by omega
        rcases c with c | ⟨c, c'⟩ | ⟨c, c'⟩
        · obtain ⟨n2', n3', n4⟩ := D.out.next (K.out.1 (.inl c))
          obtain ⟨p, hp⟩ : ∃ p, p = q' - 1 := ⟨_, rfl⟩
          obtain ⟨m, hm⟩ : ∃ m, m = r' + n1 := ⟨_, rfl⟩
          have n2 : IntKind.u64.wrap (q' - 1) = p := by rw [hp]; exact n2'
          have n3 : IntKind.u64.wrap (r' + n1) = m := by rw [hm]; exact n3'
          have g1 : m < 4294967296 → Dig t x0 v n1 n0 p m := by rw [hp, hm]; exact D.out.again (K.out.1 (.inl c))
          have g2 : ¬ m < 4294967296 → p = (t * 4294967296 + x0) / v := by rw [hp, hm]; exact D.out.stop (K.out.1 (.inl c))
          have PQ : Hid (0 ≤ p ∧ p < q') := ⟨by omega, by omega⟩
          clear n4 n2' n3'
          have G1 := hide g1
          have G2 := hide g2
          clear hp hm g1 g2
          by_cases hr : m < 4294967296
          · have DD := hide (G1.out hr)
            go_wp2_with fail
            go_round
            case rel => exact ⟨_, _, rfl, rfl, DD⟩
            case measure => have := PQ.out; simp [intOf]; omega
          · have st := G2.out hr
            rw [← H0.out] at st
            subst st
            have hr' : 4294967296 ≤ m := by omega
            clear D K hr
            go_wp2_with fail
            go_returns
            exact ⟨rfl, by go_grown⟩
        · obtain ⟨n2', n3', n4⟩ := D.out.next (K.out.1 (.inr c'))
          obtain ⟨p, hp⟩ : ∃ p, p = q' - 1 := ⟨_, rfl⟩
          obtain ⟨m, hm⟩ : ∃ m, m = r' + n1 := ⟨_, rfl⟩
          have n2 : IntKind.u64.wrap (q' - 1) = p := by rw [hp]; exact n2'
          have n3 : IntKind.u64.wrap (r' + n1) = m := by rw [hm]; exact n3'
          have g1 : m < 4294967296 → Dig t x0 v n1 n0 p m := by rw [hp, hm]; exact D.out.again (K.out.1 (.inr c'))
          have g2 : ¬ m < 4294967296 → p = (t * 4294967296 + x0) / v := by rw [hp, hm]; exact D.out.stop (K.out.1 (.inr c'))
          have PQ : Hid (0 ≤ p ∧ p < q') := ⟨by omega, by omega⟩
          clear n4 n2' n3'
          have G1 := hide g1
          have G2 := hide g2
          clear hp hm g1 g2
          by_cases hr : m < 4294967296
          · have DD := hide (G1.out hr)
            go_wp2_with fail
            go_round
            case rel => exact ⟨_, _, rfl, rfl, DD⟩
            case measure => have := PQ.out; simp [intOf]; omega
          · have st := G2.out hr
            rw [← H0.out] at st
            subst st
            have hr' : 4294967296 ≤ m := by omega
            clear D K hr
            go_wp2_with fail
            go_returns
            exact ⟨rfl, by go_grown⟩
        · have st := D.out.done (fun x => by rcases K.out.2 x with h | h <;> omega)
          rw [← H0.out] at st
          subst st
          clear D K
          go_wp2_with fail
          go_returns
          exact ⟨rfl, by go_grown⟩
end Go.Proofs.Ytebiddmadmmfpaa
/- math/bits.Div64 at a high word 0. -/
namespace Go.Proofs.Ytebiddmadmmfpaa
set_option linter.unusedVariables false
open Go.RowKit W
set_option maxHeartbeats 1000000 in
theorem div64_zero (x y : Int) (i : IsLo x) (j : IsLo y) (n : y ≠ 0) (w : World) :
    Calls Try.prog 75 #[.int .u64 0, .int .u64 x, .int .u64 y] w fun e w' => e = .returned (.tuple #[.int .u64 (x / y), .int .u64 (x % y)]) ∧ Below w.heap.size w w' := by
  have n1 : (y == 0) = false := by simpa using n
  have n2 : ¬ y ≤ 0 := by have := j.a; omega
  have n3 : ¬ y = 0 := n
  go_enter Try.func75, Try.ntmps75
  go_wp2_with fail
  go_quiet (fail)
  go_wp2_with fail
  go_returns
  refine ⟨ret_two ?_ ?_, below_drewN (Below.refl _ _) _⟩
  · rw [Int.tdiv_eq_ediv_of_nonneg i.a, IntKind.wrap_u64]
    have a : 0 ≤ x / y := Int.ediv_nonneg i.a (by have := j.a; omega)
    have b : x / y ≤ x := Int.ediv_le_self _ i.a
    have := i.b
    exact Int.emod_eq_of_lt a (by omega)
  · exact Int.tmod_eq_emod_of_nonneg i.a
end Go.Proofs.Ytebiddmadmmfpaa
/- math/bits.Div64, at every divisor above the high word; wide.divideBy. -/
namespace Go.Proofs.Ytebiddmadmmfpaa
set_option linter.unusedVariables false
open Go.RowKit W
/-- Two words moved to the left: the high one and what comes in from the low one, side by side. -/
theorem move_or (h l : Int) (s : Nat) (hs : s < 64) (h0 : 0 ≤ h) (h1 : h * 2 ^ s < 18446744073709551616) (i : IsLo l) :
    bits .or .u64 (IntKind.u64.wrap (h * 2 ^ s)) (l / 2 ^ (64 - s)) = h * 2 ^ s + l / 2 ^ (64 - s) := by
  obtain ⟨l0, l1⟩ := i
  have p : (0 : Int) < 2 ^ s := Int.pow_pos (by omega)
  have q : (0 : Int) < 2 ^ (64 - s) := Int.pow_pos (by omega)
  have e : (2 : Int) ^ s * 2 ^ (64 - s) = 18446744073709551616 := by rw [← Int.pow_add, show s + (64 - s) = 64 by omega]; decide
  have a0 : 0 ≤ h * 2 ^ s := Int.mul_nonneg h0 (by omega)
  have b0 : 0 ≤ l / 2 ^ (64 - s) := Int.ediv_nonneg l0 (by omega)
  have b1 : l / 2 ^ (64 - s) < 2 ^ s := Int.ediv_lt_of_lt_mul q (by omega)
  have b2 : l / 2 ^ (64 - s) ≤ l := Int.ediv_le_self _ l0
  rw [wrap_in a0 h1, u64_or _ _ a0 h1 b0 (by omega)]
  obtain ⟨x, rfl⟩ := Int.eq_ofNat_of_zero_le h0
  generalize l / 2 ^ (64 - s) = b at *
  obtain ⟨y, rfl⟩ := Int.eq_ofNat_of_zero_le b0
  have ep : (2 : Int) ^ s = ((2 ^ s : Nat) : Int) := by simp
  rw [ep] at b1 ⊢
  rw [← Int.natCast_mul, Int.toNat_natCast, Int.toNat_natCast]
  have hy : y < 2 ^ s := by omega
  have := Nat.two_pow_add_eq_or_of_lt hy x
  rw [Nat.mul_comm x, ← this, Int.natCast_add]
theorem lt_move {h l y : Int} (p : Int) (hp : 0 < p) (i : IsLo l) (lt : h < y) : h * p + l * p / 18446744073709551616 < y * p := by
  obtain ⟨_, _⟩ := i
  have a : l * p < 18446744073709551616 * p := Int.mul_lt_mul_of_pos_right (by omega) hp
  have b : l * p / 18446744073709551616 < p := Int.ediv_lt_of_lt_mul (by omega) (by rw [Int.mul_comm p]; exact a)
  have c : (h + 1) * p ≤ y * p := Int.mul_le_mul_of_nonneg_right (by omega) (by omega)
  rw [Int.add_mul, Int.one_mul] at c
  omega
theorem move_low (l : Int) (s : Nat) (hs : s < 64) : l * 2 ^ s / 18446744073709551616 = l / 2 ^ (64 - s) := by
  have p : (0 : Int) < 2 ^ s := Int.pow_pos (by omega)
  have e : (18446744073709551616 : Int) = 2 ^ (64 - s) * 2 ^ s := by rw [← Int.pow_add, show 64 - s + s = 64 by omega]; decide
  rw [e, Int.mul_ediv_mul_of_pos_left _ _ p]
theorem mod_left {u d q v : Int} (h : (u * 4294967296 + d - q * v) % 18446744073709551616 = u * 4294967296 + d - q * v) :
    IntKind.u64.wrap (IntKind.u64.wrap (IntKind.u64.wrap (u * 4294967296) + d) - IntKind.u64.wrap (q * v)) = u * 4294967296 + d - q * v := by
  simp only [IntKind.wrap_u64]
  generalize q * v = z at *
  omega
theorem dig_start {u d v n1 n0 : Int} (n : Norm v n1 n0) (u0 : 0 ≤ u) (u1 : u < v) (d0 : 0 ≤ d) (d1 : d < 4294967296) :
    Dig u d v n1 n0 (IntKind.u64.wrap (u.tdiv n1)) (IntKind.u64.wrap (u - IntKind.u64.wrap (IntKind.u64.wrap (u.tdiv n1) * n1))) := by
  have t := try_start n u0 u1 d0 d1
  have q0 := t.q0
  have q1 := t.q1
  have r0 := t.r0
  have r1 := t.r1
  have e := t.e
  have m0 : 0 ≤ u / n1 * n1 := Int.mul_nonneg q0 (by have := n.a; omega)
  have vb : v < 18446744073709551616 := by obtain ⟨a, b, c, d, e⟩ := n; omega
  rw [Int.tdiv_eq_ediv_of_nonneg u0, wrap_in q0 (by omega), wrap_in m0 (by omega), wrap_in (by omega) (by omega)]
  exact ⟨n, u0, u1, d0, d1, t⟩
set_option maxHeartbeats 1000000 in
theorem div64_spec (h l y : Int) (ih : IsLo h) (il : IsLo l) (iy : IsLo y) (lt : h < y) (w : World) :
    Calls Try.prog 75 #[.int .u64 h, .int .u64 l, .int .u64 y] w fun e w' => e = .returned (.tuple #[.int .u64 (V h l / y), .int .u64 (V h l % y)]) ∧ Below w.heap.size w w' := by
  obtain ⟨h0, h1⟩ := ih
  have y0 : y ≠ 0 := by omega
  by_cases hz : h = 0
  · subst hz
    have e : V 0 l = l := by unfold V; omega
    rw [e]
    exact div64_zero l y il iy y0 w
  obtain ⟨s, hs, v0, v1, ks⟩ := lz_spec y iy y0
  have p : (0 : Int) < 2 ^ s := Int.pow_pos (by omega)
  have hb : h * 2 ^ s < 18446744073709551616 := by
    have : h * 2 ^ s < y * 2 ^ s := Int.mul_lt_mul_of_pos_right lt p
    omega
  have or_ := move_or h l s hs h0 hb il
  have lm := lt_move (2 ^ s) p il lt
  rw [move_low l s hs] at lm
  have ml := move_low l s hs
  have a0 : 0 ≤ h * 2 ^ s := Int.mul_nonneg h0 (by omega)
  have l0 : 0 ≤ l / 2 ^ (64 - s) := Int.ediv_nonneg il.a (Int.le_of_lt (Int.pow_pos (by omega)))
  obtain ⟨v, hv⟩ : ∃ v, v = y * 2 ^ s := ⟨_, rfl⟩
  obtain ⟨u, hu⟩ : ∃ u, u = h * 2 ^ s + l / 2 ^ (64 - s) := ⟨_, rfl⟩
  obtain ⟨x, hx⟩ : ∃ x, x = IntKind.u64.wrap (l * 2 ^ s) := ⟨_, rfl⟩
  have x0 : 0 ≤ x := by rw [hx, IntKind.wrap_u64]; omega
  have x1 : x < 18446744073709551616 := by rw [hx, IntKind.wrap_u64]; omega
  rw [← hu] at or_ lm
  rw [← hv] at lm v0 v1
  have n : Norm v (v / 4294967296) (v % 4294967296) := ⟨by omega, by omega, by omega, by omega, by omega⟩
  have u0 : 0 ≤ u := by omega
  have hp := n.pos
  have D1 := dig_start n u0 lm (show 0 ≤ x / 4294967296 by omega) (show x / 4294967296 < 4294967296 by omega)
  have t0 := Int.emod_nonneg (u * 4294967296 + x / 4294967296) (show v ≠ 0 by omega)
  have t1 := Int.emod_lt_of_pos (u * 4294967296 + x / 4294967296) hp
  have ld1 := left_digit u0 (show 0 ≤ x / 4294967296 by omega) hp v1
  have em1 := Int.emod_def (u * 4294967296 + x / 4294967296) v
  rw [Int.mul_comm v] at em1
  have q1a := digit_nonneg u0 (show 0 ≤ x / 4294967296 by omega) hp
  have q1b := digit_lt lm (show x / 4294967296 < 4294967296 by omega) hp
  have two := two_digits (N := V h l) (y := y) (p := 2 ^ s) (v := v) (x1 := x / 4294967296) (x0 := x % 4294967296) p (by omega) hv (u := u) (by
    have e1 : V h l * 2 ^ s = h * 2 ^ s * 18446744073709551616 + l * 2 ^ s := by unfold V; rw [Int.add_mul, Int.mul_right_comm]
    have e2 : x = l * 2 ^ s % 18446744073709551616 := by rw [hx, IntKind.wrap_u64]
    generalize l * 2 ^ s = z at *
    generalize h * 2 ^ s = z' at *
    omega) (by omega) (by omega)
  obtain ⟨t, ht⟩ : ∃ t, t = (u * 4294967296 + x / 4294967296) % v := ⟨_, rfl⟩
  obtain ⟨Q1, hQ1⟩ : ∃ z, z = (u * 4294967296 + x / 4294967296) / v := ⟨_, rfl⟩
  rw [← ht] at t0 t1 em1 two
  rw [← hQ1] at em1 two q1a q1b
  rw [← hQ1, ← ht] at ld1
  have D2 := dig_start n t0 t1 (show 0 ≤ x % 4294967296 by omega) (show x % 4294967296 < 4294967296 by omega)
  have ld2 := left_digit t0 (show 0 ≤ x % 4294967296 by omega) hp v1
  have em2 := Int.emod_def (t * 4294967296 + x % 4294967296) v
  rw [Int.mul_comm v] at em2
  have r0 := Int.emod_nonneg (t * 4294967296 + x % 4294967296) (show v ≠ 0 by omega)
  have q0a := digit_nonneg t0 (show 0 ≤ x % 4294967296 by omega) hp
  have q0b := digit_lt t1 (show x % 4294967296 < 4294967296 by omega) hp
  obtain ⟨Q0, hQ0⟩ : ∃ z, z = (t * 4294967296 + x % 4294967296) / v := ⟨_, rfl⟩
  rw [← hQ0] at em2 two q0a q0b ld2
  rw [← two.1, ← two.2]
  have ml1 := mod_left (u := u) (d := x / 4294967296) (q := Q1) (v := v) (by omega)
  have ml2 := mod_left (u := t) (d := x % 4294967296) (q := Q0) (v := v) (by omega)
  refine div64_walk h l y v _ _ u x _ _ _ _ _ Q1 _ _ _ t _ _ _ Q0 _ _ _ _ _ _ _ s (by simpa using y0) (by omega) (by simpa using hz) hs (by omega) ks (by rw [← hv]; exact wrap_in (by omega) v1) rfl (and_low32 v (by omega) v1) or_ hx.symm rfl (and_low32 x x0 x1)
    rfl rfl rfl rfl rfl rfl ?_ rfl rfl rfl rfl ?_ rfl rfl rfl ?_ rfl D1 hQ1 D2 hQ0 w
  · rw [ml1]; omega
  · rw [wrap_in (show 0 ≤ Q1 * 4294967296 by omega) (by omega)]; exact wrap_in (by omega) (by omega)
  · rw [ml2]; exact em2.symm
end Go.Proofs.Ytebiddmadmmfpaa
/- wide.divideBy. -/
namespace Go.Proofs.Ytebiddmadmmfpaa
set_option linter.unusedVariables false
open Go.RowKit W
set_option maxHeartbeats 1000000 in
theorem divideBy_walk (m1 m0 d q1 q0 r1 r0 : Int)
    (c1 : ∀ w, Calls Try.prog 75 #[.int .u64 0, .int .u64 m1, .int .u64 d] w fun e w' => e = .returned (.tuple #[.int .u64 q1, .int .u64 r1]) ∧ Below w.heap.size w w')
    (c2 : ∀ w, Calls Try.prog 75 #[.int .u64 r1, .int .u64 m0, .int .u64 d] w fun e w' => e = .returned (.tuple #[.int .u64 q0, .int .u64 r0]) ∧ Below w.heap.size w w') (w : World) :
    Calls Try.prog 73 #[.agg #[.int .u64 m0, .int .u64 m1], .int .u64 d] w fun e w' => e = .returned (.tuple #[.agg #[.int .u64 q0, .int .u64 q1], .int .u64 r0]) ∧ Below w.heap.size w w' := by
  go_enter Try.func73, Try.ntmps73
  go_wp2_with fail
  refine (c1 _).mono ?_
  rintro e w1 ⟨rfl, hb⟩
  obtain ⟨khb0, fhb0, zhb0⟩ := live (.int .u64 m0) hb (w.heap.size) 0 (by simp; try omega) (by simp [go_sem]) (by simp [go_sem]); obtain ⟨khb1, fhb1, zhb1⟩ := live (.int .u64 0) hb (w.heap.size + 1) 0 (by simp; try omega) (by simp [go_sem]) (by simp [go_sem]); obtain ⟨khb2, fhb2, zhb2⟩ := live (.int .u64 0) hb (w.heap.size + 1) 1 (by simp; try omega) (by simp [go_sem]) (by simp [go_sem]); obtain ⟨khb3, fhb3, zhb3⟩ := live (.int .u64 0) hb (w.heap.size + 1 + 1) 0 (by simp; try omega) (by simp [go_sem]) (by simp [go_sem]); obtain ⟨khb4, fhb4, zhb4⟩ := live (.int .u64 0) hb (w.heap.size + 1 + 1) 1 (by simp; try omega) (by simp [go_sem]) (by simp [go_sem])
  have B0 : Below w.heap.size w w1 := Below.trans (by go_grown) (hb.mono (by simp; omega))
  clear hb c1
  go_wp2_with fail
  refine (c2 _).mono ?_
  rintro e w2 ⟨rfl, hc⟩
  obtain ⟨k0, f0, z0⟩ := live (.int .u64 0) hc (w.heap.size + 1) 0 (by simp; omega) (by simp [go_sem, khb1]) (by simp [go_sem, fhb1])
  obtain ⟨k1, f1, z1⟩ := live (.int .u64 0) hc (w.heap.size + 1) 1 (by simp; omega) (by simp [go_sem, khb2]) (by simp [go_sem, fhb2])
  obtain ⟨k2, f2, z2⟩ := live (.int .u64 0) hc (w.heap.size + 1 + 1) 0 (by simp; omega) (by simp [go_sem, khb3]) (by simp [go_sem, fhb3])
  obtain ⟨k3, f3, z3⟩ := live (.int .u64 q1) hc (w.heap.size + 1 + 1) 1 (by simp; omega) (by simp [go_sem, khb4]) (by simp [go_sem, fhb4])
  have B1 : Below w.heap.size w w2 := Below.trans (by go_grown) (hc.mono (by simp; omega))
  clear hc
  go_wp2_with fail
  refine bodyPost_ret (by simp [results, Try.results73, go_sem, k0, k1]; try rfl) rfl ?_
  exact ⟨rfl, by go_grown⟩
theorem two_words {a1 a0 d : Int} (hd : 0 < d) (i1 : IsLo a1) (i0 : IsLo a0) :
    a1 / d = hi (V a1 a0 / d) ∧ V (a1 % d) a0 / d = lo (V a1 a0 / d) ∧ V (a1 % d) a0 % d = V a1 a0 % d := by
  obtain ⟨_, _⟩ := i1; obtain ⟨_, _⟩ := i0
  have e := Int.mul_ediv_add_emod a1 d
  have r0 := Int.emod_nonneg a1 (show d ≠ 0 by omega)
  have r1 := Int.emod_lt_of_pos a1 hd
  have q0 : 0 ≤ V (a1 % d) a0 / d := Int.ediv_nonneg (by unfold V; omega) (by omega)
  have q1 : V (a1 % d) a0 / d < 18446744073709551616 := Int.ediv_lt_of_lt_mul hd (by unfold V; omega)
  have s : V a1 a0 = V (a1 % d) a0 + d * (a1 / d * 18446744073709551616) := by
    rw [← Int.mul_assoc]; unfold V; omega
  have dd : V a1 a0 / d = a1 / d * 18446744073709551616 + V (a1 % d) a0 / d := by rw [s, Int.add_mul_ediv_left _ _ (by omega)]; omega
  refine ⟨by rw [dd]; unfold hi; omega, by rw [dd]; unfold lo; omega, ?_⟩
  rw [s, Int.add_mul_emod_self_left]
theorem divideBy_spec (a1 a0 d : Int) (i1 : IsLo a1) (i0 : IsLo a0) (id : IsLo d) (n : d ≠ 0) (w : World) :
    Calls Try.prog 73 #[.agg #[.int .u64 a0, .int .u64 a1], .int .u64 d] w fun e w' => e = .returned (.tuple #[.agg #[.int .u64 (lo (V a1 a0 / d)), .int .u64 (hi (V a1 a0 / d))], .int .u64 (V a1 a0 % d)]) ∧ Below w.heap.size w w' := by
  have hd : 0 < d := by have := id.a; omega
  obtain ⟨e1, e2, e3⟩ := two_words hd i1 i0
  have r0 := Int.emod_nonneg a1 (show d ≠ 0 by omega)
  have r1 := Int.emod_lt_of_pos a1 hd
  rw [← e1, ← e2, ← e3]
  have c1 := div64_spec 0 a1 d isLo_0 i1 id hd
  rw [show V 0 a1 = a1 by unfold V; omega] at c1
  have c2 := div64_spec (a1 % d) a0 d ⟨r0, by have := id.b; omega⟩ i0 id r1
  exact divideBy_walk a1 a0 d _ _ _ _ c1 c2 w
end Go.Proofs.Ytebiddmadmmfpaa
/- Plain numbers: quotients cut towards nought; a divisor of two words. No Go in sight. -/
namespace Go.Proofs.Ytebiddmadmmfpaa
set_option linter.unusedVariables false
namespace W
theorem tdiv_sg (x y : Int) : Int.tdiv x y = sg (decide (x < 0) != decide (y < 0)) (ab x / ab y) := by
  unfold sg ab
  by_cases h : x < 0 <;> by_cases g : y < 0 <;> simp only [h, g, decide_true, decide_false, bne_self_eq_false, if_true, if_false, Bool.false_bne, Bool.true_bne, Bool.not_false, Bool.false_eq_true]
  · rw [← Int.tdiv_eq_ediv_of_nonneg (by omega), Int.neg_tdiv, Int.tdiv_neg, Int.neg_neg]
  · rw [← Int.tdiv_eq_ediv_of_nonneg (by omega), Int.neg_tdiv, Int.neg_neg]
  · rw [← Int.tdiv_eq_ediv_of_nonneg (by omega), Int.tdiv_neg, Int.neg_neg]
  · rw [← Int.tdiv_eq_ediv_of_nonneg (by omega)]
theorem tmod_sg (x y : Int) : Int.tmod x y = sg (decide (x < 0)) (ab x % ab y) := by
  unfold sg ab
  by_cases h : x < 0 <;> by_cases g : y < 0 <;> simp only [h, g, decide_true, decide_false, if_true, if_false, Bool.false_eq_true]
  · rw [← Int.tmod_eq_emod_of_nonneg (by omega), Int.neg_tmod, Int.tmod_neg, Int.neg_neg]
  · rw [← Int.tmod_eq_emod_of_nonneg (by omega), Int.neg_tmod, Int.neg_neg]
  · rw [← Int.tmod_eq_emod_of_nonneg (by omega), Int.tmod_neg]
  · rw [← Int.tmod_eq_emod_of_nonneg (by omega)]
theorem ab_nonneg (x : Int) : 0 ≤ ab x := by unfold ab; split <;> omega
theorem ab_gt0 {x : Int} (h : x ≠ 0) : 0 < ab x := by unfold ab; split <;> omega
theorem sg_fits {n : Bool} {m : Int} (a : 0 ≤ m) (b : m < 170141183460469231731687303715884105728) : Fits (sg n m) := by
  unfold sg; cases n <;> exact ⟨by simp; omega, by simp; omega⟩
theorem tmod_fits {x y : Int} (f : Fits x) (g : Fits y) (h : y ≠ 0) : Fits (Int.tmod x y) := by
  rw [tmod_sg]
  have p := ab_gt0 h
  have a := Int.emod_nonneg (ab x) (show ab y ≠ 0 by omega)
  have b := Int.emod_lt_of_pos (ab x) p
  have c : ab y ≤ 170141183460469231731687303715884105728 := by obtain ⟨_, _⟩ := g; unfold ab; split <;> omega
  exact sg_fits a (by omega)
/-- The highest 64 bits of a divisor as a divisor: the quotient is not too small, and at most one too great. -/
theorem high_try {A B D P t e h : Int} (a0 : 0 ≤ A) (a1 : A < 340282366920938463463374607431768211456) (hD : D = h * P) (h0 : 9223372036854775808 ≤ h) (hP : P = 2 ∨ 4 ≤ P)
    (eB : B = D + e) (e0 : 0 ≤ e) (e1 : e < P) (ht : t = A / D) : A / B ≤ t ∧ t ≤ A / B + 1 := by
  have p0 : 0 < P := by omega
  have d1 : 9223372036854775808 * P ≤ D := by rw [hD]; exact Int.mul_le_mul_of_nonneg_right h0 (by omega)
  have d0 : 0 < D := by omega
  have b0 : 0 < B := by omega
  have t0 : 0 ≤ t := by rw [ht]; exact Int.ediv_nonneg a0 (by omega)
  have tD : t * D ≤ A := by rw [ht]; exact Int.ediv_mul_le A (by omega)
  have tA : A < (t + 1) * D := by rw [ht]; exact Int.lt_ediv_add_one_mul_self A d0
  have tB : A < (t + 1) * B := by
    have : (t + 1) * B = (t + 1) * D + (t + 1) * e := by rw [eB, Int.mul_add]
    have : 0 ≤ (t + 1) * e := Int.mul_nonneg (by omega) e0
    omega
  refine ⟨by have := Int.ediv_lt_of_lt_mul b0 tB; omega, ?_⟩
  have tP : t * P ≤ 36893488147419103232 := by
    have h1 : t * (9223372036854775808 * P) ≤ t * D := Int.mul_le_mul_of_nonneg_left d1 t0
    have h2 : t * (9223372036854775808 * P) = 9223372036854775808 * (t * P) := by rw [Int.mul_left_comm]
    omega
  have te : t * e ≤ D := by
    have h1 : t * e ≤ t * (P - 1) := Int.mul_le_mul_of_nonneg_left (by omega) t0
    have h2 : t * (P - 1) = t * P - t := by rw [Int.mul_sub, Int.mul_one]
    rcases hP with hP | hP
    · subst hP; omega
    · omega
  have k : t - 1 ≤ A / B := Int.le_ediv_of_mul_le b0 (by
    have : (t - 1) * B = t * D + t * e - D - e := by rw [eB, Int.sub_mul, Int.mul_add, Int.one_mul]; omega
    omega)
  omega
/-- What stands behind the quotient that was tried. -/
theorem tried {A B q : Int} (a0 : 0 ≤ A) (b0 : 0 < B) (q0 : q = A / B ∨ q = A / B - 1) : 0 ≤ A - q * B ∧ A - q * B < 2 * B ∧
    (A - q * B < B → q = A / B ∧ A - q * B = A % B) ∧ (¬ A - q * B < B → q + 1 = A / B ∧ A - q * B - B = A % B) := by
  have e := Int.mul_ediv_add_emod A B
  have r0 := Int.emod_nonneg A (show B ≠ 0 by omega)
  have r1 := Int.emod_lt_of_pos A b0
  rw [Int.mul_comm] at e
  rcases q0 with h | h
  · rw [h]; refine ⟨by omega, by omega, fun _ => ⟨rfl, by omega⟩, fun g => by omega⟩
  · have : q * B = A / B * B - B := by rw [h, Int.sub_mul, Int.one_mul]
    refine ⟨by omega, by omega, fun g => by omega, fun g => ⟨by omega, by omega⟩⟩
end W
end Go.Proofs.Ytebiddmadmmfpaa
/- wide: below: what the call does. -/
namespace Go.Proofs.Ytebiddmadmmfpaa
set_option linter.unusedVariables false
open Go.RowKit W
set_option maxHeartbeats 800000 in
theorem below_spec (a1 a0 b1 b0 : Int) (i : IsLo a0) (j : IsLo b0) (w : World) :
    Calls Try.prog 76 #[.agg #[.int .u64 a0, .int .u64 a1], .agg #[.int .u64 b0, .int .u64 b1]] w
      fun e w' => e = .returned (.bool (decide (V a1 a0 < V b1 b0))) ∧ Below w.heap.size w w' := by
  go_enter Try.func76, Try.ntmps76
  go_wp2
  · go_ret
    have e : decide (V a1 a0 < V b1 b0) = decide (a0 < b0) := by rw [decide_eq_decide]; obtain ⟨_, _⟩ := i; obtain ⟨_, _⟩ := j; unfold V; omega
    exact ⟨ret_bool (by rw [e]), by go_grown⟩
  · go_ret
    have e : decide (V a1 a0 < V b1 b0) = false := by rw [decide_eq_false_iff_not]; obtain ⟨_, _⟩ := i; obtain ⟨_, _⟩ := j; unfold V; omega
    exact ⟨ret_bool (by rw [e]; simp; omega), by go_grown⟩
  · go_ret
    have e : decide (V a1 a0 < V b1 b0) = true := by rw [decide_eq_true_eq]; obtain ⟨_, _⟩ := i; obtain ⟨_, _⟩ := j; unfold V; omega
    exact ⟨ret_bool (by rw [e]), by go_grown⟩
end Go.Proofs.Ytebiddmadmmfpaa
/- wide.divide. -/
namespace Go.Proofs.Ytebiddmadmmfpaa
set_option linter.unusedVariables false
open Go.RowKit W
set_option maxHeartbeats 2000000 in
theorem divide_low (a1 a0 b0 q1 q0 r : Int)
    (c : ∀ w, Calls Try.prog 73 #[.agg #[.int .u64 a0, .int .u64 a1], .int .u64 b0] w fun e w' => e = .returned (.tuple #[.agg #[.int .u64 q0, .int .u64 q1], .int .u64 r]) ∧ Below w.heap.size w w') (w : World) :
    Calls Try.prog 51 #[.agg #[.int .u64 a0, .int .u64 a1], .agg #[.int .u64 b0, .int .u64 0]] w
      fun e w' => e = .returned (.tuple #[.agg #[.int .u64 q0, .int .u64 q1], .agg #[.int .u64 r, .int .u64 0]]) ∧ Below w.heap.size w w' := by
  go_enter Try.func51, Try.ntmps51
  go_wp2_with fail
  refine (c _).mono ?_
  rintro e w1 ⟨rfl, hb⟩
  have B0 : Below w.heap.size w w1 := Below.trans (by go_grown) (hb.mono (by simp; omega))
  have A0 := box2 hb (w.heap.size + 1 + 1) (.int .u64 0) (.int .u64 0) (by first | assumption | (simp [go_sem]; done) | (simp [go_sem]; done)) (by first | assumption | (simp [go_sem]; done) | (simp [go_sem]; done)) (by first | assumption | (simp [go_sem]; done) | (simp [go_sem]; done)) (by first | assumption | (simp [go_sem]; done) | (simp [go_sem]; done)) (by first | assumption | omega | (simp; done) | (simp; omega))
  have A1 := box2 hb (w.heap.size + 1 + 1 + 1) (.int .u64 0) (.int .u64 0) (by first | assumption | (simp [go_sem]; done) | (simp [go_sem]; done)) (by first | assumption | (simp [go_sem]; done) | (simp [go_sem]; done)) (by first | assumption | (simp [go_sem]; done) | (simp [go_sem]; done)) (by first | assumption | (simp [go_sem]; done) | (simp [go_sem]; done)) (by first | assumption | omega | (simp; done) | (simp; omega))
  obtain ⟨A0c0, A0c1, A0f0, A0f1, A0z⟩ := A0
  obtain ⟨A1c0, A1c1, A1f0, A1f1, A1z⟩ := A1
  clear hb c
  go_wp2_with fail
  refine bodyPost_ret (by simp [results, Try.results51, go_sem, A0c0, A0c1, A1c0, A1c1, A0z, A1z]; try rfl) rfl ?_
  exact ⟨rfl, by go_grown⟩
set_option maxHeartbeats 8000000 in
theorem divide_high_t (a1 a0 b1 b0 al high t1 t2 t p q1 q0 r1 r0 : Int) (ok : Bool) (n1 : (b1 == 0) = false) (s : Nat) (hs : s < 64)
    (ea : bits .or .u64 (IntKind.u64.wrap (a1 * 9223372036854775808)) (a0 / 2) = al) (eh : bits .or .u64 (IntKind.u64.wrap (b1 * 2 ^ s)) (b0 / 2 / 2 ^ (63 - s)) = high) (et : t1 / 2 ^ (63 - s) = t)
    (hp : Hid ((t ≠ 0 ∧ IntKind.u64.wrap (t - 1) = p) ∨ (t = 0 ∧ p = 0)))
    (ks : ∀ w, Calls Try.prog 74 #[.int .u64 b1] w fun e w' => e = .returned (.int .i64 s) ∧ w = w')
    (kd : ∀ w, Calls Try.prog 75 #[.int .u64 (a1 / 2), .int .u64 al, .int .u64 high] w fun e w' => e = .returned (.tuple #[.int .u64 t1, .int .u64 t2]) ∧ Below w.heap.size w w')
    (kt : ∀ w, Calls Try.prog 53 #[.agg #[.int .u64 b0, .int .u64 b1], .agg #[.int .u64 p, .int .u64 0]] w fun e w' => e = .returned (.tuple #[.agg #[.int .u64 q0, .int .u64 q1], .bool ok]) ∧ Below w.heap.size w w')
    (km : ∀ w, Calls Try.prog 72 #[.agg #[.int .u64 a0, .int .u64 a1], .agg #[.int .u64 q0, .int .u64 q1]] w fun e w' => e = .returned (.agg #[.int .u64 r0, .int .u64 r1]) ∧ Below w.heap.size w w')
    (kb : ∀ w, Calls Try.prog 76 #[.agg #[.int .u64 r0, .int .u64 r1], .agg #[.int .u64 b0, .int .u64 b1]] w fun e w' => e = .returned (.bool true) ∧ Below w.heap.size w w')
    (w : World) : Calls Try.prog 51 #[.agg #[.int .u64 a0, .int .u64 a1], .agg #[.int .u64 b0, .int .u64 b1]] w fun e w' => e = .returned (.tuple #[.agg #[.int .u64 p, .int .u64 0], .agg #[.int .u64 r0, .int .u64 r1]]) ∧ Below w.heap.size w w' := by
  go_enter Try.func51, Try.ntmps51
  go_wp2_with fail
  refine (ks _).mono ?_
  rintro e w1 ⟨rfl, rfl⟩
  go_wp2_with fail
  refine (kd _).mono ?_
  rintro e w1 ⟨rfl, hb⟩
  have B0 : Below w.heap.size w w1 := Below.trans (by go_grown) (hb.mono (by simp; omega))
  have y0 := B0.size
  have A0 := box2 hb (w.heap.size) (.int .u64 a0) (.int .u64 a1) (by first | assumption | (simp [go_sem]; done) | (simp [go_sem]; done)) (by first | assumption | (simp [go_sem]; done) | (simp [go_sem]; done)) (by first | assumption | (simp [go_sem]; done) | (simp [go_sem]; done)) (by first | assumption | (simp [go_sem]; done) | (simp [go_sem]; done)) (by first | assumption | omega | (simp; done) | (simp; omega))
  have A1 := box2 hb (w.heap.size + 1) (.int .u64 b0) (.int .u64 b1) (by first | assumption | (simp [go_sem]; done) | (simp [go_sem]; done)) (by first | assumption | (simp [go_sem]; done) | (simp [go_sem]; done)) (by first | assumption | (simp [go_sem]; done) | (simp [go_sem]; done)) (by first | assumption | (simp [go_sem]; done) | (simp [go_sem]; done)) (by first | assumption | omega | (simp; done) | (simp; omega))
  have A2 := box2 hb (w.heap.size + 1 + 1) (.int .u64 0) (.int .u64 0) (by first | assumption | (simp [go_sem]; done) | (simp [go_sem]; done)) (by first | assumption | (simp [go_sem]; done) | (simp [go_sem]; done)) (by first | assumption | (simp [go_sem]; done) | (simp [go_sem]; done)) (by first | assumption | (simp [go_sem]; done) | (simp [go_sem]; done)) (by first | assumption | omega | (simp; done) | (simp; omega))
  have A3 := box2 hb (w.heap.size + 1 + 1 + 1) (.int .u64 0) (.int .u64 0) (by first | assumption | (simp [go_sem]; done) | (simp [go_sem]; done)) (by first | assumption | (simp [go_sem]; done) | (simp [go_sem]; done)) (by first | assumption | (simp [go_sem]; done) | (simp [go_sem]; done)) (by first | assumption | (simp [go_sem]; done) | (simp [go_sem]; done)) (by first | assumption | omega | (simp; done) | (simp; omega))
  obtain ⟨A0c0, A0c1, A0f0, A0f1, A0z⟩ := A0
  obtain ⟨A1c0, A1c1, A1f0, A1f1, A1z⟩ := A1
  obtain ⟨A2c0, A2c1, A2f0, A2f1, A2z⟩ := A2
  obtain ⟨A3c0, A3c1, A3f0, A3f1, A3z⟩ := A3
  clear hb kd ks
  rcases hp.out with ⟨t0, tp⟩ | ⟨rfl, rfl⟩
  · have t0' : (t != 0) = true := by simpa using t0
    go_wp2_with fail
    refine (kt _).mono ?_
    rintro e w2 ⟨rfl, hb⟩
    have B1 : Below w.heap.size w w2 := B0.trans (hb.mono B0.size)
    have y1 := B1.size
    have C0 := box2 hb (w.heap.size) (.int .u64 a0) (.int .u64 a1) (by first | assumption | (refine (Below.cell ?_ A0z).trans A0c0; go_grown; done) | (simp [go_sem, A0c0]; done) | (simp [go_sem, A0c0, A0z]; done) | (simp [go_sem, A0c0, A0c1, A0f0, A0f1, A0z, A1c0, A1c1, A1f0, A1f1, A1z, A2c0, A2c1, A2f0, A2f1, A2z, A3c0, A3c1, A3f0, A3f1, A3z]; done)) (by first | assumption | (refine (Below.cell ?_ A0z).trans A0c1; go_grown; done) | (simp [go_sem, A0c1]; done) | (simp [go_sem, A0c1, A0z]; done) | (simp [go_sem, A0c0, A0c1, A0f0, A0f1, A0z, A1c0, A1c1, A1f0, A1f1, A1z, A2c0, A2c1, A2f0, A2f1, A2z, A3c0, A3c1, A3f0, A3f1, A3z]; done)) (by first | assumption | (refine (Below.frozen ?_ A0z).trans A0f0; go_grown; done) | (simp [go_sem, A0f0]; done) | (simp [go_sem, A0f0, A0z]; done) | (simp [go_sem, A0c0, A0c1, A0f0, A0f1, A0z, A1c0, A1c1, A1f0, A1f1, A1z, A2c0, A2c1, A2f0, A2f1, A2z, A3c0, A3c1, A3f0, A3f1, A3z]; done)) (by first | assumption | (refine (Below.frozen ?_ A0z).trans A0f1; go_grown; done) | (simp [go_sem, A0f1]; done) | (simp [go_sem, A0f1, A0z]; done) | (simp [go_sem, A0c0, A0c1, A0f0, A0f1, A0z, A1c0, A1c1, A1f0, A1f1, A1z, A2c0, A2c1, A2f0, A2f1, A2z, A3c0, A3c1, A3f0, A3f1, A3z]; done)) (by first | assumption | omega | (simp; done) | (simp; omega))
    have C1 := box2 hb (w.heap.size + 1) (.int .u64 b0) (.int .u64 b1) (by first | assumption | (refine (Below.cell ?_ A1z).trans A1c0; go_grown; done) | (simp [go_sem, A1c0]; done) | (simp [go_sem, A1c0, A1z]; done) | (simp [go_sem, A0c0, A0c1, A0f0, A0f1, A0z, A1c0, A1c1, A1f0, A1f1, A1z, A2c0, A2c1, A2f0, A2f1, A2z, A3c0, A3c1, A3f0, A3f1, A3z]; done)) (by first | assumption | (refine (Below.cell ?_ A1z).trans A1c1; go_grown; done) | (simp [go_sem, A1c1]; done) | (simp [go_sem, A1c1, A1z]; done) | (simp [go_sem, A0c0, A0c1, A0f0, A0f1, A0z, A1c0, A1c1, A1f0, A1f1, A1z, A2c0, A2c1, A2f0, A2f1, A2z, A3c0, A3c1, A3f0, A3f1, A3z]; done)) (by first | assumption | (refine (Below.frozen ?_ A1z).trans A1f0; go_grown; done) | (simp [go_sem, A1f0]; done) | (simp [go_sem, A1f0, A1z]; done) | (simp [go_sem, A0c0, A0c1, A0f0, A0f1, A0z, A1c0, A1c1, A1f0, A1f1, A1z, A2c0, A2c1, A2f0, A2f1, A2z, A3c0, A3c1, A3f0, A3f1, A3z]; done)) (by first | assumption | (refine (Below.frozen ?_ A1z).trans A1f1; go_grown; done) | (simp [go_sem, A1f1]; done) | (simp [go_sem, A1f1, A1z]; done) | (simp [go_sem, A0c0, A0c1, A0f0, A0f1, A0z, A1c0, A1c1, A1f0, A1f1, A1z, A2c0, A2c1, A2f0, A2f1, A2z, A3c0, A3c1, A3f0, A3f1, A3z]; done)) (by first | assumption | omega | (simp; done) | (simp; omega))
    have C2 := box2 hb (w.heap.size + 1 + 1) (.int .u64 0) (.int .u64 0) (by first | assumption | (refine (Below.cell ?_ A2z).trans A2c0; go_grown; done) | (simp [go_sem, A2c0]; done) | (simp [go_sem, A2c0, A2z]; done) | (simp [go_sem, A0c0, A0c1, A0f0, A0f1, A0z, A1c0, A1c1, A1f0, A1f1, A1z, A2c0, A2c1, A2f0, A2f1, A2z, A3c0, A3c1, A3f0, A3f1, A3z]; done)) (by first | assumption | (refine (Below.cell ?_ A2z).trans A2c1; go_grown; done) | (simp [go_sem, A2c1]; done) | (simp [go_sem, A2c1, A2z]; done) | (simp [go_sem, A0c0, A0c1, A0f0, A0f1, A0z, A1c0, A1c1, A1f0, A1f1, A1z, A2c0, A2c1, A2f0, A2f1, A2z, A3c0, A3c1, A3f0, A3f1, A3z]; done)) (by first | assumption | (refine (Below.frozen ?_ A2z).trans A2f0; go_grown; done) | (simp [go_sem, A2f0]; done) | (simp [go_sem, A2f0, A2z]; done) | (simp [go_sem, A0c0, A0c1, A0f0, A0f1, A0z, A1c0, A1c1, A1f0, A1f1, A1z, A2c0, A2c1, A2f0, A2f1, A2z, A3c0, A3c1, A3f0, A3f1, A3z]; done)) (by first | assumption | (refine (Below.frozen ?_ A2z).trans A2f1; go_grown; done) | (simp [go_sem, A2f1]; done) | (simp [go_sem, A2f1, A2z]; done) | (simp [go_sem, A0c0, A0c1, A0f0, A0f1, A0z, A1c0, A1c1, A1f0, A1f1, A1z, A2c0, A2c1, A2f0, A2f1, A2z, A3c0, A3c1, A3f0, A3f1, A3z]; done)) (by first | assumption | omega | (simp; done) | (simp; omega))
    have C3 := box2 hb (w.heap.size + 1 + 1 + 1) (.int .u64 0) (.int .u64 0) (by first | assumption | (refine (Below.cell ?_ A3z).trans A3c0; go_grown; done) | (simp [go_sem, A3c0]; done) | (simp [go_sem, A3c0, A3z]; done) | (simp [go_sem, A0c0, A0c1, A0f0, A0f1, A0z, A1c0, A1c1, A1f0, A1f1, A1z, A2c0, A2c1, A2f0, A2f1, A2z, A3c0, A3c1, A3f0, A3f1, A3z]; done)) (by first | assumption | (refine (Below.cell ?_ A3z).trans A3c1; go_grown; done) | (simp [go_sem, A3c1]; done) | (simp [go_sem, A3c1, A3z]; done) | (simp [go_sem, A0c0, A0c1, A0f0, A0f1, A0z, A1c0, A1c1, A1f0, A1f1, A1z, A2c0, A2c1, A2f0, A2f1, A2z, A3c0, A3c1, A3f0, A3f1, A3z]; done)) (by first | assumption | (refine (Below.frozen ?_ A3z).trans A3f0; go_grown; done) | (simp [go_sem, A3f0]; done) | (simp [go_sem, A3f0, A3z]; done) | (simp [go_sem, A0c0, A0c1, A0f0, A0f1, A0z, A1c0, A1c1, A1f0, A1f1, A1z, A2c0, A2c1, A2f0, A2f1, A2z, A3c0, A3c1, A3f0, A3f1, A3z]; done)) (by first | assumption | (refine (Below.frozen ?_ A3z).trans A3f1; go_grown; done) | (simp [go_sem, A3f1]; done) | (simp [go_sem, A3f1, A3z]; done) | (simp [go_sem, A0c0, A0c1, A0f0, A0f1, A0z, A1c0, A1c1, A1f0, A1f1, A1z, A2c0, A2c1, A2f0, A2f1, A2z, A3c0, A3c1, A3f0, A3f1, A3z]; done)) (by first | assumption | omega | (simp; done) | (simp; omega))
    clear A0c0 A0c1 A0f0 A0f1 A0z A1c0 A1c1 A1f0 A1f1 A1z A2c0 A2c1 A2f0 A2f1 A2z A3c0 A3c1 A3f0 A3f1 A3z
    obtain ⟨C0c0, C0c1, C0f0, C0f1, C0z⟩ := C0
    obtain ⟨C1c0, C1c1, C1f0, C1f1, C1z⟩ := C1
    obtain ⟨C2c0, C2c1, C2f0, C2f1, C2z⟩ := C2
    obtain ⟨C3c0, C3c1, C3f0, C3f1, C3z⟩ := C3
    clear hb B0 kt
    go_wp2_with fail
    refine (km _).mono ?_
    rintro e w3 ⟨rfl, hb⟩
    have B2 : Below w.heap.size w w3 := Below.trans (by go_grown) (hb.mono (by first | (simp; done) | omega | (simp; omega)))
    have y2 := B2.size
    have D0 := box2 hb (w.heap.size + 1) (.int .u64 b0) (.int .u64 b1) (by first | assumption | (refine (Below.cell ?_ C1z).trans C1c0; go_grown; done) | (simp [go_sem, C1c0]; done) | (simp [go_sem, C1c0, C1z]; done) | (simp [go_sem, C0c0, C0c1, C0f0, C0f1, C0z, C1c0, C1c1, C1f0, C1f1, C1z, C2c0, C2c1, C2f0, C2f1, C2z, C3c0, C3c1, C3f0, C3f1, C3z]; done)) (by first | assumption | (refine (Below.cell ?_ C1z).trans C1c1; go_grown; done) | (simp [go_sem, C1c1]; done) | (simp [go_sem, C1c1, C1z]; done) | (simp [go_sem, C0c0, C0c1, C0f0, C0f1, C0z, C1c0, C1c1, C1f0, C1f1, C1z, C2c0, C2c1, C2f0, C2f1, C2z, C3c0, C3c1, C3f0, C3f1, C3z]; done)) (by first | assumption | (refine (Below.frozen ?_ C1z).trans C1f0; go_grown; done) | (simp [go_sem, C1f0]; done) | (simp [go_sem, C1f0, C1z]; done) | (simp [go_sem, C0c0, C0c1, C0f0, C0f1, C0z, C1c0, C1c1, C1f0, C1f1, C1z, C2c0, C2c1, C2f0, C2f1, C2z, C3c0, C3c1, C3f0, C3f1, C3z]; done)) (by first | assumption | (refine (Below.frozen ?_ C1z).trans C1f1; go_grown; done) | (simp [go_sem, C1f1]; done) | (simp [go_sem, C1f1, C1z]; done) | (simp [go_sem, C0c0, C0c1, C0f0, C0f1, C0z, C1c0, C1c1, C1f0, C1f1, C1z, C2c0, C2c1, C2f0, C2f1, C2z, C3c0, C3c1, C3f0, C3f1, C3z]; done)) (by first | assumption | omega | (simp; done) | (simp; omega))
    have D1 := box2 hb (w.heap.size + 1 + 1) (.int .u64 0) (.int .u64 0) (by first | assumption | (refine (Below.cell ?_ C2z).trans C2c0; go_grown; done) | (simp [go_sem, C2c0]; done) | (simp [go_sem, C2c0, C2z]; done) | (simp [go_sem, C0c0, C0c1, C0f0, C0f1, C0z, C1c0, C1c1, C1f0, C1f1, C1z, C2c0, C2c1, C2f0, C2f1, C2z, C3c0, C3c1, C3f0, C3f1, C3z]; done)) (by first | assumption | (refine (Below.cell ?_ C2z).trans C2c1; go_grown; done) | (simp [go_sem, C2c1]; done) | (simp [go_sem, C2c1, C2z]; done) | (simp [go_sem, C0c0, C0c1, C0f0, C0f1, C0z, C1c0, C1c1, C1f0, C1f1, C1z, C2c0, C2c1, C2f0, C2f1, C2z, C3c0, C3c1, C3f0, C3f1, C3z]; done)) (by first | assumption | (refine (Below.frozen ?_ C2z).trans C2f0; go_grown; done) | (simp [go_sem, C2f0]; done) | (simp [go_sem, C2f0, C2z]; done) | (simp [go_sem, C0c0, C0c1, C0f0, C0f1, C0z, C1c0, C1c1, C1f0, C1f1, C1z, C2c0, C2c1, C2f0, C2f1, C2z, C3c0, C3c1, C3f0, C3f1, C3z]; done)) (by first | assumption | (refine (Below.frozen ?_ C2z).trans C2f1; go_grown; done) | (simp [go_sem, C2f1]; done) | (simp [go_sem, C2f1, C2z]; done) | (simp [go_sem, C0c0, C0c1, C0f0, C0f1, C0z, C1c0, C1c1, C1f0, C1f1, C1z, C2c0, C2c1, C2f0, C2f1, C2z, C3c0, C3c1, C3f0, C3f1, C3z]; done)) (by first | assumption | omega | (simp; done) | (simp; omega))
    have D2 := box2 hb (w.heap.size + 1 + 1 + 1) (.int .u64 0) (.int .u64 0) (by first | assumption | (refine (Below.cell ?_ C3z).trans C3c0; go_grown; done) | (simp [go_sem, C3c0]; done) | (simp [go_sem, C3c0, C3z]; done) | (simp [go_sem, C0c0, C0c1, C0f0, C0f1, C0z, C1c0, C1c1, C1f0, C1f1, C1z, C2c0, C2c1, C2f0, C2f1, C2z, C3c0, C3c1, C3f0, C3f1, C3z]; done)) (by first | assumption | (refine (Below.cell ?_ C3z).trans C3c1; go_grown; done) | (simp [go_sem, C3c1]; done) | (simp [go_sem, C3c1, C3z]; done) | (simp [go_sem, C0c0, C0c1, C0f0, C0f1, C0z, C1c0, C1c1, C1f0, C1f1, C1z, C2c0, C2c1, C2f0, C2f1, C2z, C3c0, C3c1, C3f0, C3f1, C3z]; done)) (by first | assumption | (refine (Below.frozen ?_ C3z).trans C3f0; go_grown; done) | (simp [go_sem, C3f0]; done) | (simp [go_sem, C3f0, C3z]; done) | (simp [go_sem, C0c0, C0c1, C0f0, C0f1, C0z, C1c0, C1c1, C1f0, C1f1, C1z, C2c0, C2c1, C2f0, C2f1, C2z, C3c0, C3c1, C3f0, C3f1, C3z]; done)) (by first | assumption | (refine (Below.frozen ?_ C3z).trans C3f1; go_grown; done) | (simp [go_sem, C3f1]; done) | (simp [go_sem, C3f1, C3z]; done) | (simp [go_sem, C0c0, C0c1, C0f0, C0f1, C0z, C1c0, C1c1, C1f0, C1f1, C1z, C2c0, C2c1, C2f0, C2f1, C2z, C3c0, C3c1, C3f0, C3f1, C3z]; done)) (by first | assumption | omega | (simp; done) | (simp; omega))
    clear C0c0 C0c1 C0f0 C0f1 C0z C1c0 C1c1 C1f0 C1f1 C1z C2c0 C2c1 C2f0 C2f1 C2z C3c0 C3c1 C3f0 C3f1 C3z
    obtain ⟨D0c0, D0c1, D0f0, D0f1, D0z⟩ := D0
    obtain ⟨D1c0, D1c1, D1f0, D1f1, D1z⟩ := D1
    obtain ⟨D2c0, D2c1, D2f0, D2f1, D2z⟩ := D2
    clear hb B1 km
    go_wp2_with fail
    refine (kb _).mono ?_
    rintro e w4 ⟨rfl, hb⟩
    have B3 : Below w.heap.size w w4 := Below.trans (by go_grown) (hb.mono (by first | (simp; done) | omega | (simp; omega)))
    have y3 := B3.size
    have ne1 : ¬ w.heap.size + 1 + 1 = w3.heap.size := by omega
    have ne2 : ¬ w.heap.size + 1 + 1 + 1 = w3.heap.size := by omega
    have ne3 : ¬ w3.heap.size = w.heap.size + 1 + 1 := by omega
    have ne4 : ¬ w3.heap.size = w.heap.size + 1 + 1 + 1 := by omega
    have E0 := box2 hb (w.heap.size + 1) (.int .u64 b0) (.int .u64 b1) (by first | assumption | (refine (Below.cell ?_ D0z).trans D0c0; go_grown; done) | (simp [go_sem, D0c0]; done) | (simp [go_sem, D0c0, D0z]; done) | (simp [go_sem, D0c0, D0c1, D0f0, D0f1, D0z, D1c0, D1c1, D1f0, D1f1, D1z, D2c0, D2c1, D2f0, D2f1, D2z]; done)) (by first | assumption | (refine (Below.cell ?_ D0z).trans D0c1; go_grown; done) | (simp [go_sem, D0c1]; done) | (simp [go_sem, D0c1, D0z]; done) | (simp [go_sem, D0c0, D0c1, D0f0, D0f1, D0z, D1c0, D1c1, D1f0, D1f1, D1z, D2c0, D2c1, D2f0, D2f1, D2z]; done)) (by first | assumption | (refine (Below.frozen ?_ D0z).trans D0f0; go_grown; done) | (simp [go_sem, D0f0]; done) | (simp [go_sem, D0f0, D0z]; done) | (simp [go_sem, D0c0, D0c1, D0f0, D0f1, D0z, D1c0, D1c1, D1f0, D1f1, D1z, D2c0, D2c1, D2f0, D2f1, D2z]; done)) (by first | assumption | (refine (Below.frozen ?_ D0z).trans D0f1; go_grown; done) | (simp [go_sem, D0f1]; done) | (simp [go_sem, D0f1, D0z]; done) | (simp [go_sem, D0c0, D0c1, D0f0, D0f1, D0z, D1c0, D1c1, D1f0, D1f1, D1z, D2c0, D2c1, D2f0, D2f1, D2z]; done)) (by first | assumption | omega | (simp; done) | (simp; omega))
    have E1 := box2 hb (w.heap.size + 1 + 1) (.int .u64 0) (.int .u64 0) (by first | assumption | (refine (Below.cell ?_ D1z).trans D1c0; go_grown; done) | (simp [go_sem, D1c0]; done) | (simp [go_sem, D1c0, D1z]; done) | (simp [go_sem, D0c0, D0c1, D0f0, D0f1, D0z, D1c0, D1c1, D1f0, D1f1, D1z, D2c0, D2c1, D2f0, D2f1, D2z]; done)) (by first | assumption | (refine (Below.cell ?_ D1z).trans D1c1; go_grown; done) | (simp [go_sem, D1c1]; done) | (simp [go_sem, D1c1, D1z]; done) | (simp [go_sem, D0c0, D0c1, D0f0, D0f1, D0z, D1c0, D1c1, D1f0, D1f1, D1z, D2c0, D2c1, D2f0, D2f1, D2z]; done)) (by first | assumption | (refine (Below.frozen ?_ D1z).trans D1f0; go_grown; done) | (simp [go_sem, D1f0]; done) | (simp [go_sem, D1f0, D1z]; done) | (simp [go_sem, D0c0, D0c1, D0f0, D0f1, D0z, D1c0, D1c1, D1f0, D1f1, D1z, D2c0, D2c1, D2f0, D2f1, D2z]; done)) (by first | assumption | (refine (Below.frozen ?_ D1z).trans D1f1; go_grown; done) | (simp [go_sem, D1f1]; done) | (simp [go_sem, D1f1, D1z]; done) | (simp [go_sem, D0c0, D0c1, D0f0, D0f1, D0z, D1c0, D1c1, D1f0, D1f1, D1z, D2c0, D2c1, D2f0, D2f1, D2z]; done)) (by first | assumption | omega | (simp; done) | (simp; omega))
    have E2 := box2 hb (w.heap.size + 1 + 1 + 1) (.int .u64 0) (.int .u64 0) (by first | assumption | (refine (Below.cell ?_ D2z).trans D2c0; go_grown; done) | (simp [go_sem, D2c0]; done) | (simp [go_sem, D2c0, D2z]; done) | (simp [go_sem, D0c0, D0c1, D0f0, D0f1, D0z, D1c0, D1c1, D1f0, D1f1, D1z, D2c0, D2c1, D2f0, D2f1, D2z]; done)) (by first | assumption | (refine (Below.cell ?_ D2z).trans D2c1; go_grown; done) | (simp [go_sem, D2c1]; done) | (simp [go_sem, D2c1, D2z]; done) | (simp [go_sem, D0c0, D0c1, D0f0, D0f1, D0z, D1c0, D1c1, D1f0, D1f1, D1z, D2c0, D2c1, D2f0, D2f1, D2z]; done)) (by first | assumption | (refine (Below.frozen ?_ D2z).trans D2f0; go_grown; done) | (simp [go_sem, D2f0]; done) | (simp [go_sem, D2f0, D2z]; done) | (simp [go_sem, D0c0, D0c1, D0f0, D0f1, D0z, D1c0, D1c1, D1f0, D1f1, D1z, D2c0, D2c1, D2f0, D2f1, D2z]; done)) (by first | assumption | (refine (Below.frozen ?_ D2z).trans D2f1; go_grown; done) | (simp [go_sem, D2f1]; done) | (simp [go_sem, D2f1, D2z]; done) | (simp [go_sem, D0c0, D0c1, D0f0, D0f1, D0z, D1c0, D1c1, D1f0, D1f1, D1z, D2c0, D2c1, D2f0, D2f1, D2z]; done)) (by first | assumption | omega | (simp; done) | (simp; omega))
    have E3 := box2 hb (w3.heap.size) (.int .u64 r0) (.int .u64 r1) (by first | assumption | (simp [go_sem]; done) | (simp [go_sem, D0c0, D0c1, D0f0, D0f1, D0z, D1c0, D1c1, D1f0, D1f1, D1z, D2c0, D2c1, D2f0, D2f1, D2z]; done)) (by first | assumption | (simp [go_sem]; done) | (simp [go_sem, D0c0, D0c1, D0f0, D0f1, D0z, D1c0, D1c1, D1f0, D1f1, D1z, D2c0, D2c1, D2f0, D2f1, D2z]; done)) (by first | assumption | (simp [go_sem]; done) | (simp [go_sem, D0c0, D0c1, D0f0, D0f1, D0z, D1c0, D1c1, D1f0, D1f1, D1z, D2c0, D2c1, D2f0, D2f1, D2z]; done)) (by first | assumption | (simp [go_sem]; done) | (simp [go_sem, D0c0, D0c1, D0f0, D0f1, D0z, D1c0, D1c1, D1f0, D1f1, D1z, D2c0, D2c1, D2f0, D2f1, D2z]; done)) (by first | assumption | omega | (simp; done) | (simp; omega))
    clear D0c0 D0c1 D0f0 D0f1 D0z D1c0 D1c1 D1f0 D1f1 D1z D2c0 D2c1 D2f0 D2f1 D2z
    obtain ⟨E0c0, E0c1, E0f0, E0f1, E0z⟩ := E0
    obtain ⟨E1c0, E1c1, E1f0, E1f1, E1z⟩ := E1
    obtain ⟨E2c0, E2c1, E2f0, E2f1, E2z⟩ := E2
    obtain ⟨E3c0, E3c1, E3f0, E3f1, E3z⟩ := E3
    clear hb B2 kb
    go_wp2_with fail
    go_region
    all_goals go_wp2
    all_goals
      refine bodyPost_ret (by simp [results, Try.results51, go_sem, E1c0, E1c1, E2c0, E2c1]; try rfl) rfl ?_
      exact ⟨rfl, by go_grown⟩
  · skip
    go_wp2_with fail
    refine (kt _).mono ?_
    rintro e w2 ⟨rfl, hb⟩
    have B1 : Below w.heap.size w w2 := B0.trans (hb.mono B0.size)
    have y1 := B1.size
    have C0 := box2 hb (w.heap.size) (.int .u64 a0) (.int .u64 a1) (by first | assumption | (refine (Below.cell ?_ A0z).trans A0c0; go_grown; done) | (simp [go_sem, A0c0]; done) | (simp [go_sem, A0c0, A0z]; done) | (simp [go_sem, A0c0, A0c1, A0f0, A0f1, A0z, A1c0, A1c1, A1f0, A1f1, A1z, A2c0, A2c1, A2f0, A2f1, A2z, A3c0, A3c1, A3f0, A3f1, A3z]; done)) (by first | assumption | (refine (Below.cell ?_ A0z).trans A0c1; go_grown; done) | (simp [go_sem, A0c1]; done) | (simp [go_sem, A0c1, A0z]; done) | (simp [go_sem, A0c0, A0c1, A0f0, A0f1, A0z, A1c0, A1c1, A1f0, A1f1, A1z, A2c0, A2c1, A2f0, A2f1, A2z, A3c0, A3c1, A3f0, A3f1, A3z]; done)) (by first | assumption | (refine (Below.frozen ?_ A0z).trans A0f0; go_grown; done) | (simp [go_sem, A0f0]; done) | (simp [go_sem, A0f0, A0z]; done) | (simp [go_sem, A0c0, A0c1, A0f0, A0f1, A0z, A1c0, A1c1, A1f0, A1f1, A1z, A2c0, A2c1, A2f0, A2f1, A2z, A3c0, A3c1, A3f0, A3f1, A3z]; done)) (by first | assumption | (refine (Below.frozen ?_ A0z).trans A0f1; go_grown; done) | (simp [go_sem, A0f1]; done) | (simp [go_sem, A0f1, A0z]; done) | (simp [go_sem, A0c0, A0c1, A0f0, A0f1, A0z, A1c0, A1c1, A1f0, A1f1, A1z, A2c0, A2c1, A2f0, A2f1, A2z, A3c0, A3c1, A3f0, A3f1, A3z]; done)) (by first | assumption | omega | (simp; done) | (simp; omega))
    have C1 := box2 hb (w.heap.size + 1) (.int .u64 b0) (.int .u64 b1) (by first | assumption | (refine (Below.cell ?_ A1z).trans A1c0; go_grown; done) | (simp [go_sem, A1c0]; done) | (simp [go_sem, A1c0, A1z]; done) | (simp [go_sem, A0c0, A0c1, A0f0, A0f1, A0z, A1c0, A1c1, A1f0, A1f1, A1z, A2c0, A2c1, A2f0, A2f1, A2z, A3c0, A3c1, A3f0, A3f1, A3z]; done)) (by first | assumption | (refine (Below.cell ?_ A1z).trans A1c1; go_grown; done) | (simp [go_sem, A1c1]; done) | (simp [go_sem, A1c1, A1z]; done) | (simp [go_sem, A0c0, A0c1, A0f0, A0f1, A0z, A1c0, A1c1, A1f0, A1f1, A1z, A2c0, A2c1, A2f0, A2f1, A2z, A3c0, A3c1, A3f0, A3f1, A3z]; done)) (by first | assumption | (refine (Below.frozen ?_ A1z).trans A1f0; go_grown; done) | (simp [go_sem, A1f0]; done) | (simp [go_sem, A1f0, A1z]; done) | (simp [go_sem, A0c0, A0c1, A0f0, A0f1, A0z, A1c0, A1c1, A1f0, A1f1, A1z, A2c0, A2c1, A2f0, A2f1, A2z, A3c0, A3c1, A3f0, A3f1, A3z]; done)) (by first | assumption | (refine (Below.frozen ?_ A1z).trans A1f1; go_grown; done) | (simp [go_sem, A1f1]; done) | (simp [go_sem, A1f1, A1z]; done) | (simp [go_sem, A0c0, A0c1, A0f0, A0f1, A0z, A1c0, A1c1, A1f0, A1f1, A1z, A2c0, A2c1, A2f0, A2f1, A2z, A3c0, A3c1, A3f0, A3f1, A3z]; done)) (by first | assumption | omega | (simp; done) | (simp; omega))
    have C2 := box2 hb (w.heap.size + 1 + 1) (.int .u64 0) (.int .u64 0) (by first | assumption | (refine (Below.cell ?_ A2z).trans A2c0; go_grown; done) | (simp [go_sem, A2c0]; done) | (simp [go_sem, A2c0, A2z]; done) | (simp [go_sem, A0c0, A0c1, A0f0, A0f1, A0z, A1c0, A1c1, A1f0, A1f1, A1z, A2c0, A2c1, A2f0, A2f1, A2z, A3c0, A3c1, A3f0, A3f1, A3z]; done)) (by first | assumption | (refine (Below.cell ?_ A2z).trans A2c1; go_grown; done) | (simp [go_sem, A2c1]; done) | (simp [go_sem, A2c1, A2z]; done) | (simp [go_sem, A0c0, A0c1, A0f0, A0f1, A0z, A1c0, A1c1, A1f0, A1f1, A1z, A2c0, A2c1, A2f0, A2f1, A2z, A3c0, A3c1, A3f0, A3f1, A3z]; done)) (by first | assumption | (refine (Below.frozen ?_ A2z).trans A2f0; go_grown; done) | (simp [go_sem, A2f0]; done) | (simp [go_sem, A2f0, A2z]; done) | (simp [go_sem, A0c0, A0c1, A0f0, A0f1, A0z, A1c0, A1c1, A1f0, A1f1, A1z, A2c0, A2c1, A2f0, A2f1, A2z, A3c0, A3c1, A3f0, A3f1, A3z]; done)) (by first | assumption | (refine (Below.frozen ?_ A2z).trans A2f1; go_grown; done) | (simp [go_sem, A2f1]; done) | (simp [go_sem, A2f1, A2z]; done) | (simp [go_sem, A0c0, A0c1, A0f0, A0f1, A0z, A1c0, A1c1, A1f0, A1f1, A1z, A2c0, A2c1, A2f0, A2f1, A2z, A3c0, A3c1, A3f0, A3f1, A3z]; done)) (by first | assumption | omega | (simp; done) | (simp; omega))
    have C3 := box2 hb (w.heap.size + 1 + 1 + 1) (.int .u64 0) (.int .u64 0) (by first | assumption | (refine (Below.cell ?_ A3z).trans A3c0; go_grown; done) | (simp [go_sem, A3c0]; done) | (simp [go_sem, A3c0, A3z]; done) | (simp [go_sem, A0c0, A0c1, A0f0, A0f1, A0z, A1c0, A1c1, A1f0, A1f1, A1z, A2c0, A2c1, A2f0, A2f1, A2z, A3c0, A3c1, A3f0, A3f1, A3z]; done)) (by first | assumption | (refine (Below.cell ?_ A3z).trans A3c1; go_grown; done) | (simp [go_sem, A3c1]; done) | (simp [go_sem, A3c1, A3z]; done) | (simp [go_sem, A0c0, A0c1, A0f0, A0f1, A0z, A1c0, A1c1, A1f0, A1f1, A1z, A2c0, A2c1, A2f0, A2f1, A2z, A3c0, A3c1, A3f0, A3f1, A3z]; done)) (by first | assumption | (refine (Below.frozen ?_ A3z).trans A3f0; go_grown; done) | (simp [go_sem, A3f0]; done) | (simp [go_sem, A3f0, A3z]; done) | (simp [go_sem, A0c0, A0c1, A0f0, A0f1, A0z, A1c0, A1c1, A1f0, A1f1, A1z, A2c0, A2c1, A2f0, A2f1, A2z, A3c0, A3c1, A3f0, A3f1, A3z]; done)) (by first | assumption | (refine (Below.frozen ?_ A3z).trans A3f1; go_grown; done) | (simp [go_sem, A3f1]; done) | (simp [go_sem, A3f1, A3z]; done) | (simp [go_sem, A0c0, A0c1, A0f0, A0f1, A0z, A1c0, A1c1, A1f0, A1f1, A1z, A2c0, A2c1, A2f0, A2f1, A2z, A3c0, A3c1, A3f0, A3f1, A3z]; done)) (by first | assumption | omega | (simp; done) | (simp; omega))
    clear A0c0 A0c1 A0f0 A0f1 A0z A1c0 A1c1 A1f0 A1f1 A1z A2c0 A2c1 A2f0 A2f1 A2z A3c0 A3c1 A3f0 A3f1 A3z
    obtain ⟨C0c0, C0c1, C0f0, C0f1, C0z⟩ := C0
    obtain ⟨C1c0, C1c1, C1f0, C1f1, C1z⟩ := C1
    obtain ⟨C2c0, C2c1, C2f0, C2f1, C2z⟩ := C2
    obtain ⟨C3c0, C3c1, C3f0, C3f1, C3z⟩ := C3
    clear hb B0 kt
    go_wp2_with fail
    refine (km _).mono ?_
    rintro e w3 ⟨rfl, hb⟩
    have B2 : Below w.heap.size w w3 := Below.trans (by go_grown) (hb.mono (by first | (simp; done) | omega | (simp; omega)))
    have y2 := B2.size
    have D0 := box2 hb (w.heap.size + 1) (.int .u64 b0) (.int .u64 b1) (by first | assumption | (refine (Below.cell ?_ C1z).trans C1c0; go_grown; done) | (simp [go_sem, C1c0]; done) | (simp [go_sem, C1c0, C1z]; done) | (simp [go_sem, C0c0, C0c1, C0f0, C0f1, C0z, C1c0, C1c1, C1f0, C1f1, C1z, C2c0, C2c1, C2f0, C2f1, C2z, C3c0, C3c1, C3f0, C3f1, C3z]; done)) (by first | assumption | (refine (Below.cell ?_ C1z).trans C1c1; go_grown; done) | (simp [go_sem, C1c1]; done) | (simp [go_sem, C1c1, C1z]; done) | (simp [go_sem, C0c0, C0c1, C0f0, C0f1, C0z, C1c0, C1c1, C1f0, C1f1, C1z, C2c0, C2c1, C2f0, C2f1, C2z, C3c0, C3c1, C3f0, C3f1, C3z]; done)) (by first | assumption | (refine (Below.frozen ?_ C1z).trans C1f0; go_grown; done) | (simp [go_sem, C1f0]; done) | (simp [go_sem, C1f0, C1z]; done) | (simp [go_sem, C0c0, C0c1, C0f0, C0f1, C0z, C1c0, C1c1, C1f0, C1f1, C1z, C2c0, C2c1, C2f0, C2f1, C2z, C3c0, C3c1, C3f0, C3f1, C3z]; done)) (by first | assumption | (refine (Below.frozen ?_ C1z).trans C1f1; go_grown; done) | (simp [go_sem, C1f1]; done) | (simp [go_sem, C1f1, C1z]; done) | (simp [go_sem, C0c0, C0c1, C0f0, C0f1, C0z, C1c0, C1c1, C1f0, C1f1, C1z, C2c0, C2c1, C2f0, C2f1, C2z, C3c0, C3c1, C3f0, C3f1, C3z]; done)) (by first | assumption | omega | (simp; done) | (simp; omega))
    have D1 := box2 hb (w.heap.size + 1 + 1) (.int .u64 0) (.int .u64 0) (by first | assumption | (refine (Below.cell ?_ C2z).trans C2c0; go_grown; done) | (simp [go_sem, C2c0]; done) | (simp [go_sem, C2c0, C2z]; done) | (simp [go_sem, C0c0, C0c1, C0f0, C0f1, C0z, C1c0, C1c1, C1f0, C1f1, C1z, C2c0, C2c1, C2f0, C2f1, C2z, C3c0, C3c1, C3f0, C3f1, C3z]; done)) (by first | assumption | (refine (Below.cell ?_ C2z).trans C2c1; go_grown; done) | (simp [go_sem, C2c1]; done) | (simp [go_sem, C2c1, C2z]; done) | (simp [go_sem, C0c0, C0c1, C0f0, C0f1, C0z, C1c0, C1c1, C1f0, C1f1, C1z, C2c0, C2c1, C2f0, C2f1, C2z, C3c0, C3c1, C3f0, C3f1, C3z]; done)) (by first | assumption | (refine (Below.frozen ?_ C2z).trans C2f0; go_grown; done) | (simp [go_sem, C2f0]; done) | (simp [go_sem, C2f0, C2z]; done) | (simp [go_sem, C0c0, C0c1, C0f0, C0f1, C0z, C1c0, C1c1, C1f0, C1f1, C1z, C2c0, C2c1, C2f0, C2f1, C2z, C3c0, C3c1, C3f0, C3f1, C3z]; done)) (by first | assumption | (refine (Below.frozen ?_ C2z).trans C2f1; go_grown; done) | (simp [go_sem, C2f1]; done) | (simp [go_sem, C2f1, C2z]; done) | (simp [go_sem, C0c0, C0c1, C0f0, C0f1, C0z, C1c0, C1c1, C1f0, C1f1, C1z, C2c0, C2c1, C2f0, C2f1, C2z, C3c0, C3c1, C3f0, C3f1, C3z]; done)) (by first | assumption | omega | (simp; done) | (simp; omega))
    have D2 := box2 hb (w.heap.size + 1 + 1 + 1) (.int .u64 0) (.int .u64 0) (by first | assumption | (refine (Below.cell ?_ C3z).trans C3c0; go_grown; done) | (simp [go_sem, C3c0]; done) | (simp [go_sem, C3c0, C3z]; done) | (simp [go_sem, C0c0, C0c1, C0f0, C0f1, C0z, C1c0, C1c1, C1f0, C1f1, C1z, C2c0, C2c1, C2f0, C2f1, C2z, C3c0, C3c1, C3f0, C3f1, C3z]; done)) (by first | assumption | (refine (Below.cell ?_ C3z).trans C3c1; go_grown; done) | (simp [go_sem, C3c1]; done) | (simp [go_sem, C3c1, C3z]; done) | (simp [go_sem, C0c0, C0c1, C0f0, C0f1, C0z, C1c0, C1c1, C1f0, C1f1, C1z, C2c0, C2c1, C2f0, C2f1, C2z, C3c0, C3c1, C3f0, C3f1, C3z]; done)) (by first | assumption | (refine (Below.frozen ?_ C3z).trans C3f0; go_grown; done) | (simp [go_sem, C3f0]; done) | (simp [go_sem, C3f0, C3z]; done) | (simp [go_sem, C0c0, C0c1, C0f0, C0f1, C0z, C1c0, C1c1, C1f0, C1f1, C1z, C2c0, C2c1, C2f0, C2f1, C2z, C3c0, C3c1, C3f0, C3f1, C3z]; done)) (by first | assumption | (refine (Below.frozen ?_ C3z).trans C3f1; go_grown; done) | (simp [go_sem, C3f1]; done) | (simp [go_sem, C3f1, C3z]; done) | (simp [go_sem, C0c0, C0c1, C0f0, C0f1, C0z, C1c0, C1c1, C1f0, C1f1, C1z, C2c0, C2c1, C2f0, C2f1, C2z, C3c0, C3c1, C3f0, C3f1, C3z]; done)) (by first | assumption | omega | (simp; done) | (simp; omega))
    clear C0c0 C0c1 C0f0 C0f1 C0z C1c0 C1c1 C1f0 C1f1 C1z C2c0 C2c1 C2f0 C2f1 C2z C3c0 C3c1 C3f0 C3f1 C3z
    obtain ⟨D0c0, D0c1, D0f0, D0f1, D0z⟩ := D0
    obtain ⟨D1c0, D1c1, D1f0, D1f1, D1z⟩ := D1
    obtain ⟨D2c0, D2c1, D2f0, D2f1, D2z⟩ := D2
    clear hb B1 km
    go_wp2_with fail
    refine (kb _).mono ?_
    rintro e w4 ⟨rfl, hb⟩
    have B3 : Below w.heap.size w w4 := Below.trans (by go_grown) (hb.mono (by first | (simp; done) | omega | (simp; omega)))
    have y3 := B3.size
    have ne1 : ¬ w.heap.size + 1 + 1 = w3.heap.size := by omega
    have ne2 : ¬ w.heap.size + 1 + 1 + 1 = w3.heap.size := by omega
    have ne3 : ¬ w3.heap.size = w.heap.size + 1 + 1 := by omega
    have ne4 : ¬ w3.heap.size = w.heap.size + 1 + 1 + 1 := by omega
    have E0 := box2 hb (w.heap.size + 1) (.int .u64 b0) (.int .u64 b1) (by first | assumption | (refine (Below.cell ?_ D0z).trans D0c0; go_grown; done) | (simp [go_sem, D0c0]; done) | (simp [go_sem, D0c0, D0z]; done) | (simp [go_sem, D0c0, D0c1, D0f0, D0f1, D0z, D1c0, D1c1, D1f0, D1f1, D1z, D2c0, D2c1, D2f0, D2f1, D2z]; done)) (by first | assumption | (refine (Below.cell ?_ D0z).trans D0c1; go_grown; done) | (simp [go_sem, D0c1]; done) | (simp [go_sem, D0c1, D0z]; done) | (simp [go_sem, D0c0, D0c1, D0f0, D0f1, D0z, D1c0, D1c1, D1f0, D1f1, D1z, D2c0, D2c1, D2f0, D2f1, D2z]; done)) (by first | assumption | (refine (Below.frozen ?_ D0z).trans D0f0; go_grown; done) | (simp [go_sem, D0f0]; done) | (simp [go_sem, D0f0, D0z]; done) | (simp [go_sem, D0c0, D0c1, D0f0, D0f1, D0z, D1c0, D1c1, D1f0, D1f1, D1z, D2c0, D2c1, D2f0, D2f1, D2z]; done)) (by first | assumption | (refine (Below.frozen ?_ D0z).trans D0f1; go_grown; done) | (simp [go_sem, D0f1]; done) | (simp [go_sem, D0f1, D0z]; done) | (simp [go_sem, D0c0, D0c1, D0f0, D0f1, D0z, D1c0, D1c1, D1f0, D1f1, D1z, D2c0, D2c1, D2f0, D2f1, D2z]; done)) (by first | assumption | omega | (simp; done) | (simp; omega))
    have E1 := box2 hb (w.heap.size + 1 + 1) (.int .u64 0) (.int .u64 0) (by first | assumption | (refine (Below.cell ?_ D1z).trans D1c0; go_grown; done) | (simp [go_sem, D1c0]; done) | (simp [go_sem, D1c0, D1z]; done) | (simp [go_sem, D0c0, D0c1, D0f0, D0f1, D0z, D1c0, D1c1, D1f0, D1f1, D1z, D2c0, D2c1, D2f0, D2f1, D2z]; done)) (by first | assumption | (refine (Below.cell ?_ D1z).trans D1c1; go_grown; done) | (simp [go_sem, D1c1]; done) | (simp [go_sem, D1c1, D1z]; done) | (simp [go_sem, D0c0, D0c1, D0f0, D0f1, D0z, D1c0, D1c1, D1f0, D1f1, D1z, D2c0, D2c1, D2f0, D2f1, D2z]; done)) (by first | assumption | (refine (Below.frozen ?_ D1z).trans D1f0; go_grown; done) | (simp [go_sem, D1f0]; done) | (simp [go_sem, D1f0, D1z]; done) | (simp [go_sem, D0c0, D0c1, D0f0, D0f1, D0z, D1c0, D1c1, D1f0, D1f1, D1z, D2c0, D2c1, D2f0, D2f1, D2z]; done)) (by first | assumption | (refine (Below.frozen ?_ D1z).trans D1f1; go_grown; done) | (simp [go_sem, D1f1]; done) | (simp [go_sem, D1f1, D1z]; done) | (simp [go_sem, D0c0, D0c1, D0f0, D0f1, D0z, D1c0, D1c1, D1f0, D1f1, D1z, D2c0, D2c1, D2f0, D2f1, D2z]; done)) (by first | assumption | omega | (simp; done) | (simp; omega))
    have E2 := box2 hb (w.heap.size + 1 + 1 + 1) (.int .u64 0) (.int .u64 0) (by first | assumption | (refine (Below.cell ?_ D2z).trans D2c0; go_grown; done) | (simp [go_sem, D2c0]; done) | (simp [go_sem, D2c0, D2z]; done) | (simp [go_sem, D0c0, D0c1, D0f0, D0f1, D0z, D1c0, D1c1, D1f0, D1f1, D1z, D2c0, D2c1, D2f0, D2f1, D2z]; done)) (by first | assumption | (refine (Below.cell ?_ D2z).trans D2c1; go_grown; done) | (simp [go_sem, D2c1]; done) | (simp [go_sem, D2c1, D2z]; done) | (simp [go_sem, D0c0, D0c1, D0f0, D0f1, D0z, D1c0, D1c1, D1f0, D1f1, D1z, D2c0, D2c1, D2f0, D2f1, D2z]; done)) (by first | assumption | (refine (Below.frozen ?_ D2z).trans D2f0; go_grown; done) | (simp [go_sem, D2f0]; done) | (simp [go_sem, D2f0, D2z]; done) | (simp [go_sem, D0c0, D0c1, D0f0, D0f1, D0z, D1c0, D1c1, D1f0, D1f1, D1z, D2c0, D2c1, D2f0, D2f1, D2z]; done)) (by first | assumption | (refine (Below.frozen ?_ D2z).trans D2f1; go_grown; done) | (simp [go_sem, D2f1]; done) | (simp [go_sem, D2f1, D2z]; done) | (simp [go_sem, D0c0, D0c1, D0f0, D0f1, D0z, D1c0, D1c1, D1f0, D1f1, D1z, D2c0, D2c1, D2f0, D2f1, D2z]; done)) (by first | assumption | omega | (simp; done) | (simp; omega))
    have E3 := box2 hb (w3.heap.size) (.int .u64 r0) (.int .u64 r1) (by first | assumption | (simp [go_sem]; done) | (simp [go_sem, D0c0, D0c1, D0f0, D0f1, D0z, D1c0, D1c1, D1f0, D1f1, D1z, D2c0, D2c1, D2f0, D2f1, D2z]; done)) (by first | assumption | (simp [go_sem]; done) | (simp [go_sem, D0c0, D0c1, D0f0, D0f1, D0z, D1c0, D1c1, D1f0, D1f1, D1z, D2c0, D2c1, D2f0, D2f1, D2z]; done)) (by first | assumption | (simp [go_sem]; done) | (simp [go_sem, D0c0, D0c1, D0f0, D0f1, D0z, D1c0, D1c1, D1f0, D1f1, D1z, D2c0, D2c1, D2f0, D2f1, D2z]; done)) (by first | assumption | (simp [go_sem]; done) | (simp [go_sem, D0c0, D0c1, D0f0, D0f1, D0z, D1c0, D1c1, D1f0, D1f1, D1z, D2c0, D2c1, D2f0, D2f1, D2z]; done)) (by first | assumption | omega | (simp; done) | (simp; omega))
    clear D0c0 D0c1 D0f0 D0f1 D0z D1c0 D1c1 D1f0 D1f1 D1z D2c0 D2c1 D2f0 D2f1 D2z
    obtain ⟨E0c0, E0c1, E0f0, E0f1, E0z⟩ := E0
    obtain ⟨E1c0, E1c1, E1f0, E1f1, E1z⟩ := E1
    obtain ⟨E2c0, E2c1, E2f0, E2f1, E2z⟩ := E2
    obtain ⟨E3c0, E3c1, E3f0, E3f1, E3z⟩ := E3
    clear hb B2 kb
    go_wp2_with fail
    go_region
    all_goals go_wp2
    all_goals
      refine bodyPost_ret (by simp [results, Try.results51, go_sem, E1c0, E1c1, E2c0, E2c1]; try rfl) rfl ?_
      exact ⟨rfl, by go_grown⟩
set_option maxHeartbeats 8000000 in
theorem divide_high_f (a1 a0 b1 b0 al high t1 t2 t p q1 q0 r1 r0 p' d1 d0 : Int) (ok : Bool) (n1 : (b1 == 0) = false) (s : Nat) (hs : s < 64)
    (ea : bits .or .u64 (IntKind.u64.wrap (a1 * 9223372036854775808)) (a0 / 2) = al) (eh : bits .or .u64 (IntKind.u64.wrap (b1 * 2 ^ s)) (b0 / 2 / 2 ^ (63 - s)) = high) (et : t1 / 2 ^ (63 - s) = t)
    (hp : Hid ((t ≠ 0 ∧ IntKind.u64.wrap (t - 1) = p) ∨ (t = 0 ∧ p = 0))) (ep : Hid (IntKind.u64.wrap (p + 1) = p'))
    (ks : ∀ w, Calls Try.prog 74 #[.int .u64 b1] w fun e w' => e = .returned (.int .i64 s) ∧ w = w')
    (kd : ∀ w, Calls Try.prog 75 #[.int .u64 (a1 / 2), .int .u64 al, .int .u64 high] w fun e w' => e = .returned (.tuple #[.int .u64 t1, .int .u64 t2]) ∧ Below w.heap.size w w')
    (kt : ∀ w, Calls Try.prog 53 #[.agg #[.int .u64 b0, .int .u64 b1], .agg #[.int .u64 p, .int .u64 0]] w fun e w' => e = .returned (.tuple #[.agg #[.int .u64 q0, .int .u64 q1], .bool ok]) ∧ Below w.heap.size w w')
    (km : ∀ w, Calls Try.prog 72 #[.agg #[.int .u64 a0, .int .u64 a1], .agg #[.int .u64 q0, .int .u64 q1]] w fun e w' => e = .returned (.agg #[.int .u64 r0, .int .u64 r1]) ∧ Below w.heap.size w w')
    (kb : ∀ w, Calls Try.prog 76 #[.agg #[.int .u64 r0, .int .u64 r1], .agg #[.int .u64 b0, .int .u64 b1]] w fun e w' => e = .returned (.bool false) ∧ Below w.heap.size w w')
    (kn : ∀ w, Calls Try.prog 72 #[.agg #[.int .u64 r0, .int .u64 r1], .agg #[.int .u64 b0, .int .u64 b1]] w fun e w' => e = .returned (.agg #[.int .u64 d0, .int .u64 d1]) ∧ Below w.heap.size w w')
    (w : World) : Calls Try.prog 51 #[.agg #[.int .u64 a0, .int .u64 a1], .agg #[.int .u64 b0, .int .u64 b1]] w fun e w' => e = .returned (.tuple #[.agg #[.int .u64 p', .int .u64 0], .agg #[.int .u64 d0, .int .u64 d1]]) ∧ Below w.heap.size w w' := by
  go_enter Try.func51, Try.ntmps51
  go_wp2_with fail
  refine (ks _).mono ?_
  rintro e w1 ⟨rfl, rfl⟩
  go_wp2_with fail
  refine (kd _).mono ?_
  rintro e w1 ⟨rfl, hb⟩
  have B0 : Below w.heap.size w w1 := Below.trans (by go_grown) (hb.mono (by simp; omega))
  have y0 := B0.size
  have A0 := box2 hb (w.heap.size) (.int .u64 a0) (.int .u64 a1) (by first | assumption | (simp [go_sem]; done) | (simp [go_sem]; done)) (by first | assumption | (simp [go_sem]; done) | (simp [go_sem]; done)) (by first | assumption | (simp [go_sem]; done) | (simp [go_sem]; done)) (by first | assumption | (simp [go_sem]; done) | (simp [go_sem]; done)) (by first | assumption | omega | (simp; done) | (simp; omega))
  have A1 := box2 hb (w.heap.size + 1) (.int .u64 b0) (.int .u64 b1) (by first | assumption | (simp [go_sem]; done) | (simp [go_sem]; done)) (by first | assumption | (simp [go_sem]; done) | (simp [go_sem]; done)) (by first | assumption | (simp [go_sem]; done) | (simp [go_sem]; done)) (by first | assumption | (simp [go_sem]; done) | (simp [go_sem]; done)) (by first | assumption | omega | (simp; done) | (simp; omega))
  have A2 := box2 hb (w.heap.size + 1 + 1) (.int .u64 0) (.int .u64 0) (by first | assumption | (simp [go_sem]; done) | (simp [go_sem]; done)) (by first | assumption | (simp [go_sem]; done) | (simp [go_sem]; done)) (by first | assumption | (simp [go_sem]; done) | (simp [go_sem]; done)) (by first | assumption | (simp [go_sem]; done) | (simp [go_sem]; done)) (by first | assumption | omega | (simp; done) | (simp; omega))
  have A3 := box2 hb (w.heap.size + 1 + 1 + 1) (.int .u64 0) (.int .u64 0) (by first | assumption | (simp [go_sem]; done) | (simp [go_sem]; done)) (by first | assumption | (simp [go_sem]; done) | (simp [go_sem]; done)) (by first | assumption | (simp [go_sem]; done) | (simp [go_sem]; done)) (by first | assumption | (simp [go_sem]; done) | (simp [go_sem]; done)) (by first | assumption | omega | (simp; done) | (simp; omega))
  obtain ⟨A0c0, A0c1, A0f0, A0f1, A0z⟩ := A0
  obtain ⟨A1c0, A1c1, A1f0, A1f1, A1z⟩ := A1
  obtain ⟨A2c0, A2c1, A2f0, A2f1, A2z⟩ := A2
  obtain ⟨A3c0, A3c1, A3f0, A3f1, A3z⟩ := A3
  clear hb kd ks
  rcases hp.out with ⟨t0, tp⟩ | ⟨rfl, rfl⟩
  · have t0' : (t != 0) = true := by simpa using t0
    go_wp2_with fail
    refine (kt _).mono ?_
    rintro e w2 ⟨rfl, hb⟩
    have B1 : Below w.heap.size w w2 := B0.trans (hb.mono B0.size)
    have y1 := B1.size
    have C0 := box2 hb (w.heap.size) (.int .u64 a0) (.int .u64 a1) (by first | assumption | (refine (Below.cell ?_ A0z).trans A0c0; go_grown; done) | (simp [go_sem, A0c0]; done) | (simp [go_sem, A0c0, A0z]; done) | (simp [go_sem, A0c0, A0c1, A0f0, A0f1, A0z, A1c0, A1c1, A1f0, A1f1, A1z, A2c0, A2c1, A2f0, A2f1, A2z, A3c0, A3c1, A3f0, A3f1, A3z]; done)) (by first | assumption | (refine (Below.cell ?_ A0z).trans A0c1; go_grown; done) | (simp [go_sem, A0c1]; done) | (simp [go_sem, A0c1, A0z]; done) | (simp [go_sem, A0c0, A0c1, A0f0, A0f1, A0z, A1c0, A1c1, A1f0, A1f1, A1z, A2c0, A2c1, A2f0, A2f1, A2z, A3c0, A3c1, A3f0, A3f1, A3z]; done)) (by first | assumption | (refine (Below.frozen ?_ A0z).trans A0f0; go_grown; done) | (simp [go_sem, A0f0]; done) | (simp [go_sem, A0f0, A0z]; done) | (simp [go_sem, A0c0, A0c1, A0f0, A0f1, A0z, A1c0, A1c1, A1f0, A1f1, A1z, A2c0, A2c1, A2f0, A2f1, A2z, A3c0, A3c1, A3f0, A3f1, A3z]; done)) (by first | assumption | (refine (Below.frozen ?_ A0z).trans A0f1; go_grown; done) | (simp [go_sem, A0f1]; done) | (simp [go_sem, A0f1, A0z]; done) | (simp [go_sem, A0c0, A0c1, A0f0, A0f1, A0z, A1c0, A1c1, A1f0, A1f1, A1z, A2c0, A2c1, A2f0, A2f1, A2z, A3c0, A3c1, A3f0, A3f1, A3z]; done)) (by first | assumption | omega | (simp; done) | (simp; omega))
    have C1 := box2 hb (w.heap.size + 1) (.int .u64 b0) (.int .u64 b1) (by first | assumption | (refine (Below.cell ?_ A1z).trans A1c0; go_grown; done) | (simp [go_sem, A1c0]; done) | (simp [go_sem, A1c0, A1z]; done) | (simp [go_sem, A0c0, A0c1, A0f0, A0f1, A0z, A1c0, A1c1, A1f0, A1f1, A1z, A2c0, A2c1, A2f0, A2f1, A2z, A3c0, A3c1, A3f0, A3f1, A3z]; done)) (by first | assumption | (refine (Below.cell ?_ A1z).trans A1c1; go_grown; done) | (simp [go_sem, A1c1]; done) | (simp [go_sem, A1c1, A1z]; done) | (simp [go_sem, A0c0, A0c1, A0f0, A0f1, A0z, A1c0, A1c1, A1f0, A1f1, A1z, A2c0, A2c1, A2f0, A2f1, A2z, A3c0, A3c1, A3f0, A3f1, A3z]; done)) (by first | assumption | (refine (Below.frozen ?_ A1z).trans A1f0; go_grown; done) | (simp [go_sem, A1f0]; done) | (simp [go_sem, A1f0, A1z]; done) | (simp [go_sem, A0c0, A0c1, A0f0, A0f1, A0z, A1c0, A1c1, A1f0, A1f1, A1z, A2c0, A2c1, A2f0, A2f1, A2z, A3c0, A3c1, A3f0, A3f1, A3z]; done)) (by first | assumption | (refine (Below.frozen ?_ A1z).trans A1f1; go_grown; done) | (simp [go_sem, A1f1]; done) | (simp [go_sem, A1f1, A1z]; done) | (simp [go_sem, A0c0, A0c1, A0f0, A0f1, A0z, A1c0, A1c1, A1f0, A1f1, A1z, A2c0, A2c1, A2f0, A2f1, A2z, A3c0, A3c1, A3f0, A3f1, A3z]; done)) (by first | assumption | omega | (simp; done) | (simp; omega))
    have C2 := box2 hb (w.heap.size + 1 + 1) (.int .u64 0) (.int .u64 0) (by first | assumption | (refine (Below.cell ?_ A2z).trans A2c0; go_grown; done) | (simp [go_sem, A2c0]; done) | (simp [go_sem, A2c0, A2z]; done) | (simp [go_sem, A0c0, A0c1, A0f0, A0f1, A0z, A1c0, A1c1, A1f0, A1f1, A1z, A2c0, A2c1, A2f0, A2f1, A2z, A3c0, A3c1, A3f0, A3f1, A3z]; done)) (by first | assumption | (refine (Below.cell ?_ A2z).trans A2c1; go_grown; done) | (simp [go_sem, A2c1]; done) | (simp [go_sem, A2c1, A2z]; done) | (simp [go_sem, A0c0, A0c1, A0f0, A0f1, A0z, A1c0, A1c1, A1f0, A1f1, A1z, A2c0, A2c1, A2f0, A2f1, A2z, A3c0, A3c1, A3f0, A3f1, A3z]; done)) (by first | assumption | (refine (Below.frozen ?_ A2z).trans A2f0; go_grown; done) | (simp [go_sem, A2f0]; done) | (simp [go_sem, A2f0, A2z]; done) | (simp [go_sem, A0c0, A0c1, A0f0, A0f1, A0z, A1c0, A1c1, A1f0, A1f1, A1z, A2c0, A2c1, A2f0, A2f1, A2z, A3c0, A3c1, A3f0, A3f1, A3z]; done)) (by first | assumption | (refine (Below.frozen ?_ A2z).trans A2f1; go_grown; done) | (simp [go_sem, A2f1]; done) | (simp [go_sem, A2f1, A2z]; done) | (simp [go_sem, A0c0, A0c1, A0f0, A0f1, A0z, A1c0, A1c1, A1f0, A1f1, A1z, A2c0, A2c1, A2f0, A2f1, A2z, A3c0, A3c1, A3f0, A3f1, A3z]; done)) (by first | assumption | omega | (simp; done) | (simp; omega))
    have C3 := box2 hb (w.heap.size + 1 + 1 + 1) (.int .u64 0) (.int .u64 0) (by first | assumption | (refine (Below.cell ?_ A3z).trans A3c0; go_grown; done) | (simp [go_sem, A3c0]; done) | (simp [go_sem, A3c0, A3z]; done) | (simp [go_sem, A0c0, A0c1, A0f0, A0f1, A0z, A1c0, A1c1, A1f0, A1f1, A1z, A2c0, A2c1, A2f0, A2f1, A2z, A3c0, A3c1, A3f0, A3f1, A3z]; done)) (by first | assumption | (refine (Below.cell ?_ A3z).trans A3c1; go_grown; done) | (simp [go_sem, A3c1]; done) | (simp [go_sem, A3c1, A3z]; done) | (simp [go_sem, A0c0, A0c1, A0f0, A0f1, A0z, A1c0, A1c1, A1f0, A1f1, A1z, A2c0, A2c1, A2f0, A2f1, A2z, A3c0, A3c1, A3f0, A3f1, A3z]; done)) (by first | assumption | (refine (Below.frozen ?_ A3z).trans A3f0; go_grown; done) | (simp [go_sem, A3f0]; done) | (simp [go_sem, A3f0, A3z]; done) | (simp [go_sem, A0c0, A0c1, A0f0, A0f1, A0z, A1c0, A1c1, A1f0, A1f1, A1z, A2c0, A2c1, A2f0, A2f1, A2z, A3c0, A3c1, A3f0, A3f1, A3z]; done)) (by first | assumption | (refine (Below.frozen ?_ A3z).trans A3f1; go_grown; done) | (simp [go_sem, A3f1]; done) | (simp [go_sem, A3f1, A3z]; done) | (simp [go_sem, A0c0, A0c1, A0f0, A0f1, A0z, A1c0, A1c1, A1f0, A1f1, A1z, A2c0, A2c1, A2f0, A2f1, A2z, A3c0, A3c1, A3f0, A3f1, A3z]; done)) (by first | assumption | omega | (simp; done) | (simp; omega))
    clear A0c0 A0c1 A0f0 A0f1 A0z A1c0 A1c1 A1f0 A1f1 A1z A2c0 A2c1 A2f0 A2f1 A2z A3c0 A3c1 A3f0 A3f1 A3z
    obtain ⟨C0c0, C0c1, C0f0, C0f1, C0z⟩ := C0
    obtain ⟨C1c0, C1c1, C1f0, C1f1, C1z⟩ := C1
    obtain ⟨C2c0, C2c1, C2f0, C2f1, C2z⟩ := C2
    obtain ⟨C3c0, C3c1, C3f0, C3f1, C3z⟩ := C3
    clear hb B0 kt
    go_wp2_with fail
    refine (km _).mono ?_
    rintro e w3 ⟨rfl, hb⟩
    have B2 : Below w.heap.size w w3 := Below.trans (by go_grown) (hb.mono (by first | (simp; done) | omega | (simp; omega)))
    have y2 := B2.size
    have D0 := box2 hb (w.heap.size + 1) (.int .u64 b0) (.int .u64 b1) (by first | assumption | (refine (Below.cell ?_ C1z).trans C1c0; go_grown; done) | (simp [go_sem, C1c0]; done) | (simp [go_sem, C1c0, C1z]; done) | (simp [go_sem, C0c0, C0c1, C0f0, C0f1, C0z, C1c0, C1c1, C1f0, C1f1, C1z, C2c0, C2c1, C2f0, C2f1, C2z, C3c0, C3c1, C3f0, C3f1, C3z]; done)) (by first | assumption | (refine (Below.cell ?_ C1z).trans C1c1; go_grown; done) | (simp [go_sem, C1c1]; done) | (simp [go_sem, C1c1, C1z]; done) | (simp [go_sem, C0c0, C0c1, C0f0, C0f1, C0z, C1c0, C1c1, C1f0, C1f1, C1z, C2c0, C2c1, C2f0, C2f1, C2z, C3c0, C3c1, C3f0, C3f1, C3z]; done)) (by first | assumption | (refine (Below.frozen ?_ C1z).trans C1f0; go_grown; done) | (simp [go_sem, C1f0]; done) | (simp [go_sem, C1f0, C1z]; done) | (simp [go_sem, C0c0, C0c1, C0f0, C0f1, C0z, C1c0, C1c1, C1f0, C1f1, C1z, C2c0, C2c1, C2f0, C2f1, C2z, C3c0, C3c1, C3f0, C3f1, C3z]; done)) (by first | assumption | (refine (Below.frozen ?_ C1z).trans C1f1; go_grown; done) | (simp [go_sem, C1f1]; done) | (simp [go_sem, C1f1, C1z]; done) | (simp [go_sem, C0c0, C0c1, C0f0, C0f1, C0z, C1c0, C1c1, C1f0, C1f1, C1z, C2c0, C2c1, C2f0, C2f1, C2z, C3c0, C3c1, C3f0, C3f1, C3z]; done)) (by first | assumption | omega | (simp; done) | (simp; omega))
    have D1 := box2 hb (w.heap.size + 1 + 1) (.int .u64 0) (.int .u64 0) (by first | assumption | (refine (Below.cell ?_ C2z).trans C2c0; go_grown; done) | (simp [go_sem, C2c0]; done) | (simp [go_sem, C2c0, C2z]; done) | (simp [go_sem, C0c0, C0c1, C0f0, C0f1, C0z, C1c0, C1c1, C1f0, C1f1, C1z, C2c0, C2c1, C2f0, C2f1, C2z, C3c0, C3c1, C3f0, C3f1, C3z]; done)) (by first | assumption | (refine (Below.cell ?_ C2z).trans C2c1; go_grown; done) | (simp [go_sem, C2c1]; done) | (simp [go_sem, C2c1, C2z]; done) | (simp [go_sem, C0c0, C0c1, C0f0, C0f1, C0z, C1c0, C1c1, C1f0, C1f1, C1z, C2c0, C2c1, C2f0, C2f1, C2z, C3c0, C3c1, C3f0, C3f1, C3z]; done)) (by first | assumption | (refine (Below.frozen ?_ C2z).trans C2f0; go_grown; done) | (simp [go_sem, C2f0]; done) | (simp [go_sem, C2f0, C2z]; done) | (simp [go_sem, C0c0, C0c1, C0f0, C0f1, C0z, C1c0, C1c1, C1f0, C1f1, C1z, C2c0, C2c1, C2f0, C2f1, C2z, C3c0, C3c1, C3f0, C3f1, C3z]; done)) (by first | assumption | (refine (Below.frozen ?_ C2z).trans C2f1; go_grown; done) | (simp [go_sem, C2f1]; done) | (simp [go_sem, C2f1, C2z]; done) | (simp [go_sem, C0c0, C0c1, C0f0, C0f1, C0z, C1c0, C1c1, C1f0, C1f1, C1z, C2c0, C2c1, C2f0, C2f1, C2z, C3c0, C3c1, C3f0, C3f1, C3z]; done)) (by first | assumption | omega | (simp; done) | (simp; omega))
    have D2 := box2 hb (w.heap.size + 1 + 1 + 1) (.int .u64 0) (.int .u64 0) (by first | assumption | (refine (Below.cell ?_ C3z).trans C3c0; go_grown; done) | (simp [go_sem, C3c0]; done) | (simp [go_sem, C3c0, C3z]; done) | (simp [go_sem, C0c0, C0c1, C0f0, C0f1, C0z, C1c0, C1c1, C1f0, C1f1, C1z, C2c0, C2c1, C2f0, C2f1, C2z, C3c0, C3c1, C3f0, C3f1, C3z]; done)) (by first | assumption | (refine (Below.cell ?_ C3z).trans C3c1; go_grown; done) | (simp [go_sem, C3c1]; done) | (simp [go_sem, C3c1, C3z]; done) | (simp [go_sem, C0c0, C0c1, C0f0, C0f1, C0z, C1c0, C1c1, C1f0, C1f1, C1z, C2c0, C2c1, C2f0, C2f1, C2z, C3c0, C3c1, C3f0, C3f1, C3z]; done)) (by first | assumption | (refine (Below.frozen ?_ C3z).trans C3f0; go_grown; done) | (simp [go_sem, C3f0]; done) | (simp [go_sem, C3f0, C3z]; done) | (simp [go_sem, C0c0, C0c1, C0f0, C0f1, C0z, C1c0, C1c1, C1f0, C1f1, C1z, C2c0, C2c1, C2f0, C2f1, C2z, C3c0, C3c1, C3f0, C3f1, C3z]; done)) (by first | assumption | (refine (Below.frozen ?_ C3z).trans C3f1; go_grown; done) | (simp [go_sem, C3f1]; done) | (simp [go_sem, C3f1, C3z]; done) | (simp [go_sem, C0c0, C0c1, C0f0, C0f1, C0z, C1c0, C1c1, C1f0, C1f1, C1z, C2c0, C2c1, C2f0, C2f1, C2z, C3c0, C3c1, C3f0, C3f1, C3z]; done)) (by first | assumption | omega | (simp; done) | (simp; omega))
    clear C0c0 C0c1 C0f0 C0f1 C0z C1c0 C1c1 C1f0 C1f1 C1z C2c0 C2c1 C2f0 C2f1 C2z C3c0 C3c1 C3f0 C3f1 C3z
    obtain ⟨D0c0, D0c1, D0f0, D0f1, D0z⟩ := D0
    obtain ⟨D1c0, D1c1, D1f0, D1f1, D1z⟩ := D1
    obtain ⟨D2c0, D2c1, D2f0, D2f1, D2z⟩ := D2
    clear hb B1 km
    go_wp2_with fail
    refine (kb _).mono ?_
    rintro e w4 ⟨rfl, hb⟩
    have B3 : Below w.heap.size w w4 := Below.trans (by go_grown) (hb.mono (by first | (simp; done) | omega | (simp; omega)))
    have y3 := B3.size
    have ne1 : ¬ w.heap.size + 1 + 1 = w3.heap.size := by omega
    have ne2 : ¬ w.heap.size + 1 + 1 + 1 = w3.heap.size := by omega
    have ne3 : ¬ w3.heap.size = w.heap.size + 1 + 1 := by omega
    have ne4 : ¬ w3.heap.size = w.heap.size + 1 + 1 + 1 := by omega
    have E0 := box2 hb (w.heap.size + 1) (.int .u64 b0) (.int .u64 b1) (by first | assumption | (refine (Below.cell ?_ D0z).trans D0c0; go_grown; done) | (simp [go_sem, D0c0]; done) | (simp [go_sem, D0c0, D0z]; done) | (simp [go_sem, D0c0, D0c1, D0f0, D0f1, D0z, D1c0, D1c1, D1f0, D1f1, D1z, D2c0, D2c1, D2f0, D2f1, D2z]; done)) (by first | assumption | (refine (Below.cell ?_ D0z).trans D0c1; go_grown; done) | (simp [go_sem, D0c1]; done) | (simp [go_sem, D0c1, D0z]; done) | (simp [go_sem, D0c0, D0c1, D0f0, D0f1, D0z, D1c0, D1c1, D1f0, D1f1, D1z, D2c0, D2c1, D2f0, D2f1, D2z]; done)) (by first | assumption | (refine (Below.frozen ?_ D0z).trans D0f0; go_grown; done) | (simp [go_sem, D0f0]; done) | (simp [go_sem, D0f0, D0z]; done) | (simp [go_sem, D0c0, D0c1, D0f0, D0f1, D0z, D1c0, D1c1, D1f0, D1f1, D1z, D2c0, D2c1, D2f0, D2f1, D2z]; done)) (by first | assumption | (refine (Below.frozen ?_ D0z).trans D0f1; go_grown; done) | (simp [go_sem, D0f1]; done) | (simp [go_sem, D0f1, D0z]; done) | (simp [go_sem, D0c0, D0c1, D0f0, D0f1, D0z, D1c0, D1c1, D1f0, D1f1, D1z, D2c0, D2c1, D2f0, D2f1, D2z]; done)) (by first | assumption | omega | (simp; done) | (simp; omega))
    have E1 := box2 hb (w.heap.size + 1 + 1) (.int .u64 0) (.int .u64 0) (by first | assumption | (refine (Below.cell ?_ D1z).trans D1c0; go_grown; done) | (simp [go_sem, D1c0]; done) | (simp [go_sem, D1c0, D1z]; done) | (simp [go_sem, D0c0, D0c1, D0f0, D0f1, D0z, D1c0, D1c1, D1f0, D1f1, D1z, D2c0, D2c1, D2f0, D2f1, D2z]; done)) (by first | assumption | (refine (Below.cell ?_ D1z).trans D1c1; go_grown; done) | (simp [go_sem, D1c1]; done) | (simp [go_sem, D1c1, D1z]; done) | (simp [go_sem, D0c0, D0c1, D0f0, D0f1, D0z, D1c0, D1c1, D1f0, D1f1, D1z, D2c0, D2c1, D2f0, D2f1, D2z]; done)) (by first | assumption | (refine (Below.frozen ?_ D1z).trans D1f0; go_grown; done) | (simp [go_sem, D1f0]; done) | (simp [go_sem, D1f0, D1z]; done) | (simp [go_sem, D0c0, D0c1, D0f0, D0f1, D0z, D1c0, D1c1, D1f0, D1f1, D1z, D2c0, D2c1, D2f0, D2f1, D2z]; done)) (by first | assumption | (refine (Below.frozen ?_ D1z).trans D1f1; go_grown; done) | (simp [go_sem, D1f1]; done) | (simp [go_sem, D1f1, D1z]; done) | (simp [go_sem, D0c0, D0c1, D0f0, D0f1, D0z, D1c0, D1c1, D1f0, D1f1, D1z, D2c0, D2c1, D2f0, D2f1, D2z]; done)) (by first | assumption | omega | (simp; done) | (simp; omega))
    have E2 := box2 hb (w.heap.size + 1 + 1 + 1) (.int .u64 0) (.int .u64 0) (by first | assumption | (refine (Below.cell ?_ D2z).trans D2c0; go_grown; done) | (simp [go_sem, D2c0]; done) | (simp [go_sem, D2c0, D2z]; done) | (simp [go_sem, D0c0, D0c1, D0f0, D0f1, D0z, D1c0, D1c1, D1f0, D1f1, D1z, D2c0, D2c1, D2f0, D2f1, D2z]; done)) (by first | assumption | (refine (Below.cell ?_ D2z).trans D2c1; go_grown; done) | (simp [go_sem, D2c1]; done) | (simp [go_sem, D2c1, D2z]; done) | (simp [go_sem, D0c0, D0c1, D0f0, D0f1, D0z, D1c0, D1c1, D1f0, D1f1, D1z, D2c0, D2c1, D2f0, D2f1, D2z]; done)) (by first | assumption | (refine (Below.frozen ?_ D2z).trans D2f0; go_grown; done) | (simp [go_sem, D2f0]; done) | (simp [go_sem, D2f0, D2z]; done) | (simp [go_sem, D0c0, D0c1, D0f0, D0f1, D0z, D1c0, D1c1, D1f0, D1f1, D1z, D2c0, D2c1, D2f0, D2f1, D2z]; done)) (by first | assumption | (refine (Below.frozen ?_ D2z).trans D2f1; go_grown; done) | (simp [go_sem, D2f1]; done) | (simp [go_sem, D2f1, D2z]; done) | (simp [go_sem, D0c0, D0c1, D0f0, D0f1, D0z, D1c0, D1c1, D1f0, D1f1, D1z, D2c0, D2c1, D2f0, D2f1, D2z]; done)) (by first | assumption | omega | (simp; done) | (simp; omega))
    have E3 := box2 hb (w3.heap.size) (.int .u64 r0) (.int .u64 r1) (by first | assumption | (simp [go_sem]; done) | (simp [go_sem, D0c0, D0c1, D0f0, D0f1, D0z, D1c0, D1c1, D1f0, D1f1, D1z, D2c0, D2c1, D2f0, D2f1, D2z]; done)) (by first | assumption | (simp [go_sem]; done) | (simp [go_sem, D0c0, D0c1, D0f0, D0f1, D0z, D1c0, D1c1, D1f0, D1f1, D1z, D2c0, D2c1, D2f0, D2f1, D2z]; done)) (by first | assumption | (simp [go_sem]; done) | (simp [go_sem, D0c0, D0c1, D0f0, D0f1, D0z, D1c0, D1c1, D1f0, D1f1, D1z, D2c0, D2c1, D2f0, D2f1, D2z]; done)) (by first | assumption | (simp [go_sem]; done) | (simp [go_sem, D0c0, D0c1, D0f0, D0f1, D0z, D1c0, D1c1, D1f0, D1f1, D1z, D2c0, D2c1, D2f0, D2f1, D2z]; done)) (by first | assumption | omega | (simp; done) | (simp; omega))
    clear D0c0 D0c1 D0f0 D0f1 D0z D1c0 D1c1 D1f0 D1f1 D1z D2c0 D2c1 D2f0 D2f1 D2z
    obtain ⟨E0c0, E0c1, E0f0, E0f1, E0z⟩ := E0
    obtain ⟨E1c0, E1c1, E1f0, E1f1, E1z⟩ := E1
    obtain ⟨E2c0, E2c1, E2f0, E2f1, E2z⟩ := E2
    obtain ⟨E3c0, E3c1, E3f0, E3f1, E3z⟩ := E3
    clear hb B2 kb
    have ep' := ep.out
    clear ep
    go_wp2_with fail
    refine (kn _).mono ?_
    rintro e w5 ⟨rfl, hb⟩
    have B4 : Below w.heap.size w w5 := B3.trans (hb.mono B3.size)
    have F0 := box2 hb (w.heap.size + 1) (.int .u64 b0) (.int .u64 b1) (by first | assumption | (refine (Below.cell ?_ E0z).trans E0c0; go_grown; done) | (simp [go_sem, E0c0]; done) | (simp [go_sem, E0c0, E0z]; done) | (simp [go_sem, E0c0, E0c1, E0f0, E0f1, E0z, E1c0, E1c1, E1f0, E1f1, E1z, E2c0, E2c1, E2f0, E2f1, E2z, E3c0, E3c1, E3f0, E3f1, E3z]; done)) (by first | assumption | (refine (Below.cell ?_ E0z).trans E0c1; go_grown; done) | (simp [go_sem, E0c1]; done) | (simp [go_sem, E0c1, E0z]; done) | (simp [go_sem, E0c0, E0c1, E0f0, E0f1, E0z, E1c0, E1c1, E1f0, E1f1, E1z, E2c0, E2c1, E2f0, E2f1, E2z, E3c0, E3c1, E3f0, E3f1, E3z]; done)) (by first | assumption | (refine (Below.frozen ?_ E0z).trans E0f0; go_grown; done) | (simp [go_sem, E0f0]; done) | (simp [go_sem, E0f0, E0z]; done) | (simp [go_sem, E0c0, E0c1, E0f0, E0f1, E0z, E1c0, E1c1, E1f0, E1f1, E1z, E2c0, E2c1, E2f0, E2f1, E2z, E3c0, E3c1, E3f0, E3f1, E3z]; done)) (by first | assumption | (refine (Below.frozen ?_ E0z).trans E0f1; go_grown; done) | (simp [go_sem, E0f1]; done) | (simp [go_sem, E0f1, E0z]; done) | (simp [go_sem, E0c0, E0c1, E0f0, E0f1, E0z, E1c0, E1c1, E1f0, E1f1, E1z, E2c0, E2c1, E2f0, E2f1, E2z, E3c0, E3c1, E3f0, E3f1, E3z]; done)) (by first | assumption | omega | (simp; done) | (simp; omega))
    have F1 := box2 hb (w.heap.size + 1 + 1) (.int .u64 0) (.int .u64 0) (by first | assumption | (refine (Below.cell ?_ E1z).trans E1c0; go_grown; done) | (simp [go_sem, E1c0]; done) | (simp [go_sem, E1c0, E1z]; done) | (simp [go_sem, E0c0, E0c1, E0f0, E0f1, E0z, E1c0, E1c1, E1f0, E1f1, E1z, E2c0, E2c1, E2f0, E2f1, E2z, E3c0, E3c1, E3f0, E3f1, E3z]; done)) (by first | assumption | (refine (Below.cell ?_ E1z).trans E1c1; go_grown; done) | (simp [go_sem, E1c1]; done) | (simp [go_sem, E1c1, E1z]; done) | (simp [go_sem, E0c0, E0c1, E0f0, E0f1, E0z, E1c0, E1c1, E1f0, E1f1, E1z, E2c0, E2c1, E2f0, E2f1, E2z, E3c0, E3c1, E3f0, E3f1, E3z]; done)) (by first | assumption | (refine (Below.frozen ?_ E1z).trans E1f0; go_grown; done) | (simp [go_sem, E1f0]; done) | (simp [go_sem, E1f0, E1z]; done) | (simp [go_sem, E0c0, E0c1, E0f0, E0f1, E0z, E1c0, E1c1, E1f0, E1f1, E1z, E2c0, E2c1, E2f0, E2f1, E2z, E3c0, E3c1, E3f0, E3f1, E3z]; done)) (by first | assumption | (refine (Below.frozen ?_ E1z).trans E1f1; go_grown; done) | (simp [go_sem, E1f1]; done) | (simp [go_sem, E1f1, E1z]; done) | (simp [go_sem, E0c0, E0c1, E0f0, E0f1, E0z, E1c0, E1c1, E1f0, E1f1, E1z, E2c0, E2c1, E2f0, E2f1, E2z, E3c0, E3c1, E3f0, E3f1, E3z]; done)) (by first | assumption | omega | (simp; done) | (simp; omega))
    have F2 := box2 hb (w.heap.size + 1 + 1 + 1) (.int .u64 0) (.int .u64 0) (by first | assumption | (refine (Below.cell ?_ E2z).trans E2c0; go_grown; done) | (simp [go_sem, E2c0]; done) | (simp [go_sem, E2c0, E2z]; done) | (simp [go_sem, E0c0, E0c1, E0f0, E0f1, E0z, E1c0, E1c1, E1f0, E1f1, E1z, E2c0, E2c1, E2f0, E2f1, E2z, E3c0, E3c1, E3f0, E3f1, E3z]; done)) (by first | assumption | (refine (Below.cell ?_ E2z).trans E2c1; go_grown; done) | (simp [go_sem, E2c1]; done) | (simp [go_sem, E2c1, E2z]; done) | (simp [go_sem, E0c0, E0c1, E0f0, E0f1, E0z, E1c0, E1c1, E1f0, E1f1, E1z, E2c0, E2c1, E2f0, E2f1, E2z, E3c0, E3c1, E3f0, E3f1, E3z]; done)) (by first | assumption | (refine (Below.frozen ?_ E2z).trans E2f0; go_grown; done) | (simp [go_sem, E2f0]; done) | (simp [go_sem, E2f0, E2z]; done) | (simp [go_sem, E0c0, E0c1, E0f0, E0f1, E0z, E1c0, E1c1, E1f0, E1f1, E1z, E2c0, E2c1, E2f0, E2f1, E2z, E3c0, E3c1, E3f0, E3f1, E3z]; done)) (by first | assumption | (refine (Below.frozen ?_ E2z).trans E2f1; go_grown; done) | (simp [go_sem, E2f1]; done) | (simp [go_sem, E2f1, E2z]; done) | (simp [go_sem, E0c0, E0c1, E0f0, E0f1, E0z, E1c0, E1c1, E1f0, E1f1, E1z, E2c0, E2c1, E2f0, E2f1, E2z, E3c0, E3c1, E3f0, E3f1, E3z]; done)) (by first | assumption | omega | (simp; done) | (simp; omega))
    have F3 := box2 hb (w3.heap.size) (.int .u64 r0) (.int .u64 r1) (by first | assumption | (refine (Below.cell ?_ E3z).trans E3c0; go_grown; done) | (simp [go_sem, E3c0]; done) | (simp [go_sem, E3c0, E3z]; done) | (simp [go_sem, E0c0, E0c1, E0f0, E0f1, E0z, E1c0, E1c1, E1f0, E1f1, E1z, E2c0, E2c1, E2f0, E2f1, E2z, E3c0, E3c1, E3f0, E3f1, E3z]; done)) (by first | assumption | (refine (Below.cell ?_ E3z).trans E3c1; go_grown; done) | (simp [go_sem, E3c1]; done) | (simp [go_sem, E3c1, E3z]; done) | (simp [go_sem, E0c0, E0c1, E0f0, E0f1, E0z, E1c0, E1c1, E1f0, E1f1, E1z, E2c0, E2c1, E2f0, E2f1, E2z, E3c0, E3c1, E3f0, E3f1, E3z]; done)) (by first | assumption | (refine (Below.frozen ?_ E3z).trans E3f0; go_grown; done) | (simp [go_sem, E3f0]; done) | (simp [go_sem, E3f0, E3z]; done) | (simp [go_sem, E0c0, E0c1, E0f0, E0f1, E0z, E1c0, E1c1, E1f0, E1f1, E1z, E2c0, E2c1, E2f0, E2f1, E2z, E3c0, E3c1, E3f0, E3f1, E3z]; done)) (by first | assumption | (refine (Below.frozen ?_ E3z).trans E3f1; go_grown; done) | (simp [go_sem, E3f1]; done) | (simp [go_sem, E3f1, E3z]; done) | (simp [go_sem, E0c0, E0c1, E0f0, E0f1, E0z, E1c0, E1c1, E1f0, E1f1, E1z, E2c0, E2c1, E2f0, E2f1, E2z, E3c0, E3c1, E3f0, E3f1, E3z]; done)) (by first | assumption | omega | (simp; done) | (simp; omega))
    clear E0c0 E0c1 E0f0 E0f1 E0z E1c0 E1c1 E1f0 E1f1 E1z E2c0 E2c1 E2f0 E2f1 E2z E3c0 E3c1 E3f0 E3f1 E3z
    obtain ⟨F0c0, F0c1, F0f0, F0f1, F0z⟩ := F0
    obtain ⟨F1c0, F1c1, F1f0, F1f1, F1z⟩ := F1
    obtain ⟨F2c0, F2c1, F2f0, F2f1, F2z⟩ := F2
    obtain ⟨F3c0, F3c1, F3f0, F3f1, F3z⟩ := F3
    clear hb B3 kn
    go_wp2_with fail
    go_region
    all_goals go_wp2
    all_goals
      refine bodyPost_ret (by simp [results, Try.results51, go_sem, F1c0, F1c1, F2c0, F2c1]; try rfl) rfl ?_
      exact ⟨rfl, by go_grown⟩
  · skip
    go_wp2_with fail
    refine (kt _).mono ?_
    rintro e w2 ⟨rfl, hb⟩
    have B1 : Below w.heap.size w w2 := B0.trans (hb.mono B0.size)
    have y1 := B1.size
    have C0 := box2 hb (w.heap.size) (.int .u64 a0) (.int .u64 a1) (by first | assumption | (refine (Below.cell ?_ A0z).trans A0c0; go_grown; done) | (simp [go_sem, A0c0]; done) | (simp [go_sem, A0c0, A0z]; done) | (simp [go_sem, A0c0, A0c1, A0f0, A0f1, A0z, A1c0, A1c1, A1f0, A1f1, A1z, A2c0, A2c1, A2f0, A2f1, A2z, A3c0, A3c1, A3f0, A3f1, A3z]; done)) (by first | assumption | (refine (Below.cell ?_ A0z).trans A0c1; go_grown; done) | (simp [go_sem, A0c1]; done) | (simp [go_sem, A0c1, A0z]; done) | (simp [go_sem, A0c0, A0c1, A0f0, A0f1, A0z, A1c0, A1c1, A1f0, A1f1, A1z, A2c0, A2c1, A2f0, A2f1, A2z, A3c0, A3c1, A3f0, A3f1, A3z]; done)) (by first | assumption | (refine (Below.frozen ?_ A0z).trans A0f0; go_grown; done) | (simp [go_sem, A0f0]; done) | (simp [go_sem, A0f0, A0z]; done) | (simp [go_sem, A0c0, A0c1, A0f0, A0f1, A0z, A1c0, A1c1, A1f0, A1f1, A1z, A2c0, A2c1, A2f0, A2f1, A2z, A3c0, A3c1, A3f0, A3f1, A3z]; done)) (by first | assumption | (refine (Below.frozen ?_ A0z).trans A0f1; go_grown; done) | (simp [go_sem, A0f1]; done) | (simp [go_sem, A0f1, A0z]; done) | (simp [go_sem, A0c0, A0c1, A0f0, A0f1, A0z, A1c0, A1c1, A1f0, A1f1, A1z, A2c0, A2c1, A2f0, A2f1, A2z, A3c0, A3c1, A3f0, A3f1, A3z]; done)) (by first | assumption | omega | (simp; done) | (simp; omega))
    have C1 := box2 hb (w.heap.size + 1) (.int .u64 b0) (.int .u64 b1) (by first | assumption | (refine (Below.cell ?_ A1z).trans A1c0; go_grown; done) | (simp [go_sem, A1c0]; done) | (simp [go_sem, A1c0, A1z]; done) | (simp [go_sem, A0c0, A0c1, A0f0, A0f1, A0z, A1c0, A1c1, A1f0, A1f1, A1z, A2c0, A2c1, A2f0, A2f1, A2z, A3c0, A3c1, A3f0, A3f1, A3z]; done)) (by first | assumption | (refine (Below.cell ?_ A1z).trans A1c1; go_grown; done) | (simp [go_sem, A1c1]; done) | (simp [go_sem, A1c1, A1z]; done) | (simp [go_sem, A0c0, A0c1, A0f0, A0f1, A0z, A1c0, A1c1, A1f0, A1f1, A1z, A2c0, A2c1, A2f0, A2f1, A2z, A3c0, A3c1, A3f0, A3f1, A3z]; done)) (by first | assumption | (refine (Below.frozen ?_ A1z).trans A1f0; go_grown; done) | (simp [go_sem, A1f0]; done) | (simp [go_sem, A1f0, A1z]; done) | (simp [go_sem, A0c0, A0c1, A0f0, A0f1, A0z, A1c0, A1c1, A1f0, A1f1, A1z, A2c0, A2c1, A2f0, A2f1, A2z, A3c0, A3c1, A3f0, A3f1, A3z]; done)) (by first | assumption | (refine (Below.frozen ?_ A1z).trans A1f1; go_grown; done) | (simp [go_sem, A1f1]; done) | (simp [go_sem, A1f1, A1z]; done) | (simp [go_sem, A0c0, A0c1, A0f0, A0f1, A0z, A1c0, A1c1, A1f0, A1f1, A1z, A2c0, A2c1, A2f0, A2f1, A2z, A3c0, A3c1, A3f0, A3f1, A3z]; done)) (by first | assumption | omega | (simp; done) | (simp; omega))
    have C2 := box2 hb (w.heap.size + 1 + 1) (.int .u64 0) (.int .u64 0) (by first | assumption | (refine (Below.cell ?_ A2z).trans A2c0; go_grown; done) | (simp [go_sem, A2c0]; done) | (simp [go_sem, A2c0, A2z]; done) | (simp [go_sem, A0c0, A0c1, A0f0, A0f1, A0z, A1c0, A1c1, A1f0, A1f1, A1z, A2c0, A2c1, A2f0, A2f1, A2z, A3c0, A3c1, A3f0, A3f1, A3z]; done)) (by first | assumption | (refine (Below.cell ?_ A2z).trans A2c1; go_grown; done) | (simp [go_sem, A2c1]; done) | (simp [go_sem, A2c1, A2z]; done) | (simp [go_sem, A0c0, A0c1, A0f0, A0f1, A0z, A1c0, A1c1, A1f0, A1f1, A1z, A2c0, A2c1, A2f0, A2f1, A2z, A3c0, A3c1, A3f0, A3f1, A3z]; done)) (by first | assumption | (refine (Below.frozen ?_ A2z).trans A2f0; go_grown; done) | (simp [go_sem, A2f0]; done) | (simp [go_sem, A2f0, A2z]; done) | (simp [go_sem, A0c0, A0c1, A0f0, A0f1, A0z, A1c0, A1c1, A1f0, A1f1, A1z, A2c0, A2c1, A2f0, A2f1, A2z, A3c0, A3c1, A3f0, A3f1, A3z]; done)) (by first | assumption | (refine (Below.frozen ?_ A2z).trans A2f1; go_grown; done) | (simp [go_sem, A2f1]; done) | (simp [go_sem, A2f1, A2z]; done) | (simp [go_sem, A0c0, A0c1, A0f0, A0f1, A0z, A1c0, A1c1, A1f0, A1f1, A1z, A2c0, A2c1, A2f0, A2f1, A2z, A3c0, A3c1, A3f0, A3f1, A3z]; done)) (by first | assumption | omega | (simp; done) | (simp; omega))
    have C3 := box2 hb (w.heap.size + 1 + 1 + 1) (.int .u64 0) (.int .u64 0) (by first | assumption | (refine (Below.cell ?_ A3z).trans A3c0; go_grown; done) | (simp [go_sem, A3c0]; done) | (simp [go_sem, A3c0, A3z]; done) | (simp [go_sem, A0c0, A0c1, A0f0, A0f1, A0z, A1c0, A1c1, A1f0, A1f1, A1z, A2c0, A2c1, A2f0, A2f1, A2z, A3c0, A3c1, A3f0, A3f1, A3z]; done)) (by first | assumption | (refine (Below.cell ?_ A3z).trans A3c1; go_grown; done) | (simp [go_sem, A3c1]; done) | (simp [go_sem, A3c1, A3z]; done) | (simp [go_sem, A0c0, A0c1, A0f0, A0f1, A0z, A1c0, A1c1, A1f0, A1f1, A1z, A2c0, A2c1, A2f0, A2f1, A2z, A3c0, A3c1, A3f0, A3f1, A3z]; done)) (by first | assumption | (refine (Below.frozen ?_ A3z).trans A3f0; go_grown; done) | (simp [go_sem, A3f0]; done) | (simp [go_sem, A3f0, A3z]; done) | (simp [go_sem, A0c0, A0c1, A0f0, A0f1, A0z, A1c0, A1c1, A1f0, A1f1, A1z, A2c0, A2c1, A2f0, A2f1, A2z, A3c0, A3c1, A3f0, A3f1, A3z]; done)) (by first | assumption | (refine (Below.frozen ?_ A3z).trans A3f1; go_grown; done) | (simp [go_sem, A3f1]; done) | (simp [go_sem, A3f1, A3z]; done) | (simp [go_sem, A0c0, A0c1, A0f0, A0f1, A0z, A1c0, A1c1, A1f0, A1f1, A1z, A2c0, A2c1, A2f0, A2f1, A2z, A3c0, A3c1, A3f0, A3f1, A3z]; done)) (by first | assumption | omega | (simp; done) | (simp; omega))
    clear A0c0 A0c1 A0f0 A0f1 A0z A1c0 A1c1 A1f0 A1f1 A1z A2c0 A2c1 A2f0 A2f1 A2z A3c0 A3c1 A3f0 A3f1 A3z
    obtain ⟨C0c0, C0c1, C0f0, C0f1, C0z⟩ := C0
    obtain ⟨C1c0, C1c1, C1f0, C1f1, C1z⟩ := C1
    obtain ⟨C2c0, C2c1, C2f0, C2f1, C2z⟩ := C2
    obtain ⟨C3c0, C3c1, C3f0, C3f1, C3z⟩ := C3
    clear hb B0 kt
    go_wp2_with fail
    refine (km _).mono ?_
    rintro e w3 ⟨rfl, hb⟩
    have B2 : Below w.heap.size w w3 := Below.trans (by go_grown) (hb.mono (by first | (simp; done) | omega | (simp; omega)))
    have y2 := B2.size
    have D0 := box2 hb (w.heap.size + 1) (.int .u64 b0) (.int .u64 b1) (by first | assumption | (refine (Below.cell ?_ C1z).trans C1c0; go_grown; done) | (simp [go_sem, C1c0]; done) | (simp [go_sem, C1c0, C1z]; done) | (simp [go_sem, C0c0, C0c1, C0f0, C0f1, C0z, C1c0, C1c1, C1f0, C1f1, C1z, C2c0, C2c1, C2f0, C2f1, C2z, C3c0, C3c1, C3f0, C3f1, C3z]; done)) (by first | assumption | (refine (Below.cell ?_ C1z).trans C1c1; go_grown; done) | (simp [go_sem, C1c1]; done) | (simp [go_sem, C1c1, C1z]; done) | (simp [go_sem, C0c0, C0c1, C0f0, C0f1, C0z, C1c0, C1c1, C1f0, C1f1, C1z, C2c0, C2c1, C2f0, C2f1, C2z, C3c0, C3c1, C3f0, C3f1, C3z]; done)) (by first | assumption | (refine (Below.frozen ?_ C1z).trans C1f0; go_grown; done) | (simp [go_sem, C1f0]; done) | (simp [go_sem, C1f0, C1z]; done) | (simp [go_sem, C0c0, C0c1, C0f0, C0f1, C0z, C1c0, C1c1, C1f0, C1f1, C1z, C2c0, C2c1, C2f0, C2f1, C2z, C3c0, C3c1, C3f0, C3f1, C3z]; done)) (by first | assumption | (refine (Below.frozen ?_ C1z).trans C1f1; go_grown; done) | (simp [go_sem, C1f1]; done) | (simp [go_sem, C1f1, C1z]; done) | (simp [go_sem, C0c0, C0c1, C0f0, C0f1, C0z, C1c0, C1c1, C1f0, C1f1, C1z, C2c0, C2c1, C2f0, C2f1, C2z, C3c0, C3c1, C3f0, C3f1, C3z]; done)) (by first | assumption | omega | (simp; done) | (simp; omega))
    have D1 := box2 hb (w.heap.size + 1 + 1) (.int .u64 0) (.int .u64 0) (by first | assumption | (refine (Below.cell ?_ C2z).trans C2c0; go_grown; done) | (simp [go_sem, C2c0]; done) | (simp [go_sem, C2c0, C2z]; done) | (simp [go_sem, C0c0, C0c1, C0f0, C0f1, C0z, C1c0, C1c1, C1f0, C1f1, C1z, C2c0, C2c1, C2f0, C2f1, C2z, C3c0, C3c1, C3f0, C3f1, C3z]; done)) (by first | assumption | (refine (Below.cell ?_ C2z).trans C2c1; go_grown; done) | (simp [go_sem, C2c1]; done) | (simp [go_sem, C2c1, C2z]; done) | (simp [go_sem, C0c0, C0c1, C0f0, C0f1, C0z, C1c0, C1c1, C1f0, C1f1, C1z, C2c0, C2c1, C2f0, C2f1, C2z, C3c0, C3c1, C3f0, C3f1, C3z]; done)) (by first | assumption | (refine (Below.frozen ?_ C2z).trans C2f0; go_grown; done) | (simp [go_sem, C2f0]; done) | (simp [go_sem, C2f0, C2z]; done) | (simp [go_sem, C0c0, C0c1, C0f0, C0f1, C0z, C1c0, C1c1, C1f0, C1f1, C1z, C2c0, C2c1, C2f0, C2f1, C2z, C3c0, C3c1, C3f0, C3f1, C3z]; done)) (by first | assumption | (refine (Below.frozen ?_ C2z).trans C2f1; go_grown; done) | (simp [go_sem, C2f1]; done) | (simp [go_sem, C2f1, C2z]; done) | (simp [go_sem, C0c0, C0c1, C0f0, C0f1, C0z, C1c0, C1c1, C1f0, C1f1, C1z, C2c0, C2c1, C2f0, C2f1, C2z, C3c0, C3c1, C3f0, C3f1, C3z]; done)) (by first | assumption | omega | (simp; done) | (simp; omega))
    have D2 := box2 hb (w.heap.size + 1 + 1 + 1) (.int .u64 0) (.int .u64 0) (by first | assumption | (refine (Below.cell ?_ C3z).trans C3c0; go_grown; done) | (simp [go_sem, C3c0]; done) | (simp [go_sem, C3c0, C3z]; done) | (simp [go_sem, C0c0, C0c1, C0f0, C0f1, C0z, C1c0, C1c1, C1f0, C1f1, C1z, C2c0, C2c1, C2f0, C2f1, C2z, C3c0, C3c1, C3f0, C3f1, C3z]; done)) (by first | assumption | (refine (Below.cell ?_ C3z).trans C3c1; go_grown; done) | (simp [go_sem, C3c1]; done) | (simp [go_sem, C3c1, C3z]; done) | (simp [go_sem, C0c0, C0c1, C0f0, C0f1, C0z, C1c0, C1c1, C1f0, C1f1, C1z, C2c0, C2c1, C2f0, C2f1, C2z, C3c0, C3c1, C3f0, C3f1, C3z]; done)) (by first | assumption | (refine (Below.frozen ?_ C3z).trans C3f0; go_grown; done) | (simp [go_sem, C3f0]; done) | (simp [go_sem, C3f0, C3z]; done) | (simp [go_sem, C0c0, C0c1, C0f0, C0f1, C0z, C1c0, C1c1, C1f0, C1f1, C1z, C2c0, C2c1, C2f0, C2f1, C2z, C3c0, C3c1, C3f0, C3f1, C3z]; done)) (by first | assumption | (refine (Below.frozen ?_ C3z).trans C3f1; go_grown; done) | (simp [go_sem, C3f1]; done) | (simp [go_sem, C3f1, C3z]; done) | (simp [go_sem, C0c0, C0c1, C0f0, C0f1, C0z, C1c0, C1c1, C1f0, C1f1, C1z, C2c0, C2c1, C2f0, C2f1, C2z, C3c0, C3c1, C3f0, C3f1, C3z]; done)) (by first | assumption | omega | (simp; done) | (simp; omega))
    clear C0c0 C0c1 C0f0 C0f1 C0z C1c0 C1c1 C1f0 C1f1 C1z C2c0 C2c1 C2f0 C2f1 C2z C3c0 C3c1 C3f0 C3f1 C3z
    obtain ⟨D0c0, D0c1, D0f0, D0f1, D0z⟩ := D0
    obtain ⟨D1c0, D1c1, D1f0, D1f1, D1z⟩ := D1
    obtain ⟨D2c0, D2c1, D2f0, D2f1, D2z⟩ := D2
    clear hb B1 km
    go_wp2_with fail
    refine (kb _).mono ?_
    rintro e w4 ⟨rfl, hb⟩
    have B3 : Below w.heap.size w w4 := Below.trans (by go_grown) (hb.mono (by first | (simp; done) | omega | (simp; omega)))
    have y3 := B3.size
    have ne1 : ¬ w.heap.size + 1 + 1 = w3.heap.size := by omega
    have ne2 : ¬ w.heap.size + 1 + 1 + 1 = w3.heap.size := by omega
    have ne3 : ¬ w3.heap.size = w.heap.size + 1 + 1 := by omega
    have ne4 : ¬ w3.heap.size = w.heap.size + 1 + 1 + 1 := by omega
    have E0 := box2 hb (w.heap.size + 1) (.int .u64 b0) (.int .u64 b1) (by first | assumption | (refine (Below.cell ?_ D0z).trans D0c0; go_grown; done) | (simp [go_sem, D0c0]; done) | (simp [go_sem, D0c0, D0z]; done) | (simp [go_sem, D0c0, D0c1, D0f0, D0f1, D0z, D1c0, D1c1, D1f0, D1f1, D1z, D2c0, D2c1, D2f0, D2f1, D2z]; done)) (by first | assumption | (refine (Below.cell ?_ D0z).trans D0c1; go_grown; done) | (simp [go_sem, D0c1]; done) | (simp [go_sem, D0c1, D0z]; done) | (simp [go_sem, D0c0, D0c1, D0f0, D0f1, D0z, D1c0, D1c1, D1f0, D1f1, D1z, D2c0, D2c1, D2f0, D2f1, D2z]; done)) (by first | assumption | (refine (Below.frozen ?_ D0z).trans D0f0; go_grown; done) | (simp [go_sem, D0f0]; done) | (simp [go_sem, D0f0, D0z]; done) | (simp [go_sem, D0c0, D0c1, D0f0, D0f1, D0z, D1c0, D1c1, D1f0, D1f1, D1z, D2c0, D2c1, D2f0, D2f1, D2z]; done)) (by first | assumption | (refine (Below.frozen ?_ D0z).trans D0f1; go_grown; done) | (simp [go_sem, D0f1]; done) | (simp [go_sem, D0f1, D0z]; done) | (simp [go_sem, D0c0, D0c1, D0f0, D0f1, D0z, D1c0, D1c1, D1f0, D1f1, D1z, D2c0, D2c1, D2f0, D2f1, D2z]; done)) (by first | assumption | omega | (simp; done) | (simp; omega))
    have E1 := box2 hb (w.heap.size + 1 + 1) (.int .u64 0) (.int .u64 0) (by first | assumption | (refine (Below.cell ?_ D1z).trans D1c0; go_grown; done) | (simp [go_sem, D1c0]; done) | (simp [go_sem, D1c0, D1z]; done) | (simp [go_sem, D0c0, D0c1, D0f0, D0f1, D0z, D1c0, D1c1, D1f0, D1f1, D1z, D2c0, D2c1, D2f0, D2f1, D2z]; done)) (by first | assumption | (refine (Below.cell ?_ D1z).trans D1c1; go_grown; done) | (simp [go_sem, D1c1]; done) | (simp [go_sem, D1c1, D1z]; done) | (simp [go_sem, D0c0, D0c1, D0f0, D0f1, D0z, D1c0, D1c1, D1f0, D1f1, D1z, D2c0, D2c1, D2f0, D2f1, D2z]; done)) (by first | assumption | (refine (Below.frozen ?_ D1z).trans D1f0; go_grown; done) | (simp [go_sem, D1f0]; done) | (simp [go_sem, D1f0, D1z]; done) | (simp [go_sem, D0c0, D0c1, D0f0, D0f1, D0z, D1c0, D1c1, D1f0, D1f1, D1z, D2c0, D2c1, D2f0, D2f1, D2z]; done)) (by first | assumption | (refine (Below.frozen ?_ D1z).trans D1f1; go_grown; done) | (simp [go_sem, D1f1]; done) | (simp [go_sem, D1f1, D1z]; done) | (simp [go_sem, D0c0, D0c1, D0f0, D0f1, D0z, D1c0, D1c1, D1f0, D1f1, D1z, D2c0, D2c1, D2f0, D2f1, D2z]; done)) (by first | assumption | omega | (simp; done) | (simp; omega))
    have E2 := box2 hb (w.heap.size + 1 + 1 + 1) (.int .u64 0) (.int .u64 0) (by first | assumption | (refine (Below.cell ?_ D2z).trans D2c0; go_grown; done) | (simp [go_sem, D2c0]; done) | (simp [go_sem, D2c0, D2z]; done) | (simp [go_sem, D0c0, D0c1, D0f0, D0f1, D0z, D1c0, D1c1, D1f0, D1f1, D1z, D2c0, D2c1, D2f0, D2f1, D2z]; done)) (by first | assumption | (refine (Below.cell ?_ D2z).trans D2c1; go_grown; done) | (simp [go_sem, D2c1]; done) | (simp [go_sem, D2c1, D2z]; done) | (simp [go_sem, D0c0, D0c1, D0f0, D0f1, D0z, D1c0, D1c1, D1f0, D1f1, D1z, D2c0, D2c1, D2f0, D2f1, D2z]; done)) (by first | assumption | (refine (Below.frozen ?_ D2z).trans D2f0; go_grown; done) | (simp [go_sem, D2f0]; done) | (simp [go_sem, D2f0, D2z]; done) | (simp [go_sem, D0c0, D0c1, D0f0, D0f1, D0z, D1c0, D1c1, D1f0, D1f1, D1z, D2c0, D2c1, D2f0, D2f1, D2z]; done)) (by first | assumption | (refine (Below.frozen ?_ D2z).trans D2f1; go_grown; done) | (simp [go_sem, D2f1]; done) | (simp [go_sem, D2f1, D2z]; done) | (simp [go_sem, D0c0, D0c1, D0f0, D0f1, D0z, D1c0, D1c1, D1f0, D1f1, D1z, D2c0, D2c1, D2f0, D2f1, D2z]; done)) (by first | assumption | omega | (simp; done) | (simp; omega))
    have E3 := box2 hb (w3.heap.size) (.int .u64 r0) (.int .u64 r1) (by first | assumption | (simp [go_sem]; done) | (simp [go_sem, D0c0, D0c1, D0f0, D0f1, D0z, D1c0, D1c1, D1f0, D1f1, D1z, D2c0, D2c1, D2f0, D2f1, D2z]; done)) (by first | assumption | (simp [go_sem]; done) | (simp [go_sem, D0c0, D0c1, D0f0, D0f1, D0z, D1c0, D1c1, D1f0, D1f1, D1z, D2c0, D2c1, D2f0, D2f1, D2z]; done)) (by first | assumption | (simp [go_sem]; done) | (simp [go_sem, D0c0, D0c1, D0f0, D0f1, D0z, D1c0, D1c1, D1f0, D1f1, D1z, D2c0, D2c1, D2f0, D2f1, D2z]; done)) (by first | assumption | (simp [go_sem]; done) | (simp [go_sem, D0c0, D0c1, D0f0, D0f1, D0z, D1c0, D1c1, D1f0, D1f1, D1z, D2c0, D2c1, D2f0, D2f1, D2z]; done)) (by first | assumption | omega | (simp; done) | (simp; omega))
    clear D0c0 D0c1 D0f0 D0f1 D0z D1c0 D1c1 D1f0 D1f1 D1z D2c0 D2c1 D2f0 D2f1 D2z
    obtain ⟨E0c0, E0c1, E0f0, E0f1, E0z⟩ := E0
    obtain ⟨E1c0, E1c1, E1f0, E1f1, E1z⟩ := E1
    obtain ⟨E2c0, E2c1, E2f0, E2f1, E2z⟩ := E2
    obtain ⟨E3c0, E3c1, E3f0, E3f1, E3z⟩ := E3
    clear hb B2 kb
    have ep' := ep.out
    have e1 : (1 : Int) = p' := by rw [← ep']; decide
    subst e1
    clear ep
    go_wp2_with fail
    refine (kn _).mono ?_
    rintro e w5 ⟨rfl, hb⟩
    have B4 : Below w.heap.size w w5 := B3.trans (hb.mono B3.size)
    have F0 := box2 hb (w.heap.size + 1) (.int .u64 b0) (.int .u64 b1) (by first | assumption | (refine (Below.cell ?_ E0z).trans E0c0; go_grown; done) | (simp [go_sem, E0c0]; done) | (simp [go_sem, E0c0, E0z]; done) | (simp [go_sem, E0c0, E0c1, E0f0, E0f1, E0z, E1c0, E1c1, E1f0, E1f1, E1z, E2c0, E2c1, E2f0, E2f1, E2z, E3c0, E3c1, E3f0, E3f1, E3z]; done)) (by first | assumption | (refine (Below.cell ?_ E0z).trans E0c1; go_grown; done) | (simp [go_sem, E0c1]; done) | (simp [go_sem, E0c1, E0z]; done) | (simp [go_sem, E0c0, E0c1, E0f0, E0f1, E0z, E1c0, E1c1, E1f0, E1f1, E1z, E2c0, E2c1, E2f0, E2f1, E2z, E3c0, E3c1, E3f0, E3f1, E3z]; done)) (by first | assumption | (refine (Below.frozen ?_ E0z).trans E0f0; go_grown; done) | (simp [go_sem, E0f0]; done) | (simp [go_sem, E0f0, E0z]; done) | (simp [go_sem, E0c0, E0c1, E0f0, E0f1, E0z, E1c0, E1c1, E1f0, E1f1, E1z, E2c0, E2c1, E2f0, E2f1, E2z, E3c0, E3c1, E3f0, E3f1, E3z]; done)) (by first | assumption | (refine (Below.frozen ?_ E0z).trans E0f1; go_grown; done) | (simp [go_sem, E0f1]; done) | (simp [go_sem, E0f1, E0z]; done) | (simp [go_sem, E0c0, E0c1, E0f0, E0f1, E0z, E1c0, E1c1, E1f0, E1f1, E1z, E2c0, E2c1, E2f0, E2f1, E2z, E3c0, E3c1, E3f0, E3f1, E3z]; done)) (by first | assumption | omega | (simp; done) | (simp; omega))
    have F1 := box2 hb (w.heap.size + 1 + 1) (.int .u64 0) (.int .u64 0) (by first | assumption | (refine (Below.cell ?_ E1z).trans E1c0; go_grown; done) | (simp [go_sem, E1c0]; done) | (simp [go_sem, E1c0, E1z]; done) | (simp [go_sem, E0c0, E0c1, E0f0, E0f1, E0z, E1c0, E1c1, E1f0, E1f1, E1z, E2c0, E2c1, E2f0, E2f1, E2z, E3c0, E3c1, E3f0, E3f1, E3z]; done)) (by first | assumption | (refine (Below.cell ?_ E1z).trans E1c1; go_grown; done) | (simp [go_sem, E1c1]; done) | (simp [go_sem, E1c1, E1z]; done) | (simp [go_sem, E0c0, E0c1, E0f0, E0f1, E0z, E1c0, E1c1, E1f0, E1f1, E1z, E2c0, E2c1, E2f0, E2f1, E2z, E3c0, E3c1, E3f0, E3f1, E3z]; done)) (by first | assumption | (refine (Below.frozen ?_ E1z).trans E1f0; go_grown; done) | (simp [go_sem, E1f0]; done) | (simp [go_sem, E1f0, E1z]; done) | (simp [go_sem, E0c0, E0c1, E0f0, E0f1, E0z, E1c0, E1c1, E1f0, E1f1, E1z, E2c0, E2c1, E2f0, E2f1, E2z, E3c0, E3c1, E3f0, E3f1, E3z]; done)) (by first | assumption | (refine (Below.frozen ?_ E1z).trans E1f1; go_grown; done) | (simp [go_sem, E1f1]; done) | (simp [go_sem, E1f1, E1z]; done) | (simp [go_sem, E0c0, E0c1, E0f0, E0f1, E0z, E1c0, E1c1, E1f0, E1f1, E1z, E2c0, E2c1, E2f0, E2f1, E2z, E3c0, E3c1, E3f0, E3f1, E3z]; done)) (by first | assumption | omega | (simp; done) | (simp; omega))
    have F2 := box2 hb (w.heap.size + 1 + 1 + 1) (.int .u64 0) (.int .u64 0) (by first | assumption | (refine (Below.cell ?_ E2z).trans E2c0; go_grown; done) | (simp [go_sem, E2c0]; done) | (simp [go_sem, E2c0, E2z]; done) | (simp [go_sem, E0c0, E0c1, E0f0, E0f1, E0z, E1c0, E1c1, E1f0, E1f1, E1z, E2c0, E2c1, E2f0, E2f1, E2z, E3c0, E3c1, E3f0, E3f1, E3z]; done)) (by first | assumption | (refine (Below.cell ?_ E2z).trans E2c1; go_grown; done) | (simp [go_sem, E2c1]; done) | (simp [go_sem, E2c1, E2z]; done) | (simp [go_sem, E0c0, E0c1, E0f0, E0f1, E0z, E1c0, E1c1, E1f0, E1f1, E1z, E2c0, E2c1, E2f0, E2f1, E2z, E3c0, E3c1, E3f0, E3f1, E3z]; done)) (by first | assumption | (refine (Below.frozen ?_ E2z).trans E2f0; go_grown; done) | (simp [go_sem, E2f0]; done) | (simp [go_sem, E2f0, E2z]; done) | (simp [go_sem, E0c0, E0c1, E0f0, E0f1, E0z, E1c0, E1c1, E1f0, E1f1, E1z, E2c0, E2c1, E2f0, E2f1, E2z, E3c0, E3c1, E3f0, E3f1, E3z]; done)) (by first | assumption | (refine (Below.frozen ?_ E2z).trans E2f1; go_grown; done) | (simp [go_sem, E2f1]; done) | (simp [go_sem, E2f1, E2z]; done) | (simp [go_sem, E0c0, E0c1, E0f0, E0f1, E0z, E1c0, E1c1, E1f0, E1f1, E1z, E2c0, E2c1, E2f0, E2f1, E2z, E3c0, E3c1, E3f0, E3f1, E3z]; done)) (by first | assumption | omega | (simp; done) | (simp; omega))
    have F3 := box2 hb (w3.heap.size) (.int .u64 r0) (.int .u64 r1) (by first | assumption | (refine (Below.cell ?_ E3z).trans E3c0; go_grown; done) | (simp [go_sem, E3c0]; done) | (simp [go_sem, E3c0, E3z]; done) | (simp [go_sem, E0c0, E0c1, E0f0, E0f1, E0z, E1c0, E1c1, E1f0, E1f1, E1z, E2c0, E2c1, E2f0, E2f1, E2z, E3c0, E3c1, E3f0, E3f1, E3z]; done)) (by first | assumption | (refine (Below.cell ?_ E3z).trans E3c1; go_grown; done) | (simp [go_sem, E3c1]; done) | (simp [go_sem, E3c1, E3z]; done) | (simp [go_sem, E0c0, E0c1, E0f0, E0f1, E0z, E1c0, E1c1, E1f0, E1f1, E1z, E2c0, E2c1, E2f0, E2f1, E2z, E3c0, E3c1, E3f0, E3f1, E3z]; done)) (by first | assumption | (refine (Below.frozen ?_ E3z).trans E3f0; go_grown; done) | (simp [go_sem, E3f0]; done) | (simp [go_sem, E3f0, E3z]; done) | (simp [go_sem, E0c0, E0c1, E0f0, E0f1, E0z, E1c0, E1c1, E1f0, E1f1, E1z, E2c0, E2c1, E2f0, E2f1, E2z, E3c0, E3c1, E3f0, E3f1, E3z]; done)) (by first | assumption | (refine (Below.frozen ?_ E3z).trans E3f1; go_grown; done) | (simp [go_sem, E3f1]; done) | (simp [go_sem, E3f1, E3z]; done) | (simp [go_sem, E0c0, E0c1, E0f0, E0f1, E0z, E1c0, E1c1, E1f0, E1f1, E1z, E2c0, E2c1, E2f0, E2f1, E2z, E3c0, E3c1, E3f0, E3f1, E3z]; done)) (by first | assumption | omega | (simp; done) | (simp; omega))
    clear E0c0 E0c1 E0f0 E0f1 E0z E1c0 E1c1 E1f0 E1f1 E1z E2c0 E2c1 E2f0 E2f1 E2z E3c0 E3c1 E3f0 E3f1 E3z
    obtain ⟨F0c0, F0c1, F0f0, F0f1, F0z⟩ := F0
    obtain ⟨F1c0, F1c1, F1f0, F1f1, F1z⟩ := F1
    obtain ⟨F2c0, F2c1, F2f0, F2f1, F2z⟩ := F2
    obtain ⟨F3c0, F3c1, F3f0, F3f1, F3z⟩ := F3
    clear hb B3 kn
    go_wp2_with fail
    go_region
    all_goals go_wp2
    all_goals
      refine bodyPost_ret (by simp [results, Try.results51, go_sem, F1c0, F1c1, F2c0, F2c1]; try rfl) rfl ?_
      exact ⟨rfl, by go_grown⟩
end Go.Proofs.Ytebiddmadmmfpaa
/- wide.divide: the quotient and what is left, of every two amounts. -/
namespace Go.Proofs.Ytebiddmadmmfpaa
set_option linter.unusedVariables false
open Go.RowKit W
theorem times_fit (a1 a0 b1 b0 : Int) (i1 : IsLo a1) (i0 : IsLo a0) (j1 : IsLo b1) (j0 : IsLo b0) (z : a1 = 0 ∨ b1 = 0) (f : V a1 a0 * V b1 b0 < 340282366920938463463374607431768211456) (w : World) :
    Calls Try.prog 53 #[.agg #[.int .u64 a0, .int .u64 a1], .agg #[.int .u64 b0, .int .u64 b1]] w
      fun e w' => e = .returned (.tuple #[.agg #[.int .u64 (lo (V a1 a0 * V b1 b0)), .int .u64 (hi (V a1 a0 * V b1 b0))], .bool true]) ∧ Below w.heap.size w w' := by
  refine (times_yes a1 a0 b1 b0 i1 i0 j1 j0 z w).mono ?_
  rintro e w' ⟨p1, p0, ok, rfl, T, hb⟩
  cases ok
  · have := T.no rfl; omega
  · obtain ⟨e1, e0, _⟩ := T.yes rfl
    rw [e1, e0]
    exact ⟨rfl, hb⟩
theorem minus_fit (a1 a0 x : Int) (i0 : IsLo a0) (i1 : IsLo a1) (x0 : 0 ≤ x) (x1 : x ≤ V a1 a0) (w : World) :
    Calls Try.prog 72 #[.agg #[.int .u64 a0, .int .u64 a1], .agg #[.int .u64 (lo x), .int .u64 (hi x)]] w
      fun e w' => e = .returned (.agg #[.int .u64 (lo (V a1 a0 - x)), .int .u64 (hi (V a1 a0 - x))]) ∧ Below w.heap.size w w' := by
  have hx : IsLo (hi x) := by obtain ⟨_, _⟩ := i0; obtain ⟨_, _⟩ := i1; exact ⟨by unfold hi; omega, by unfold V at x1; unfold hi; omega⟩
  have m := minus_spec a1 a0 (hi x) (lo x) i0 i1 (isLo_lo x) hx w
  rw [V_hi_lo] at m
  have e : u (hi (V a1 a0 - x)) = hi (V a1 a0 - x) := by
    obtain ⟨_, _⟩ := i0; obtain ⟨_, _⟩ := i1; unfold V at x1; unfold u hi V; omega
  rw [e] at m
  exact m
/-- The highest 64 bits of a divisor of two words. -/
theorem high_word (b1 b0 : Int) (s : Nat) (hs : s < 64) (i0 : IsLo b0) : V b1 b0 = (b1 * 2 ^ s + b0 / 2 ^ (64 - s)) * 2 ^ (64 - s) + b0 % 2 ^ (64 - s) := by
  have e : (2 : Int) ^ s * 2 ^ (64 - s) = 18446744073709551616 := by rw [← Int.pow_add, show s + (64 - s) = 64 by omega]; decide
  have d := Int.mul_ediv_add_emod b0 (2 ^ (64 - s))
  rw [Int.mul_comm] at d
  rw [Int.add_mul, Int.mul_assoc, e]
  unfold V; omega
theorem pow_cases (s : Nat) (hs : s < 64) : (2 : Int) ^ (64 - s) = 2 ∨ 4 ≤ (2 : Int) ^ (64 - s) := by
  by_cases h : s = 63
  · subst h; exact .inl (by decide)
  · right
    have : 2 ^ 2 ≤ 2 ^ (64 - s) := Nat.pow_le_pow_right (by omega) (by omega)
    have e : (2 : Int) ^ (64 - s) = ((2 ^ (64 - s) : Nat) : Int) := by simp
    omega
theorem half_low (a1 a0 : Int) (i1 : IsLo a1) (i0 : IsLo a0) : bits .or .u64 (IntKind.u64.wrap (a1 * 9223372036854775808)) (a0 / 2) = lo (V a1 a0 / 2) := by
  obtain ⟨_, _⟩ := i1
  have w : IntKind.u64.wrap (a1 * 9223372036854775808) = IntKind.u64.wrap (a1 % 2 * 2 ^ 63) := by
    rw [IntKind.wrap_u64, IntKind.wrap_u64, show (2 : Int) ^ 63 = 9223372036854775808 by decide]; omega
  have m := move_or (a1 % 2) a0 63 (by omega) (by omega) (by rw [show (2 : Int) ^ 63 = 9223372036854775808 by decide]; omega) i0
  rw [show 64 - 63 = 1 by omega, Int.pow_one] at m
  rw [w, m, show (2 : Int) ^ 63 = 9223372036854775808 by decide]
  obtain ⟨_, _⟩ := i0
  unfold lo V; omega
theorem half_high (a1 a0 : Int) (i0 : IsLo a0) : a1 / 2 = hi (V a1 a0 / 2) := by obtain ⟨_, _⟩ := i0; unfold hi V; omega
set_option maxHeartbeats 1000000 in
theorem divide_spec (a1 a0 b1 b0 : Int) (i1 : IsLo a1) (i0 : IsLo a0) (j1 : IsLo b1) (j0 : IsLo b0) (n : V b1 b0 ≠ 0) (w : World) :
    Calls Try.prog 51 #[.agg #[.int .u64 a0, .int .u64 a1], .agg #[.int .u64 b0, .int .u64 b1]] w
      fun e w' => e = .returned (.tuple #[.agg #[.int .u64 (lo (V a1 a0 / V b1 b0)), .int .u64 (hi (V a1 a0 / V b1 b0))], .agg #[.int .u64 (lo (V a1 a0 % V b1 b0)), .int .u64 (hi (V a1 a0 % V b1 b0))]]) ∧ Below w.heap.size w w' := by
  by_cases hz : b1 = 0
  · subst hz
    have e : V 0 b0 = b0 := by unfold V; omega
    rw [e] at n ⊢
    have c := divideBy_spec a1 a0 b0 i1 i0 j0 n
    have r0 := Int.emod_nonneg (V a1 a0) n
    have r1 := Int.emod_lt_of_pos (V a1 a0) (show 0 < b0 by have := j0.a; omega)
    have h0 : hi (V a1 a0 % b0) = 0 := by have := j0.b; unfold hi; omega
    have l0 : lo (V a1 a0 % b0) = V a1 a0 % b0 := by have := j0.b; unfold lo; omega
    rw [h0, l0]
    exact divide_low a1 a0 b0 _ _ _ c w
  have A0 : 0 ≤ V a1 a0 := by obtain ⟨_, _⟩ := i1; obtain ⟨_, _⟩ := i0; unfold V; omega
  have A1 : V a1 a0 < 340282366920938463463374607431768211456 := by obtain ⟨_, _⟩ := i1; obtain ⟨_, _⟩ := i0; unfold V; omega
  have B1 : 18446744073709551616 ≤ V b1 b0 := by obtain ⟨_, _⟩ := j1; obtain ⟨_, _⟩ := j0; unfold V; omega
  have B2 : V b1 b0 < 340282366920938463463374607431768211456 := by obtain ⟨_, _⟩ := j1; obtain ⟨_, _⟩ := j0; unfold V; omega
  obtain ⟨s, hs, v0, v1, ks⟩ := lz_spec b1 j1 hz
  have pw : (0 : Int) < 2 ^ (64 - s) := Int.pow_pos (by omega)
  have p63 : (0 : Int) < 2 ^ (63 - s) := Int.pow_pos (by omega)
  have two : (2 : Int) ^ (64 - s) = 2 * 2 ^ (63 - s) := by rw [show 64 - s = 63 - s + 1 by omega, Int.pow_succ, Int.mul_comm]
  have eb : b0 / 2 / 2 ^ (63 - s) = b0 / 2 ^ (64 - s) := by rw [Int.ediv_ediv_of_nonneg (by omega), ← two]
  have mo_ := move_or b1 b0 s hs j1.a v1 j0
  have hw := high_word b1 b0 s hs j0
  have ha := half_low a1 a0 i1 i0
  have hh := half_high a1 a0 i0
  have l0 : 0 ≤ b0 / 2 ^ (64 - s) := Int.ediv_nonneg j0.a (Int.le_of_lt pw)
  have lt2 : b0 / 2 ^ (64 - s) < 2 ^ s := Int.ediv_lt_of_lt_mul pw (by
    have e : (2 : Int) ^ s * 2 ^ (64 - s) = 18446744073709551616 := by rw [← Int.pow_add, show s + (64 - s) = 64 by omega]; decide
    have := j0.b; omega)
  obtain ⟨high, hhigh⟩ : ∃ z, z = b1 * 2 ^ s + b0 / 2 ^ (64 - s) := ⟨_, rfl⟩
  rw [← hhigh] at mo_ hw
  have highb : high < 18446744073709551616 := by
    have e : (18446744073709551616 : Int) = 2 ^ (64 - s) * 2 ^ s := by rw [← Int.pow_add, show 64 - s + s = 64 by omega]; decide
    have h1 : (b1 + 1) * 2 ^ s ≤ 2 ^ (64 - s) * 2 ^ s := Int.mul_le_mul_of_nonneg_right (by
      rw [e] at v1
      have := Int.lt_of_mul_lt_mul_right v1 (by exact Int.le_of_lt (Int.pow_pos (by omega)))
      omega) (by exact Int.le_of_lt (Int.pow_pos (by omega)))
    rw [Int.add_mul, Int.one_mul, ← e] at h1
    omega
  have high0 : 9223372036854775808 ≤ high := by omega
  have kd := div64_spec (a1 / 2) (lo (V a1 a0 / 2)) high ⟨by have := i1.a; omega, by have := i1.b; omega⟩ (isLo_lo _) ⟨by omega, highb⟩ (by have := i1.b; omega)
  have eV : V (a1 / 2) (lo (V a1 a0 / 2)) = V a1 a0 / 2 := by rw [hh, V_hi_lo]
  rw [eV] at kd
  have et : V a1 a0 / 2 / high / 2 ^ (63 - s) = V a1 a0 / (high * 2 ^ (64 - s)) := by
    rw [Int.ediv_ediv_of_nonneg (by omega), Int.ediv_ediv_of_nonneg (by omega), two, Int.mul_left_comm]
  have e0 := Int.emod_nonneg b0 (show (2 : Int) ^ (64 - s) ≠ 0 by omega)
  have e1 := Int.emod_lt_of_pos b0 pw
  obtain ⟨D, hD⟩ : ∃ z, z = high * 2 ^ (64 - s) := ⟨_, rfl⟩
  obtain ⟨t, ht⟩ : ∃ z, z = V a1 a0 / D := ⟨_, rfl⟩
  rw [← hD] at et hw
  rw [← ht] at et
  obtain ⟨tr1, tr2⟩ := high_try (B := V b1 b0) A0 A1 hD high0 (pow_cases s hs) hw e0 e1 ht
  have q0 : 0 ≤ V a1 a0 / V b1 b0 := Int.ediv_nonneg A0 (by omega)
  have q1 : V a1 a0 / V b1 b0 < 18446744073709551616 := Int.ediv_lt_of_lt_mul (by omega) (by omega)
  have t0 : 0 ≤ t := by omega
  have tb : t < 18446744073709551617 := by omega
  have hp : ∃ p, ((t ≠ 0 ∧ IntKind.u64.wrap (t - 1) = p) ∨ (t = 0 ∧ p = 0)) ∧ 0 ≤ p ∧ (p = V a1 a0 / V b1 b0 ∨ p = V a1 a0 / V b1 b0 - 1) := by
    by_cases z : t = 0
    · exact ⟨0, .inr ⟨z, rfl⟩, by omega, .inl (by omega)⟩
    · refine ⟨t - 1, .inl ⟨z, wrap_in (by omega) (by omega)⟩, by omega, ?_⟩
      omega
  obtain ⟨p, hp, p0, pq⟩ := hp
  have pB : p < 18446744073709551616 := by omega
  have ip : IsLo p := ⟨p0, pB⟩
  obtain ⟨d0, d1, dy, dn⟩ := tried A0 (show 0 < V b1 b0 by omega) pq
  have pr : V b1 b0 * V 0 p = p * V b1 b0 := by rw [show V 0 p = p by unfold V; omega, Int.mul_comm]
  have x0 : 0 ≤ p * V b1 b0 := Int.mul_nonneg p0 (by omega)
  have kt := times_fit b1 b0 0 p j1 j0 isLo_0 ip (.inr rfl) (by rw [pr]; omega)
  rw [pr] at kt
  have km := minus_fit a1 a0 (p * V b1 b0) i0 i1 x0 (by omega)
  obtain ⟨R, hR⟩ : ∃ z, z = V a1 a0 - p * V b1 b0 := ⟨_, rfl⟩
  rw [← hR] at km d0 d1 dy dn
  have iR : IsLo (hi R) := ⟨by unfold hi; omega, by unfold hi; omega⟩
  have kb := below_spec (hi R) (lo R) b1 b0 (isLo_lo R) j0
  rw [V_hi_lo] at kb
  rw [eb] at *
  by_cases g : R < V b1 b0
  · obtain ⟨f1, f2⟩ := dy g
    rw [decide_eq_true g] at kb
    have hq : hi (V a1 a0 / V b1 b0) = 0 := by unfold hi; omega
    have lq : lo (V a1 a0 / V b1 b0) = p := by rw [← f1]; unfold lo; omega
    rw [hq, lq, ← f2]
    exact divide_high_t a1 a0 b1 b0 _ high _ _ t p _ _ _ _ _ (by simpa using hz) s hs ha (by rw [Int.ediv_ediv_of_nonneg (by omega), ← two]; exact mo_) et hp ks kd kt km kb w
  · obtain ⟨f1, f2⟩ := dn g
    rw [decide_eq_false g] at kb
    have kn := minus_fit (hi R) (lo R) (V b1 b0) (isLo_lo R) iR (by omega) (by rw [V_hi_lo]; omega)
    rw [V_hi_lo, hi_V j0, lo_V j0] at kn
    have hq : hi (V a1 a0 / V b1 b0) = 0 := by unfold hi; omega
    have lq : lo (V a1 a0 / V b1 b0) = p + 1 := by rw [← f1]; unfold lo; omega
    rw [hq, lq, ← f2]
    exact divide_high_f a1 a0 b1 b0 _ high _ _ t p _ _ _ _ (p + 1) _ _ _ (by simpa using hz) s hs ha (by rw [Int.ediv_ediv_of_nonneg (by omega), ← two]; exact mo_) et hp (wrap_in (by omega) (by omega)) ks kd kt km kb kn w
end Go.Proofs.Ytebiddmadmmfpaa
/- wide: Cmp, Sign: what each call does. -/
namespace Go.Proofs.Ytebiddmadmmfpaa
set_option linter.unusedVariables false
open Go.RowKit W
set_option maxHeartbeats 400000 in
theorem cmp_spec (h l h' l' : Int) (i : IsLo l) (i' : IsLo l') (w : World) :
    Calls Try.prog 71 #[.agg #[.int .i64 h, .int .u64 l], .agg #[.int .i64 h', .int .u64 l']] w
      fun e w' => e = .returned (.int .i64 (cmpI (V h l) (V h' l'))) ∧ Below w.heap.size w w' := by
  go_enter Try.func71, Try.ntmps71
  go_wp2
  · go_ret
    exact ⟨ret_int (cmp_eq (V_eq ‹_› ‹_›)).symm, by go_grown⟩
  · go_ret
    exact ⟨ret_int (cmp_lt (V_lt2 ‹_› ‹_›)).symm, by go_grown⟩
  · go_ret
    exact ⟨ret_int (cmp_gt (V_lt2 (by omega) (by omega))).symm, by go_grown⟩
  · go_ret
    exact ⟨ret_int (cmp_gt (V_lt1 i' i (by omega))).symm, by go_grown⟩
  · go_ret
    exact ⟨ret_int (cmp_lt (V_lt1 i i' (by omega))).symm, by go_grown⟩
set_option maxHeartbeats 400000 in
theorem sign_spec (h l : Int) (i : IsLo l) (w : World) :
    Calls Try.prog 49 #[.agg #[.int .i64 h, .int .u64 l]] w
      fun e w' => e = .returned (.int .i64 (cmpI (V h l) 0)) ∧ Below w.heap.size w w' := by
  have c := cmp_spec h l 0 0 i isLo_0
  go_enter Try.func49, Try.ntmps49
  go_wp2_with (go_at_call 71; refine (c _).mono ?_; rintro e w' ⟨rfl, hb⟩)
  go_ret
  exact ⟨rfl, by refine Below.trans ?_ (hb.mono ?_) <;> go_grown⟩
end Go.Proofs.Ytebiddmadmmfpaa
