/- Texts that belong together: Math Math2 Wbase Wcmp Wbits Wsum Wadd Wof Wxor Wsub Hid Alv Alvb. -/
import Init
import Derived.Test.YtnlefakicjojdaaProg
import Derived.WalkKit
import Derived.WalkSpells
import Derived.WalkLawsBesides
import Derived.Handy
import Derived.Deep.RegionHeld3
import Derived.Deep.QuietTactic
import Derived.BigQuiet
import Derived.KernelRfl
import Derived.Deep.Cut
import Derived.Laws.Externs
import Derived.Deep.DeepCutAuto
import Derived.Deep.RegionWith
set_option linter.unusedSimpArgs false
set_option linter.unusedVariables false
/- Plain numbers: a wide number (high word, low word) as one whole number; the order; what fits 128 bits. No Go in sight. -/
namespace Go.Proofs.Ytnlefakicjojdaa
set_option linter.unusedVariables false
namespace W
def B : Int := 18446744073709551616
/-- The number of a high and a low word. -/
def V (h l : Int) : Int := h * 18446744073709551616 + l
def hi (v : Int) : Int := v / 18446744073709551616
def lo (v : Int) : Int := v % 18446744073709551616
structure IsLo (l : Int) : Prop where
  a : 0 ≤ l
  b : l < 18446744073709551616
structure IsHi (h : Int) : Prop where
  a : -9223372036854775808 ≤ h
  b : h < 9223372036854775808
instance (v : Int) : Decidable (IsHi v) :=
  if h : -9223372036854775808 ≤ v ∧ v < 9223372036854775808 then isTrue ⟨h.1, h.2⟩ else isFalse fun f => h ⟨f.a, f.b⟩
structure Fits (v : Int) : Prop where
  a : -170141183460469231731687303715884105728 ≤ v
  b : v < 170141183460469231731687303715884105728
instance (v : Int) : Decidable (Fits v) :=
  if h : -170141183460469231731687303715884105728 ≤ v ∧ v < 170141183460469231731687303715884105728 then isTrue ⟨h.1, h.2⟩ else isFalse fun f => h ⟨f.a, f.b⟩
def cmpI (x y : Int) : Int := if x < y then -1 else if x = y then 0 else 1
theorem isLo_lo (v : Int) : IsLo (lo v) := ⟨by unfold lo; omega, by unfold lo; omega⟩
theorem isHi_hi {v : Int} (f : Fits v) : IsHi (hi v) := by obtain ⟨a, b⟩ := f; exact ⟨by unfold hi; omega, by unfold hi; omega⟩
theorem V_hi_lo (v : Int) : V (hi v) (lo v) = v := by unfold V hi lo; omega
theorem hi_V {h l : Int} (i : IsLo l) : hi (V h l) = h := by obtain ⟨a, b⟩ := i; unfold hi V; omega
theorem lo_V {h l : Int} (i : IsLo l) : lo (V h l) = l := by obtain ⟨a, b⟩ := i; unfold lo V; omega
theorem fits_V {h l : Int} (j : IsHi h) (i : IsLo l) : Fits (V h l) := by obtain ⟨a, b⟩ := i; obtain ⟨c, d⟩ := j; exact ⟨by unfold V; omega, by unfold V; omega⟩
theorem V_inj {h l h' l' : Int} (i : IsLo l) (i' : IsLo l') (e : V h l = V h' l') : h = h' ∧ l = l' := by
  obtain ⟨a, b⟩ := i; obtain ⟨c, d⟩ := i'; unfold V at e; omega
theorem hl_inj {x y : Int} (h : hi x = hi y) (l : lo x = lo y) : x = y := by unfold hi at h; unfold lo at l; omega
theorem isLo_0 : IsLo 0 := ⟨by omega, by omega⟩
theorem isHi_0 : IsHi 0 := ⟨by omega, by omega⟩
theorem cmp_lt {x y : Int} (h : x < y) : cmpI x y = -1 := by unfold cmpI; rw [if_pos h]
theorem cmp_eq {x y : Int} (h : x = y) : cmpI x y = 0 := by unfold cmpI; rw [if_neg (by omega), if_pos h]
theorem cmp_gt {x y : Int} (h : y < x) : cmpI x y = 1 := by unfold cmpI; rw [if_neg (by omega), if_neg (by omega)]
theorem cmp_cases (x y : Int) : (x < y ∧ cmpI x y = -1) ∨ (x = y ∧ cmpI x y = 0) ∨ (y < x ∧ cmpI x y = 1) := by
  rcases Int.lt_trichotomy x y with h | h | h
  · exact .inl ⟨h, cmp_lt h⟩
  · exact .inr (.inl ⟨h, cmp_eq h⟩)
  · exact .inr (.inr ⟨h, cmp_gt h⟩)
theorem V_eq {h l h' l' : Int} (a : h = h') (b : l = l') : V h l = V h' l' := by rw [a, b]
theorem V_lt1 {h l h' l' : Int} (i : IsLo l) (i' : IsLo l') (a : h < h') : V h l < V h' l' := by
  obtain ⟨a, b⟩ := i; obtain ⟨c, d⟩ := i'; unfold V; omega
theorem V_lt2 {h l h' l' : Int} (a : h = h') (b : l < l') : V h l < V h' l' := by unfold V; omega
/-- math/bits: Add64's sum and carry, Sub64's difference and borrow. -/
def addD (x y c : Int) : Int := (x + y + c) % 18446744073709551616
def addC (x y c : Int) : Int := (x + y + c) / 18446744073709551616
def subD (x y b : Int) : Int := (x - y - b) % 18446744073709551616
def subB (x y b : Int) : Int := if x < y + b then 1 else 0
structure IsBit (c : Int) : Prop where
  a : 0 ≤ c
  b : c ≤ 1
theorem isBit_0 : IsBit 0 := ⟨by omega, by omega⟩
theorem isBit_1 : IsBit 1 := ⟨by omega, by omega⟩
theorem isBit_addC {x y c : Int} (i : IsLo x) (j : IsLo y) (k : IsBit c) : IsBit (addC x y c) := by
  obtain ⟨_, _⟩ := i; obtain ⟨_, _⟩ := j; obtain ⟨_, _⟩ := k; exact ⟨by unfold addC; omega, by unfold addC; omega⟩
theorem isBit_subB (x y b : Int) : IsBit (subB x y b) := by unfold subB; split <;> exact ⟨by omega, by omega⟩
theorem isLo_addD (x y c : Int) : IsLo (addD x y c) := ⟨by unfold addD; omega, by unfold addD; omega⟩
theorem isLo_subD (x y c : Int) : IsLo (subD x y c) := ⟨by unfold subD; omega, by unfold subD; omega⟩
theorem isLo_bit {c : Int} (k : IsBit c) : IsLo c := by obtain ⟨_, _⟩ := k; exact ⟨by omega, by omega⟩
/-- A word of any kind as one without a sign; a word without a sign as one with. -/
def u (h : Int) : Int := h % 18446744073709551616
def s (h : Int) : Int := if h < 9223372036854775808 then h else h - 18446744073709551616
theorem isLo_u (h : Int) : IsLo (u h) := ⟨by unfold u; omega, by unfold u; omega⟩
theorem s_u {h : Int} (j : IsHi h) : s (u h) = h := by obtain ⟨_, _⟩ := j; unfold s u; split <;> omega
theorem minus_lo (a1 a0 b1 b0 : Int) : subD a0 b0 0 = lo (V a1 a0 - V b1 b0) := by unfold subD lo V; omega
theorem minus_hi {a1 a0 b1 b0 : Int} (i : IsLo a0) (j : IsLo b0) : subD a1 b1 (subB a0 b0 0) = u (hi (V a1 a0 - V b1 b0)) := by
  obtain ⟨_, _⟩ := i; obtain ⟨_, _⟩ := j; unfold subD subB u hi V; split <;> omega
def ab (v : Int) : Int := if v < 0 then -v else v
def resV (v : Int) : Int := if Fits v then v else 0
def resE (v : Int) : Int := if Fits v then 0 else 10
theorem resV_fits {v : Int} (f : Fits v) : resV v = v := by unfold resV; rw [if_pos f]
theorem resE_fits {v : Int} (f : Fits v) : resE v = 0 := by unfold resE; rw [if_pos f]
theorem resV_not {v : Int} (f : ¬ Fits v) : resV v = 0 := by unfold resV; rw [if_neg f]
theorem resE_not {v : Int} (f : ¬ Fits v) : resE v = 10 := by unfold resE; rw [if_neg f]
theorem resE_zero {v : Int} (h : resE v = 0) : Fits v := by unfold resE at h; split at h; assumption; omega
theorem fits_0 : Fits 0 := ⟨by omega, by omega⟩
theorem fits_resV (v : Int) : Fits (resV v) := by unfold resV; split; assumption; exact fits_0
theorem ab_lo_neg {h l : Int} (i : IsLo l) (j : IsHi h) (n : h < 0) : lo (V 0 0 - V (u h) l) = lo (ab (V h l)) := by
  obtain ⟨_, _⟩ := i; obtain ⟨_, _⟩ := j; have : ab (V h l) = -(V h l) := by unfold ab V; rw [if_pos (by omega)]
  rw [this]; unfold lo V u; omega
theorem ab_hi_neg {h l : Int} (i : IsLo l) (j : IsHi h) (n : h < 0) : u (hi (V 0 0 - V (u h) l)) = hi (ab (V h l)) := by
  obtain ⟨_, _⟩ := i; obtain ⟨_, _⟩ := j; have : ab (V h l) = -(V h l) := by unfold ab V; rw [if_pos (by omega)]
  rw [this]; unfold hi V u; omega
theorem ab_lo_pos {h l : Int} (i : IsLo l) (n : 0 ≤ h) : l = lo (ab (V h l)) := by
  obtain ⟨_, _⟩ := i; have : ab (V h l) = V h l := by unfold ab V; rw [if_neg (by omega)]
  rw [this]; unfold lo V; omega
theorem ab_hi_pos {h l : Int} (i : IsLo l) (j : IsHi h) (n : 0 ≤ h) : u h = hi (ab (V h l)) := by
  obtain ⟨_, _⟩ := i; obtain ⟨_, _⟩ := j; have : ab (V h l) = V h l := by unfold ab V; rw [if_neg (by omega)]
  rw [this]; unfold hi V u; omega
def sg (n : Bool) (m : Int) : Int := if n then -m else m
theorem sg_f (m : Int) : sg false m = m := rfl
theorem sg_t (m : Int) : sg true m = -m := rfl
theorem pos_fits {m1 m0 : Int} (i : IsLo m1) (j : IsLo m0) (n : 0 ≤ s m1) : Fits (V m1 m0) ∧ hi (V m1 m0) = s m1 ∧ lo (V m1 m0) = m0 := by
  obtain ⟨_, _⟩ := i; obtain ⟨_, _⟩ := j; unfold s at n ⊢
  split at n
  · refine ⟨⟨by unfold V; omega, by unfold V; omega⟩, ?_, by unfold V lo; omega⟩
    unfold V hi; rw [if_pos ‹_›]; omega
  · omega
theorem pos_over {m1 m0 : Int} (i : IsLo m1) (j : IsLo m0) (n : s m1 < 0) : ¬ Fits (V m1 m0) := by
  obtain ⟨_, _⟩ := i; obtain ⟨_, _⟩ := j; unfold s at n
  split at n
  · omega
  · intro f; have := f.b; unfold V at this; omega
theorem neg_fits {m1 m0 : Int} (i : IsLo m1) (j : IsLo m0) (n : s (u (hi (V 0 0 - V m1 m0))) < 0 ∨ (s (u (hi (V 0 0 - V m1 m0))) = 0 ∧ lo (V 0 0 - V m1 m0) = 0)) :
    Fits (-(V m1 m0)) ∧ hi (-(V m1 m0)) = s (u (hi (V 0 0 - V m1 m0))) ∧ lo (-(V m1 m0)) = lo (V 0 0 - V m1 m0) := by
  obtain ⟨_, _⟩ := i; obtain ⟨_, _⟩ := j
  have e : V 0 0 - V m1 m0 = -(V m1 m0) := by unfold V; omega
  rw [e] at n ⊢
  have f : Fits (-(V m1 m0)) := by
    unfold s u hi lo V at n
    refine ⟨?_, ?_⟩ <;> unfold V <;> split at n <;> omega
  exact ⟨f, (s_u (isHi_hi f)).symm, rfl⟩
theorem neg_over {m1 m0 : Int} (i : IsLo m1) (j : IsLo m0) (n : 0 ≤ s (u (hi (V 0 0 - V m1 m0)))) (k : ¬ (s (u (hi (V 0 0 - V m1 m0))) = 0 ∧ lo (V 0 0 - V m1 m0) = 0)) : ¬ Fits (-(V m1 m0)) := by
  obtain ⟨_, _⟩ := i; obtain ⟨_, _⟩ := j
  have e : V 0 0 - V m1 m0 = -(V m1 m0) := by unfold V; omega
  rw [e] at n k
  intro f
  have g := isHi_hi f
  rw [s_u g] at n k
  obtain ⟨f1, f2⟩ := f
  simp only [hi, lo, V] at n k f1 f2; omega
theorem prod_lo {x y : Int} (i : IsLo x) (j : IsLo y) : 0 ≤ x * y ∧ x * y ≤ 340282366920938463426481119284349108225 := by
  obtain ⟨a, b⟩ := i; obtain ⟨c, d⟩ := j
  refine ⟨Int.mul_nonneg a c, ?_⟩
  have h : x * y ≤ 18446744073709551615 * 18446744073709551615 := Int.mul_le_mul (by omega) (by omega) c (by omega)
  omega
theorem hi_prod {x y : Int} (i : IsLo x) (j : IsLo y) : IsLo (hi (x * y)) := by
  have h := prod_lo i j
  exact ⟨by unfold hi; omega, by unfold hi; omega⟩
/-- A product of two amounts of two words, one of which has no high word. -/
theorem times_split (a1 a0 b1 b0 : Int) (z : a1 = 0 ∨ b1 = 0) : V a1 a0 * V b1 b0 = (a1 * b0 + a0 * b1) * 18446744073709551616 + a0 * b0 := by
  unfold V
  rcases z with rfl | rfl
  · simp [Int.mul_add, Int.mul_assoc, Int.mul_comm]
  · simp [Int.mul_add, Int.mul_assoc, Int.mul_comm, Int.mul_left_comm]
end W
end Go.Proofs.Ytnlefakicjojdaa
/- Plain numbers: sums of many wide numbers in three limbs. No Go in sight. -/
namespace Go.Proofs.Ytnlefakicjojdaa
set_option linter.unusedVariables false
namespace W
/-- Three limbs of a sum, modulo 2^192. -/
structure SumAt (t s0 s1 s2 : Int) : Prop where
  a : s0 = t % 18446744073709551616
  b : s1 = t / 18446744073709551616 % 18446744073709551616
  c : s2 = t / 18446744073709551616 / 18446744073709551616 % 18446744073709551616
theorem sumAt_0 : SumAt 0 0 0 0 := ⟨rfl, rfl, rfl⟩
theorem SumAt.lo0 {t s0 s1 s2 : Int} (h : SumAt t s0 s1 s2) : IsLo s0 := by obtain ⟨a, b, c⟩ := h; exact ⟨by omega, by omega⟩
theorem SumAt.lo1 {t s0 s1 s2 : Int} (h : SumAt t s0 s1 s2) : IsLo s1 := by obtain ⟨a, b, c⟩ := h; exact ⟨by omega, by omega⟩
theorem SumAt.lo2 {t s0 s1 s2 : Int} (h : SumAt t s0 s1 s2) : IsLo s2 := by obtain ⟨a, b, c⟩ := h; exact ⟨by omega, by omega⟩
theorem SumAt.step {t s0 s1 s2 eh el : Int} (h : SumAt t s0 s1 s2) (j : IsHi eh) (i : IsLo el) :
    SumAt (t + V eh el) (addD s0 el 0) (addD s1 (u eh) (addC s0 el 0)) (addD s2 (u (eh / 9223372036854775808)) (addC s1 (u eh) (addC s0 el 0))) := by
  obtain ⟨a, b, c⟩ := h; obtain ⟨_, _⟩ := i; obtain ⟨_, _⟩ := j
  have q : eh / 18446744073709551616 = eh / 9223372036854775808 := by omega
  have p : (t + V eh el) / 18446744073709551616 = t / 18446744073709551616 + eh + (s0 + el) / 18446744073709551616 := by simp only [V]; omega
  have r0 : 0 ≤ (s0 + el) / 18446744073709551616 := by omega
  have r1 : (s0 + el) / 18446744073709551616 ≤ 1 := by omega
  have e0 : addC s0 el 0 = (s0 + el) / 18446744073709551616 := by simp [addC]
  generalize hr : (s0 + el) / 18446744073709551616 = r at *
  have k : (t / 18446744073709551616 + eh + r) / 18446744073709551616 = t / 18446744073709551616 / 18446744073709551616 + eh / 18446744073709551616 + (s1 + eh % 18446744073709551616 + r) / 18446744073709551616 := by omega
  refine ⟨?_, ?_, ?_⟩
  · simp only [addD, V]; omega
  · rw [p, e0]; simp only [addD, u]; omega
  · rw [p, k, e0, q]; simp only [addD, addC, u]; omega
theorem SumAt.done {t s0 s1 s2 : Int} (h : SumAt t s0 s1 s2) (lo : -1569275433846670190958947355801916604025588861116008628224 ≤ t) (up : t ≤ 1569275433846670190958947355801916604025588861116008628224)
    (e : s2 = u (s s1 / 9223372036854775808)) : Fits t ∧ hi t = s s1 ∧ W.lo t = s0 := by
  obtain ⟨a, b, c⟩ := h
  have f : Fits t := by
    simp only [u, s] at e
    exact ⟨by split at e <;> omega, by split at e <;> omega⟩
  refine ⟨f, ?_, ?_⟩
  · obtain ⟨_, _⟩ := f
    simp only [hi, s]; split <;> omega
  · simp only [W.lo]; omega
theorem SumAt.over {t s0 s1 s2 : Int} (h : SumAt t s0 s1 s2) (e : s2 ≠ u (s s1 / 9223372036854775808)) : ¬ Fits t := by
  rintro ⟨x, y⟩
  obtain ⟨a, b, c⟩ := h
  apply e
  simp only [u, s]; split <;> omega
def sumV : List (Int × Int) → Int
  | [] => 0
  | p :: l => V p.1 p.2 + sumV l
theorem sumV_append (l m : List (Int × Int)) : sumV (l ++ m) = sumV l + sumV m := by
  induction l with
  | nil => simp [sumV]
  | cons p l ih => simp [sumV, ih, Int.add_assoc]
theorem sumV_take (l : List (Int × Int)) (k : Nat) (h : k < l.length) : sumV (l.take (k + 1)) = sumV (l.take k) + V (l.getD k (0, 0)).1 (l.getD k (0, 0)).2 := by
  rw [List.take_succ_eq_append_getElem h, sumV_append]
  simp [sumV, List.getD, List.getElem?_eq_getElem h]
structure IsW (p : Int × Int) : Prop where
  a : IsHi p.1
  b : IsLo p.2
theorem sumV_bound (l : List (Int × Int)) (h : ∀ p ∈ l, IsW p) : -(170141183460469231731687303715884105728 * (l.length : Int)) ≤ sumV l ∧ sumV l ≤ 170141183460469231731687303715884105728 * (l.length : Int) := by
  induction l with
  | nil => simp [sumV]
  | cons p l ih =>
    have i := ih fun q hq => h q (List.mem_cons_of_mem _ hq)
    have w := h p (List.mem_cons_self ..)
    have f := fits_V w.a w.b
    obtain ⟨f1, f2⟩ := f
    simp only [sumV, List.length_cons]
    omega
end W
end Go.Proofs.Ytnlefakicjojdaa
/- Small lemmas for all walks: what lay below stays; worlds under a name; wide numbers as results. -/
namespace Go.Proofs.Ytnlefakicjojdaa
set_option linter.unusedVariables false
open Go.RowKit W
theorem ret_int {k : IntKind} {a b : Int} (h : a = b) : Ending.returned (.int k a) = .returned (.int k b) := by rw [h]
theorem ret_bool {a b : Bool} (h : a = b) : Ending.returned (.bool a) = .returned (.bool b) := by rw [h]
theorem ret_two {k : IntKind} {a b c d : Int} (h : a = b) (g : c = d) : Ending.returned (.tuple #[.int k a, .int k c]) = .returned (.tuple #[.int k b, .int k d]) := by rw [h, g]
/-- What lay below stays: cells and marks, as rules for the walk. -/
theorem bcell {W w1 : World} (hb : Below W.heap.size W w1) :
    (∀ b o, b < W.heap.size → w1.cell? ⟨b, o, none⟩ = W.cell? ⟨b, o, none⟩) ∧ (∀ b o, b < W.heap.size → w1.frozen? ⟨b, o, none⟩ = W.frozen? ⟨b, o, none⟩) ∧ W.heap.size ≤ w1.heap.size :=
  ⟨fun b o h => hb.cell (p := ⟨b, o, none⟩) h, fun b o h => hb.frozen (p := ⟨b, o, none⟩) h, hb.size⟩
/-- A cell of a block that lay there ahead of a call: what it holds, that it may be written, that its block is there. -/
theorem live {W w1 : World} (v : Value) (hb : Below W.heap.size W w1) (b o : Nat) (h : b < W.heap.size) (hv : W.cell? ⟨b, o, none⟩ = some v) (hf : W.frozen? ⟨b, o, none⟩ = false) :
    w1.cell? ⟨b, o, none⟩ = some v ∧ w1.frozen? ⟨b, o, none⟩ = false ∧ b < w1.heap.size :=
  ⟨(hb.cell (p := ⟨b, o, none⟩) h).trans hv, (hb.frozen (p := ⟨b, o, none⟩) h).trans hf, Nat.lt_of_lt_of_le h hb.size⟩
theorem wrap_s {m : Int} (i : IsLo m) : IntKind.i64.wrap m = s m := by
  obtain ⟨_, _⟩ := i; rw [IntKind.wrap_i64]; unfold s; split <;> omega
/-- The sum of the numbers, or that it is over. -/
abbrev sumRes (t : Int) : Ending := .returned (.tuple #[.agg #[.int .i64 (hi (resV t)), .int .u64 (lo (resV t))], .int .i64 (resE t)])
abbrev wideRes (v : Int) : Ending := .returned (.agg #[.int .i64 (hi v), .int .u64 (lo v)])
theorem ret_res {v x1 x0 : Int} (f : Fits v) (h1 : hi v = x1) (h0 : lo v = x0) : Ending.returned (.tuple #[.agg #[.int .i64 x1, .int .u64 x0], .int .i64 0]) =
    .returned (.tuple #[.agg #[.int .i64 (hi (resV v)), .int .u64 (lo (resV v))], .int .i64 (resE v)]) := by
  rw [resV_fits f, resE_fits f, h1, h0]
theorem ret_over {v : Int} (f : ¬ Fits v) : Ending.returned (.tuple #[.agg #[.int .i64 0, .int .u64 0], .int .i64 10]) =
    .returned (.tuple #[.agg #[.int .i64 (hi (resV v)), .int .u64 (lo (resV v))], .int .i64 (resE v)]) := by
  rw [resV_not f, resE_not f]; rfl
/-- Below block B the world w is as W was. -/
structure Keeps (B : Nat) (W w : World) : Prop where
  below : Below B W w
  le : B ≤ W.heap.size
theorem Keeps.start {B : Nat} {W : World} (h : B ≤ W.heap.size) : Keeps B W W := ⟨Below.refl _ _, h⟩
theorem Keeps.size {B : Nat} {W w : World} (k : Keeps B W w) : B ≤ w.heap.size := Nat.le_trans k.le k.below.size
theorem Keeps.call {B : Nat} {W w w1 : World} (k : Keeps B W w) (hb : Below w.heap.size w w1) : Keeps B W w1 := ⟨k.below.trans (hb.mono k.size), k.le⟩
theorem Keeps.alloc {B : Nat} {W w : World} (k : Keeps B W w) (o : Obj) : Keeps B W (w.alloc o) := ⟨k.below.alloc k.size o, k.le⟩
theorem Keeps.drew {B : Nat} {W w : World} (k : Keeps B W w) : Keeps B W w.drew := ⟨k.below.drew, k.le⟩
theorem Keeps.setCell {B : Nat} {W w : World} (k : Keeps B W w) {p : Addr} (hp : B ≤ p.block) (u : Value) : Keeps B W (w.setCell p u) := ⟨k.below.setCell hp u, k.le⟩
theorem Keeps.cell {B : Nat} {W w : World} (k : Keeps B W w) {b o : Nat} {v : Value} (h : W.cell? ⟨b, o, none⟩ = some v) (hb : b < B) : w.cell? ⟨b, o, none⟩ = some v := (k.below.cell (p := ⟨b, o, none⟩) hb).trans h
theorem Keeps.free {B : Nat} {W w : World} (k : Keeps B W w) {b o : Nat} (h : W.frozen? ⟨b, o, none⟩ = false) (hb : b < B) : w.frozen? ⟨b, o, none⟩ = false := (k.below.frozen (p := ⟨b, o, none⟩) hb).trans h
/-- The world under a name, with what is known of it. -/
theorem abs_wp {P : Program} {c : Code} {Q : Exit → Act → World → Prop} {a : Act} {w : World} (F : World → Prop) (hF : F w) (h : ∀ W, F W → c.wp P Q a W) : c.wp P Q a w := h w hF
theorem abs_list {P : Program} {ops : Array Oper} {Q : Exit → Act → World → Prop} {l : List Oper} {a : Act} {w : World} (F : World → Prop) (hF : F w) (h : ∀ W, F W → wpList P ops Q l a W) : wpList P ops Q l a w := h w hF
theorem below_drewN {B : Nat} {a w : World} (h : Below B a w) (n : Nat) : Below B a (w.drewN n) := ⟨h.os, h.tape, h.output, h.size, h.block⟩
theorem lo_of_wf {x : Int} (h : (Lit.int .u64 x).wf = true) : IsLo x := by
  simp only [Lit.wf, IntKind.min, IntKind.max, IntKind.signed, IntKind.bits, Bool.and_eq_true] at h
  exact ⟨by simp at h; omega, by simp at h; omega⟩
theorem hi_of_wf {x : Int} (h : (Lit.int .i64 x).wf = true) : IsHi x := by
  simp only [Lit.wf, IntKind.min, IntKind.max, IntKind.signed, IntKind.bits, Bool.and_eq_true, decide_eq_true_eq, if_true] at h
  exact ⟨by omega, by omega⟩
theorem isW_res (v : Int) : IsW (hi (resV v), lo (resV v)) := ⟨isHi_hi (fits_resV v), isLo_lo _⟩
/-- Small: the number as an int64, if it is one. -/
def smallV (v : Int) : Int := if IsHi v then v else 0
def smallB (v : Int) : Bool := decide (IsHi v)
end Go.Proofs.Ytnlefakicjojdaa
/- wide: Cmp, Sign: what each call does. -/
namespace Go.Proofs.Ytnlefakicjojdaa
set_option linter.unusedVariables false
open Go.RowKit W
set_option maxHeartbeats 400000 in
theorem cmp_spec (h l h' l' : Int) (i : IsLo l) (i' : IsLo l') (w : World) :
    Calls Try.prog 45 #[.agg #[.int .i64 h, .int .u64 l], .agg #[.int .i64 h', .int .u64 l']] w
      fun e w' => e = .returned (.int .i64 (cmpI (V h l) (V h' l'))) ∧ Below w.heap.size w w' := by
  go_enter Try.func45, Try.ntmps45
  go_wp2
  · go_ret
    exact ⟨ret_int (cmp_eq (V_eq ‹_› ‹_›)).symm, by go_grown⟩
  · go_ret
    exact ⟨ret_int (cmp_lt (V_lt2 ‹_› ‹_›)).symm, by go_grown⟩
  · go_ret
    exact ⟨ret_int (cmp_gt (V_lt2 (by omega) (by omega))).symm, by go_grown⟩
  · go_ret
    exact ⟨ret_int (cmp_gt (V_lt1 i' i (by omega))).symm, by go_grown⟩
  · go_ret
    exact ⟨ret_int (cmp_lt (V_lt1 i i' (by omega))).symm, by go_grown⟩
set_option maxHeartbeats 400000 in
theorem sign_spec (h l : Int) (i : IsLo l) (w : World) :
    Calls Try.prog 44 #[.agg #[.int .i64 h, .int .u64 l]] w
      fun e w' => e = .returned (.int .i64 (cmpI (V h l) 0)) ∧ Below w.heap.size w w' := by
  have c := cmp_spec h l 0 0 i isLo_0
  go_enter Try.func44, Try.ntmps44
  go_wp2_with (go_at_call 45; refine (c _).mono ?_; rintro e w' ⟨rfl, hb⟩)
  go_ret
  exact ⟨rfl, by refine Below.trans ?_ (hb.mono ?_) <;> go_grown⟩
end Go.Proofs.Ytnlefakicjojdaa
/- math/bits, as the model runs it. -/
namespace Go.Proofs.Ytnlefakicjojdaa
set_option linter.unusedVariables false
open Go.RowKit W
theorem run_addC (x y c : Int) (i : IsLo x) (j : IsLo y) (k : IsBit c) (w : World) :
    (callFunc 61 #[.int .u64 x, .int .u64 y, .int .u64 c]).run Try.prog w =
      .ok (.value (.tuple #[.int .u64 (addD x y c), .int .u64 (addC x y c)])) w := by
  obtain ⟨x, rfl⟩ := Int.eq_ofNat_of_zero_le i.a
  obtain ⟨y, rfl⟩ := Int.eq_ofNat_of_zero_le j.a
  obtain ⟨c, rfl⟩ := Int.eq_ofNat_of_zero_le k.a
  obtain ⟨_, hc⟩ := k
  have hc : c = 0 ∨ c = 1 := by omega
  rw [run_callFunc_extern Try.func61 (by kernel_rfl) (by kernel_rfl) (by kernel_rfl) (e := (Extern.MathBitsCarry.rows.getD 0 default).2) (by kernel_rfl)]
  rcases hc with rfl | rfl <;> rfl
end Go.Proofs.Ytnlefakicjojdaa
/- wide: Sum. -/
namespace Go.Proofs.Ytnlefakicjojdaa
set_option linter.unusedVariables false
open Go.RowKit W
structure SumInv (w wr : World) (s0 s1 s2 : Int) : Prop where
  c0 : wr.cell? ⟨w.heap.size + 1, 0, none⟩ = some (.int .u64 s0)
  c1 : wr.cell? ⟨w.heap.size + 1, 1, none⟩ = some (.int .u64 s1)
  c2 : wr.cell? ⟨w.heap.size + 1, 2, none⟩ = some (.int .u64 s2)
  f0 : wr.frozen? ⟨w.heap.size + 1, 0, none⟩ = false
  f1 : wr.frozen? ⟨w.heap.size + 1, 1, none⟩ = false
  f2 : wr.frozen? ⟨w.heap.size + 1, 2, none⟩ = false
  r0 : wr.cell? ⟨w.heap.size, 0, none⟩ = some (.int .i64 0)
  r1 : wr.cell? ⟨w.heap.size, 1, none⟩ = some (.int .u64 0)
  g0 : wr.frozen? ⟨w.heap.size, 0, none⟩ = false
  g1 : wr.frozen? ⟨w.heap.size, 1, none⟩ = false
  sz : w.heap.size + 1 < wr.heap.size
  below : Below w.heap.size w wr
/-- The elements of a slice of wide numbers, as they lie in memory. -/
structure Holds (w : World) (b off len : Nat) (ws : List (Int × Int)) : Prop where
  size : ws.length = len
  chi : ∀ j, j < len → w.cell? ⟨b, off + j * 2, none⟩ = some (.int .i64 (ws.getD j (0, 0)).1)
  clo : ∀ j, j < len → w.cell? ⟨b, off + j * 2 + 1, none⟩ = some (.int .u64 (ws.getD j (0, 0)).2)
  fit : ∀ p ∈ ws, IsW p
theorem Holds.at {w : World} {b off len : Nat} {ws : List (Int × Int)} (h : Holds w b off len ws) (k : Nat) (hk : k < len) : IsW (ws.getD k (0, 0)) := by
  apply h.fit
  have := h.size
  simp only [List.getD, List.getElem?_eq_getElem (show k < ws.length by omega), Option.getD_some]
  exact List.getElem_mem _
set_option maxHeartbeats 4000000 in
theorem sum_some (b off len cap : Nat) (ws : List (Int × Int)) (w : World) (hb : b < w.heap.size) (hl : len ≤ 140737488355328) (H : Holds w b off len ws) :
    Calls Try.prog 54 #[.slice (some ⟨b, off, none⟩) len cap] w fun e w' => e = sumRes (sumV ws) ∧ Below w.heap.size w w' := by
  go_enter Try.func54, Try.ntmps54
  go_wp2
  go_loopw [11] (fun i wr => ∃ (k : Nat) (s0 s1 s2 : Int), k ≤ len ∧ i = .int .i64 k ∧ SumInv w wr s0 s1 s2 ∧ SumAt (sumV (ws.take k)) s0 s1 s2) (fun i _ => len - (intOf i).toNat)
  case atStart =>
    refine ⟨0, 0, 0, 0, by omega, rfl, ⟨?_, ?_, ?_, ?_, ?_, ?_, ?_, ?_, ?_, ?_, ?_, ?_⟩, sumAt_0⟩
    all_goals first | go_grown; done | (simp [go_sem]; done)
  case round =>
    obtain ⟨k, s0, s1, s2, hk, rfl, inv, at_⟩ := hrel
    by_cases hlt : k < len
    · have e1 := (inv.below.cell (p := ⟨b, off + k * 2, none⟩) hb).trans (H.chi k hlt)
      have e2 := (inv.below.cell (p := ⟨b, off + k * 2 + 1, none⟩) hb).trans (H.clo k hlt)
      have ew := H.at k hlt
      have ewa := ew.a
      have ewb := ew.b
      clear ew
      have st := at_.step ewa ewb
      rw [← sumV_take ws k (by have := H.size; omega)] at st
      generalize (ws.getD k (0, 0)).1 = eh at *
      generalize (ws.getD k (0, 0)).2 = el at *
      have hu : IntKind.u64.wrap eh = u eh := by rw [IntKind.wrap_u64]; rfl
      have hv : IntKind.u64.wrap (eh / 9223372036854775808) = u (eh / 9223372036854775808) := by rw [IntKind.wrap_u64]; rfl
      have b1 := isBit_addC at_.lo0 ewb isBit_0
      have b2 := isBit_addC at_.lo1 (isLo_u eh) b1
      have a1 := run_addC s0 el 0 at_.lo0 ewb isBit_0
      have a2 := run_addC s1 (u eh) (addC s0 el 0) at_.lo1 (isLo_u eh) b1
      have a3 := run_addC s2 (u (eh / 9223372036854775808)) (addC s1 (u eh) (addC s0 el 0)) at_.lo2 (isLo_u _) b2
      obtain ⟨y, hy⟩ : ∃ y, y = u (eh / 9223372036854775808) := ⟨_, rfl⟩
      obtain ⟨z, hz⟩ : ∃ y, y = u eh := ⟨_, rfl⟩
      obtain ⟨x0, h0⟩ : ∃ x, x = addD s0 el 0 := ⟨_, rfl⟩
      obtain ⟨q0, h1⟩ : ∃ x, x = addC s0 el 0 := ⟨_, rfl⟩
      rw [← hz] at hu a2 a3 st
      rw [← hy] at hv a3 st
      rw [← h0] at a1 st
      rw [← h1] at a1 a2 a3 st
      obtain ⟨x1, h2⟩ : ∃ x, x = addD s1 z q0 := ⟨_, rfl⟩
      obtain ⟨q1, h3⟩ : ∃ x, x = addC s1 z q0 := ⟨_, rfl⟩
      rw [← h2] at a2 st
      rw [← h3] at a2 a3 st
      obtain ⟨x2, h4⟩ : ∃ x, x = addD s2 y q1 := ⟨_, rfl⟩
      obtain ⟨q2, h5⟩ : ∃ x, x = addC s2 y q1 := ⟨_, rfl⟩
      rw [← h4] at a3 st
      rw [← h5] at a3
      have ST : Hid (SumAt (sumV (ws.take (k + 1))) x0 x1 x2) := st
      clear hy hz h0 h1 h2 h3 h4 h5 b1 b2 at_ ewa ewb st
      have c0 := inv.c0
      have c1 := inv.c1
      have c2 := inv.c2
      have f0 := inv.f0
      have f1 := inv.f1
      have f2 := inv.f2
      have sz := inv.sz
      have H' : Hid (Holds w b off len ws) := H
      have I : Hid (SumInv w wr s0 s1 s2) := inv
      clear H inv
      go_wp2
      go_roundw
      case rel =>
        refine ⟨k + 1, x0, x1, x2, by omega, by go_num, ?_, ST.out⟩
        have inv := I.out
        have r0 := inv.r0
        have r1 := inv.r1
        have g0 := inv.g0
        have g1 := inv.g1
        have bl := inv.below
        have sz0 : w.heap.size < wr.heap.size := by omega
        refine ⟨?_, ?_, ?_, ?_, ?_, ?_, ?_, ?_, ?_, ?_, ?_, ?_⟩
        all_goals first | (go_grown; done) | (simp [go_sem, c0, c1, c2, f0, f1, f2, r0, r1, g0, g1, sz, sz0]; done) | (simp; omega)
      case measure => simp [intOf]; omega
    · obtain rfl : k = len := by omega
      rw [List.take_of_length_le (by have := H.size; omega)] at at_
      have bd := sumV_bound ws H.fit
      rw [H.size] at bd
      have wm := wrap_s at_.lo1
      obtain ⟨q, hq⟩ : ∃ q, q = s s1 := ⟨_, rfl⟩
      rw [← hq] at wm
      obtain ⟨y, hy⟩ : ∃ y, y = u (q / 9223372036854775808) := ⟨_, rfl⟩
      have hv : IntKind.u64.wrap (q / 9223372036854775808) = y := by rw [IntKind.wrap_u64, hy]; rfl
      have A : Hid (s2 = y → Fits (sumV ws) ∧ hi (sumV ws) = q ∧ W.lo (sumV ws) = s0) := fun e => by rw [hq]; exact at_.done (by omega) (by omega) (by rw [e, hy, hq])
      have O : Hid (s2 ≠ y → ¬ Fits (sumV ws)) := fun e => at_.over (by rw [← hq, ← hy]; exact e)
      have c0 := inv.c0
      have c1 := inv.c1
      have c2 := inv.c2
      have r0 := inv.r0
      have r1 := inv.r1
      have g0 := inv.g0
      have g1 := inv.g1
      have sz := inv.sz
      have sz0 : w.heap.size < wr.heap.size := by omega
      have I : Hid (SumInv w wr s0 s1 s2) := inv
      clear hq hy bd at_ H inv
      by_cases g : s2 = y
      · subst g
        obtain ⟨f, h1, h0⟩ := A.out rfl
        have F : Hid (Fits (sumV ws) ∧ hi (sumV ws) = q ∧ W.lo (sumV ws) = s0) := ⟨f, h1, h0⟩
        clear f h1 h0 A O
        go_wp2
        have bl := I.out.below
        refine bodyPost_ret (by simp [results, Try.results54, go_sem, r0, r1, sz0]; try rfl) rfl ?_
        exact ⟨ret_res F.out.1 F.out.2.1 F.out.2.2, by go_grown⟩
      · have f := O.out g
        have F : Hid (¬ Fits (sumV ws)) := f
        clear A O f
        go_wp2
        have bl := I.out.below
        refine bodyPost_ret (by simp [results, Try.results54, go_sem, r0, r1, sz0]; try rfl) rfl ?_
        exact ⟨ret_over F.out, by go_grown⟩
end Go.Proofs.Ytnlefakicjojdaa
/- wide: Add. -/
namespace Go.Proofs.Ytnlefakicjojdaa
set_option linter.unusedVariables false
open Go.RowKit W
set_option maxHeartbeats 1000000 in
theorem add_spec (a b c d : Int) (i : IsW (a, b)) (j : IsW (c, d)) (w : World) :
    Calls Try.prog 64 #[.agg #[.int .i64 a, .int .u64 b], .agg #[.int .i64 c, .int .u64 d]] w fun e w' => e = sumRes (V a b + V c d) ∧ Below w.heap.size w w' := by
  have e0 : sumV [(a, b), (c, d)] = V a b + V c d := by simp [sumV]
  rw [← e0]
  obtain ⟨t, ht⟩ : ∃ t, t = sumV [(a, b), (c, d)] := ⟨_, rfl⟩
  rw [← ht]
  have T : Hid (t = sumV [(a, b), (c, d)]) := ht
  obtain ⟨r1, hr1⟩ : ∃ r, r = hi (resV t) := ⟨_, rfl⟩
  obtain ⟨r0, hr0⟩ : ∃ r, r = lo (resV t) := ⟨_, rfl⟩
  obtain ⟨re, hre⟩ : ∃ r, r = resE t := ⟨_, rfl⟩
  unfold sumRes
  rw [← hr1, ← hr0, ← hre]
  have R1 : Hid (r1 = hi (resV t)) := hr1
  have R0 : Hid (r0 = lo (resV t)) := hr0
  have RE : Hid (re = resE t) := hre
  clear e0 ht hr1 hr0 hre
  go_enter Try.func64, Try.ntmps64
  go_wp2_with fail
  refine (sum_some (w.heap.size + 1 + 1 + 1) 0 2 2 [(a, b), (c, d)] _ (by simp) (by omega) ⟨rfl, ?_, ?_, ?_⟩).mono ?_
  · intro j hj
    obtain rfl | rfl : j = 0 ∨ j = 1 := by omega
    all_goals simp [go_sem]
  · intro j hj
    obtain rfl | rfl : j = 0 ∨ j = 1 := by omega
    all_goals simp [go_sem]
  · intro p hp
    simp only [List.mem_cons, List.not_mem_nil, or_false] at hp
    rcases hp with rfl | rfl <;> assumption
  · rintro e w1 ⟨he, hb⟩
    rw [← T.out] at he
    unfold sumRes at he
    rw [← R1.out, ← R0.out, ← RE.out] at he
    rw [he]
    obtain ⟨khb0, fhb0, zhb0⟩ := live (.int .i64 0) hb (w.heap.size + 1 + 1) 0 (by simp; try omega) (by simp [go_sem]) (by simp [go_sem]); obtain ⟨khb1, fhb1, zhb1⟩ := live (.int .u64 0) hb (w.heap.size + 1 + 1) 1 (by simp; try omega) (by simp [go_sem]) (by simp [go_sem])
    have B0 : Below w.heap.size w w1 := Below.trans (by go_grown) (hb.mono (by simp; omega))
    go_wp2
    refine bodyPost_ret (by simp [results, Try.results64, go_sem, khb0, khb1]; try rfl) rfl ?_
    exact ⟨rfl, by go_grown⟩
end Go.Proofs.Ytnlefakicjojdaa
/- wide: Of. -/
namespace Go.Proofs.Ytnlefakicjojdaa
set_option linter.unusedVariables false
open Go.RowKit W
theorem hi_small {n : Int} (j : IsHi n) : n / 9223372036854775808 = hi n := by obtain ⟨_, _⟩ := j; unfold hi; omega
theorem fits_small {n : Int} (j : IsHi n) : Fits n := by obtain ⟨_, _⟩ := j; exact ⟨by omega, by omega⟩
set_option maxHeartbeats 400000 in
theorem wof_spec (n : Int) (j : IsHi n) (w : World) :
    Calls Try.prog 27 #[.int .i64 n] w fun e w' => e = wideRes n ∧ Below w.heap.size w w' := by
  have e1 : IntKind.u64.wrap n = lo n := by rw [IntKind.wrap_u64]; rfl
  have e2 := hi_small j
  unfold wideRes
  rw [← e2]
  obtain ⟨l, hl⟩ : ∃ l, l = lo n := ⟨_, rfl⟩
  rw [← hl] at e1 ⊢
  clear e2 hl
  go_enter Try.func27, Try.ntmps27
  go_wp2
  go_returns
  exact ⟨rfl, by go_grown⟩
end Go.Proofs.Ytnlefakicjojdaa
/- Complements of words. -/
namespace Go.Proofs.Ytnlefakicjojdaa
set_option linter.unusedVariables false
open Go.RowKit W
theorem xor_i64 (c : Int) (j : IsHi c) : bits .xor .i64 (-1) c = -c - 1 := by
  obtain ⟨a, b⟩ := j
  have h : (BitVec.ofInt 64 (-1) ^^^ BitVec.ofInt 64 c).toNat = 18446744073709551615 - (c % 18446744073709551616).toNat := by
    have h1 : BitVec.ofInt 64 (-1) = BitVec.allOnes 64 := by decide
    rw [h1, BitVec.allOnes_xor, BitVec.toNat_not, BitVec.toNat_ofInt]; simp
  show IntKind.i64.wrap ((BitVec.ofInt 64 (-1) ^^^ BitVec.ofInt 64 c).toNat : Int) = _
  rw [h, IntKind.wrap_i64]; omega
theorem xor_u64 (c : Int) (j : IsLo c) : bits .xor .u64 IntKind.u64.max c = -c - 1 + 18446744073709551616 := by
  obtain ⟨a, b⟩ := j
  have h : (BitVec.ofInt 64 IntKind.u64.max ^^^ BitVec.ofInt 64 c).toNat = 18446744073709551615 - (c % 18446744073709551616).toNat := by
    have h1 : BitVec.ofInt 64 IntKind.u64.max = BitVec.allOnes 64 := by decide
    rw [h1, BitVec.allOnes_xor, BitVec.toNat_not, BitVec.toNat_ofInt]; simp
  show IntKind.u64.wrap ((BitVec.ofInt 64 IntKind.u64.max ^^^ BitVec.ofInt 64 c).toNat : Int) = _
  rw [h, IntKind.wrap_u64]; omega
end Go.Proofs.Ytnlefakicjojdaa
/- wide: Sub. -/
namespace Go.Proofs.Ytnlefakicjojdaa
set_option linter.unusedVariables false
open Go.RowKit W
theorem sum3 (n : Nat) (a b x y : Int) (w : World) (hn : n < w.heap.size) (i : IsW (a, b)) (j : IsW (x, y)) (c0 : w.cell? ⟨n, 0, none⟩ = some (.int .i64 a)) (c1 : w.cell? ⟨n, 1, none⟩ = some (.int .u64 b))
    (c2 : w.cell? ⟨n, 2, none⟩ = some (.int .i64 x)) (c3 : w.cell? ⟨n, 3, none⟩ = some (.int .u64 y)) (c4 : w.cell? ⟨n, 4, none⟩ = some (.int .i64 0)) (c5 : w.cell? ⟨n, 5, none⟩ = some (.int .u64 1)) :
    Calls Try.prog 54 #[.slice (some ⟨n, 0, none⟩) 3 3] w fun e w' => e = sumRes (sumV [(a, b), (x, y), (0, 1)]) ∧ Below w.heap.size w w' := by
  refine sum_some n 0 3 3 [(a, b), (x, y), (0, 1)] w hn (by omega) ⟨rfl, ?_, ?_, ?_⟩
  · intro k hk
    obtain rfl | rfl | rfl : k = 0 ∨ k = 1 ∨ k = 2 := by omega
    all_goals assumption
  · intro k hk
    obtain rfl | rfl | rfl : k = 0 ∨ k = 1 ∨ k = 2 := by omega
    all_goals assumption
  · intro p hp
    simp only [List.mem_cons, List.not_mem_nil, or_false] at hp
    rcases hp with rfl | rfl | rfl
    · exact i
    · exact j
    · exact ⟨⟨by omega, by omega⟩, ⟨by omega, by omega⟩⟩
set_option maxHeartbeats 2000000 in
theorem sub_raw (a b c d x y : Int) (hx : bits .xor .i64 (-1) c = x) (hy : bits .xor .u64 IntKind.u64.max d = y) (i : IsW (a, b)) (j : IsW (x, y)) (w : World) :
    Calls Try.prog 42 #[.agg #[.int .i64 a, .int .u64 b], .agg #[.int .i64 c, .int .u64 d]] w fun e w' => e = sumRes (sumV [(a, b), (x, y), (0, 1)]) ∧ Below w.heap.size w w' := by
  have c1 := wof_spec 1 ⟨by omega, by omega⟩
  have e1 : hi 1 = 0 := by decide
  have e2 : lo 1 = 1 := by decide
  unfold wideRes at c1
  rw [e1, e2] at c1
  clear e1 e2
  have hs1 : IntKind.i64.signed = true := rfl
  have hs2 : IntKind.u64.signed = false := rfl
  obtain ⟨t, ht⟩ : ∃ t, t = sumV [(a, b), (x, y), (0, 1)] := ⟨_, rfl⟩
  rw [← ht]
  have T : Hid (t = sumV [(a, b), (x, y), (0, 1)]) := ht
  obtain ⟨r1, hr1⟩ : ∃ r, r = hi (resV t) := ⟨_, rfl⟩
  obtain ⟨r0, hr0⟩ : ∃ r, r = lo (resV t) := ⟨_, rfl⟩
  obtain ⟨re, hre⟩ : ∃ r, r = resE t := ⟨_, rfl⟩
  unfold sumRes
  rw [← hr1, ← hr0, ← hre]
  have RS : Hid (sumRes (sumV [(a, b), (x, y), (0, 1)]) = .returned (.tuple #[.agg #[.int .i64 r1, .int .u64 r0], .int .i64 re])) := by unfold sumRes; rw [← T.out, ← hr1, ← hr0, ← hre]; rfl
  clear ht hr1 hr0 hre T
  go_enter Try.func42, Try.ntmps42
  go_wp2_with fail
  obtain ⟨W, hW⟩ : ∃ X, X = ((w.alloc (Obj.cells #[.int .i64 a, .int .u64 b] 36)).alloc (Obj.cells #[.int .i64 c, .int .u64 d] 36)).alloc (Obj.cells #[.int .i64 0, .int .u64 0] 36) := ⟨_, rfl⟩
  have cW0 : W.cell? ⟨w.heap.size, 0, none⟩ = some (.int .i64 a) := by rw [hW]; first | (simp [go_sem]; done)
  have fW0 : W.frozen? ⟨w.heap.size, 0, none⟩ = false := by rw [hW]; first | (simp [go_sem]; done)
  have zW0 : w.heap.size < W.heap.size := by rw [hW]; first | omega | (simp; done) | (simp; omega)
  have cW1 : W.cell? ⟨w.heap.size, 1, none⟩ = some (.int .u64 b) := by rw [hW]; first | (simp [go_sem]; done)
  have fW1 : W.frozen? ⟨w.heap.size, 1, none⟩ = false := by rw [hW]; first | (simp [go_sem]; done)
  have zW1 : w.heap.size < W.heap.size := by rw [hW]; first | omega | (simp; done) | (simp; omega)
  have cW2 : W.cell? ⟨w.heap.size + 1, 0, none⟩ = some (.int .i64 c) := by rw [hW]; first | (simp [go_sem]; done)
  have fW2 : W.frozen? ⟨w.heap.size + 1, 0, none⟩ = false := by rw [hW]; first | (simp [go_sem]; done)
  have zW2 : w.heap.size + 1 < W.heap.size := by rw [hW]; first | omega | (simp; done) | (simp; omega)
  have cW3 : W.cell? ⟨w.heap.size + 1, 1, none⟩ = some (.int .u64 d) := by rw [hW]; first | (simp [go_sem]; done)
  have fW3 : W.frozen? ⟨w.heap.size + 1, 1, none⟩ = false := by rw [hW]; first | (simp [go_sem]; done)
  have zW3 : w.heap.size + 1 < W.heap.size := by rw [hW]; first | omega | (simp; done) | (simp; omega)
  have cW4 : W.cell? ⟨w.heap.size + 1 + 1, 0, none⟩ = some (.int .i64 0) := by rw [hW]; first | (simp [go_sem]; done)
  have fW4 : W.frozen? ⟨w.heap.size + 1 + 1, 0, none⟩ = false := by rw [hW]; first | (simp [go_sem]; done)
  have zW4 : w.heap.size + 1 + 1 < W.heap.size := by rw [hW]; first | omega | (simp; done) | (simp; omega)
  have cW5 : W.cell? ⟨w.heap.size + 1 + 1, 1, none⟩ = some (.int .u64 0) := by rw [hW]; first | (simp [go_sem]; done)
  have fW5 : W.frozen? ⟨w.heap.size + 1 + 1, 1, none⟩ = false := by rw [hW]; first | (simp [go_sem]; done)
  have zW5 : w.heap.size + 1 + 1 < W.heap.size := by rw [hW]; first | omega | (simp; done) | (simp; omega)
  have BW : Below w.heap.size w W := by rw [hW]; go_grown
  rw [← hW]
  clear hW
  have K1 := (Keeps.start (show w.heap.size + 1 + 1 ≤ W.heap.size by omega)).drew
  have b0 : w.heap.size < w.heap.size + 1 + 1 := by omega
  have b1 : w.heap.size + 1 < w.heap.size + 1 + 1 := by omega
  go_region_held3 (fun w' => w'.cell? ⟨w.heap.size, 0, none⟩ = some (.int .i64 a) ∧ w'.cell? ⟨w.heap.size, 1, none⟩ = some (.int .u64 b) ∧ w'.cell? ⟨w.heap.size + 1, 0, none⟩ = some (.int .i64 c) ∧ w'.cell? ⟨w.heap.size + 1, 1, none⟩ = some (.int .u64 d) ∧ Keeps (w.heap.size + 1 + 1) W w')
    ((refine (fun K => ⟨Keeps.cell K cW0 b0, Keeps.cell K cW1 b0, Keeps.cell K cW2 b1, Keeps.cell K cW3 b1, K⟩) (?_ : Keeps (w.heap.size + 1 + 1) W _); (first | assumption | exact Keeps.alloc (by assumption) _ | exact Keeps.setCell (Keeps.setCell (by assumption) (by simp) _) (by simp) _)))
    (first
      | (go_at_call 27; refine (c1 _).mono ?_; rintro e w1 ⟨rfl, hb⟩; have K2 := Keeps.call (by assumption) hb; obtain ⟨ka0, fa0, za0⟩ := live (.int .i64 0) hb (w.heap.size + 1 + 1) 0 zW4 cW4 fW4; obtain ⟨ka1, fa1, za1⟩ := live (.int .u64 0) hb (w.heap.size + 1 + 1) 1 zW5 cW5 fW5)
      | (go_at_call 54; refine (sum3 w1.heap.size a b x y _ (by simp) i j (by simp [go_sem]) (by simp [go_sem]) (by simp [go_sem]) (by simp [go_sem]) (by simp [go_sem]) (by simp [go_sem])).mono ?_; rintro e w2 ⟨he, hb2⟩; rw [RS.out] at he; rw [he]; have K3 := Keeps.call (Keeps.alloc K2 _) hb2; obtain ⟨kb0, fb0, zb0⟩ := live (.int .i64 0) hb2 (w.heap.size + 1 + 1) 0 (by simp; omega) (by simp [go_sem, ka0, za0]) (by simp [go_sem, fa0, za0]); obtain ⟨kb1, fb1, zb1⟩ := live (.int .u64 0) hb2 (w.heap.size + 1 + 1) 1 (by simp; omega) (by simp [go_sem, ka1, za1]) (by simp [go_sem, fa1, za1])))
  have B0 : Below w.heap.size w w2 := BW.trans (K3.below.mono (by omega))
  have RS' : Hid _ := RS.out
  clear RS
  go_wp2
  refine bodyPost_ret (by simp [results, Try.results42, go_sem, kb0, kb1]; try rfl) rfl ?_
  exact ⟨rfl, by go_grown⟩
theorem sub_spec (a b c d : Int) (i : IsW (a, b)) (j : IsW (c, d)) (w : World) :
    Calls Try.prog 42 #[.agg #[.int .i64 a, .int .u64 b], .agg #[.int .i64 c, .int .u64 d]] w fun e w' => e = sumRes (V a b - V c d) ∧ Below w.heap.size w w' := by
  have hx := xor_i64 c j.a
  have hy := xor_u64 d j.b
  obtain ⟨⟨j1, j2⟩, ⟨j3, j4⟩⟩ := j
  simp only at j1 j2 j3 j4
  have e : sumV [(a, b), (-c - 1, -d - 1 + 18446744073709551616), (0, 1)] = V a b - V c d := by simp only [sumV, V]; omega
  rw [← e]
  exact sub_raw a b c d _ _ hx hy i ⟨⟨by simp only; omega, by simp only; omega⟩, ⟨by simp only; omega, by simp only; omega⟩⟩ w
theorem isW_0 : IsW (0, 0) := ⟨isHi_0, isLo_0⟩
end Go.Proofs.Ytnlefakicjojdaa
/- Small words for all walks: a fact behind a name; boxes of two and three cells. -/
namespace Go.Proofs.Ytnlefakicjojdaa
set_option linter.unusedVariables false
open Go.RowKit W
/-- A contract of a function that only computes. -/
abbrev CalcN (f : Nat) (args : Array Value) (w : World) (r : Value) : Prop := Calls Try.prog f args w fun e w' => e = .returned r ∧ w = w'
theorem hide {p : Prop} (h : p) : Hid p := h
/-- A box of two cells that may be written. -/
structure Box2 (w : World) (b : Nat) (x y : Value) : Prop where
  x : w.cell? ⟨b, 0, none⟩ = some x
  y : w.cell? ⟨b, 1, none⟩ = some y
  fx : w.frozen? ⟨b, 0, none⟩ = false
  fy : w.frozen? ⟨b, 1, none⟩ = false
  lt : b < w.heap.size
theorem Box2.later {w w' : World} {b : Nat} {x y : Value} (h : Box2 w b x y) (k : Below w.heap.size w w') : Box2 w' b x y :=
  ⟨(k.cell (p := ⟨b, 0, none⟩) h.lt).trans h.x, (k.cell (p := ⟨b, 1, none⟩) h.lt).trans h.y,
   (k.frozen (p := ⟨b, 0, none⟩) h.lt).trans h.fx, (k.frozen (p := ⟨b, 1, none⟩) h.lt).trans h.fy, Nat.lt_of_lt_of_le h.lt k.size⟩
/-- A box of three cells that may be written. -/
structure Box3 (w : World) (b : Nat) (x y z : Value) : Prop where
  x : w.cell? ⟨b, 0, none⟩ = some x
  y : w.cell? ⟨b, 1, none⟩ = some y
  z : w.cell? ⟨b, 2, none⟩ = some z
  fx : w.frozen? ⟨b, 0, none⟩ = false
  fy : w.frozen? ⟨b, 1, none⟩ = false
  fz : w.frozen? ⟨b, 2, none⟩ = false
  lt : b < w.heap.size
theorem Box3.later {w w' : World} {b : Nat} {x y z : Value} (h : Box3 w b x y z) (k : Below w.heap.size w w') : Box3 w' b x y z :=
  ⟨(k.cell (p := ⟨b, 0, none⟩) h.lt).trans h.x, (k.cell (p := ⟨b, 1, none⟩) h.lt).trans h.y, (k.cell (p := ⟨b, 2, none⟩) h.lt).trans h.z,
   (k.frozen (p := ⟨b, 0, none⟩) h.lt).trans h.fx, (k.frozen (p := ⟨b, 1, none⟩) h.lt).trans h.fy, (k.frozen (p := ⟨b, 2, none⟩) h.lt).trans h.fz, Nat.lt_of_lt_of_le h.lt k.size⟩
/-- A box of one cell that may be written. -/
structure Box1 (w : World) (b : Nat) (x : Value) : Prop where
  x : w.cell? ⟨b, 0, none⟩ = some x
  fx : w.frozen? ⟨b, 0, none⟩ = false
  lt : b < w.heap.size
theorem Box1.later {w w' : World} {b : Nat} {x : Value} (h : Box1 w b x) (k : Below w.heap.size w w') : Box1 w' b x :=
  ⟨(k.cell (p := ⟨b, 0, none⟩) h.lt).trans h.x, (k.frozen (p := ⟨b, 0, none⟩) h.lt).trans h.fx, Nat.lt_of_lt_of_le h.lt k.size⟩
theorem box1 {w w' : World} (k : Below w.heap.size w w') (b : Nat) (x : Value) (hx : w.cell? ⟨b, 0, none⟩ = some x) (fx : w.frozen? ⟨b, 0, none⟩ = false) (lt : b < w.heap.size) : Box1 w' b x :=
  Box1.later ⟨hx, fx, lt⟩ k
theorem box2 {w w' : World} (k : Below w.heap.size w w') (b : Nat) (x y : Value) (hx : w.cell? ⟨b, 0, none⟩ = some x) (hy : w.cell? ⟨b, 1, none⟩ = some y) (fx : w.frozen? ⟨b, 0, none⟩ = false) (fy : w.frozen? ⟨b, 1, none⟩ = false) (lt : b < w.heap.size) : Box2 w' b x y :=
  Box2.later ⟨hx, hy, fx, fy, lt⟩ k
theorem box3 {w w' : World} (k : Below w.heap.size w w') (b : Nat) (x y z : Value) (hx : w.cell? ⟨b, 0, none⟩ = some x) (hy : w.cell? ⟨b, 1, none⟩ = some y) (hz : w.cell? ⟨b, 2, none⟩ = some z) (fx : w.frozen? ⟨b, 0, none⟩ = false) (fy : w.frozen? ⟨b, 1, none⟩ = false) (fz : w.frozen? ⟨b, 2, none⟩ = false) (lt : b < w.heap.size) : Box3 w' b x y z :=
  Box3.later ⟨hx, hy, hz, fx, fy, fz, lt⟩ k
end Go.Proofs.Ytnlefakicjojdaa
/- alarm: how a value's level is found: beyond, near, fromFine, fromWarn, fromCrit. -/
namespace Go.Proofs.Ytnlefakicjojdaa
set_option linter.unusedVariables false
set_option linter.unusedSimpArgs false
open Go.RowKit W
/-- A rule as its cells hold it. -/
structure Ru where
  nm : ByteArray
  ab : Bool
  w1 : Int
  w0 : Int
  c1 : Int
  c0 : Int
  s1 : Int
  s0 : Int
  fr : Int
  an : Int
  ag : Int
def Ru.wa (R : Ru) : Int := V R.w1 R.w0
def Ru.cr (R : Ru) : Int := V R.c1 R.c0
def Ru.sl (R : Ru) : Int := V R.s1 R.s0
/-- Without its sign at most 2^100. -/
def Mod100 (x : Int) : Prop := -1267650600228229401496703205376 ≤ x ∧ x ≤ 1267650600228229401496703205376
/-- A rule whose numbers are far from where 128 bits end. -/
structure RuOk (R : Ru) : Prop where
  iw : IsW (R.w1, R.w0)
  ic : IsW (R.c1, R.c0)
  is : IsW (R.s1, R.s0)
  mw : Mod100 R.wa
  mc : Mod100 R.cr
  ms : Mod100 R.sl
  s0 : 0 ≤ R.sl
def bey (ab : Bool) (v t : Int) : Bool := if ab then decide (t ≤ v) else decide (v ≤ t)
def eas (ab : Bool) (t s : Int) : Int := if ab then t - s else t + s
def levF (R : Ru) (v : Int) : Int := if bey R.ab v R.cr then 3 else if bey R.ab v R.wa then 2 else 1
def levW (R : Ru) (v : Int) : Int := if levF R v = 1 ∧ bey R.ab v (eas R.ab R.wa R.sl) = true then 2 else levF R v
def levC (R : Ru) (v : Int) : Int := if bey R.ab v (eas R.ab R.cr R.sl) then 3 else levW R v
/-- The level of a value at a state. -/
def lev (R : Ru) (st v : Int) : Int := if st = 2 then levW R v else if st = 3 then levC R v else levF R v
theorem lev_is (R : Ru) (st v : Int) : lev R st v = 1 ∨ lev R st v = 2 ∨ lev R st v = 3 := by
  unfold lev levC levW levF
  repeat' split
  all_goals simp_all
/-- The rule's cells of a watch. -/
structure RuAt (w : World) (b : Nat) (R : Ru) : Prop where
  k1 : w.cell? ⟨b, 1, none⟩ = some (.bool R.ab)
  k2 : w.cell? ⟨b, 2, none⟩ = some (.int .i64 R.w1)
  k3 : w.cell? ⟨b, 3, none⟩ = some (.int .u64 R.w0)
  k4 : w.cell? ⟨b, 4, none⟩ = some (.int .i64 R.c1)
  k5 : w.cell? ⟨b, 5, none⟩ = some (.int .u64 R.c0)
  k6 : w.cell? ⟨b, 6, none⟩ = some (.int .i64 R.s1)
  k7 : w.cell? ⟨b, 7, none⟩ = some (.int .u64 R.s0)
  lt : b < w.heap.size
theorem RuAt.later {w w' : World} {b : Nat} {R : Ru} (h : RuAt w b R) (k : Below w.heap.size w w') : RuAt w' b R :=
  ⟨(k.cell (p := ⟨b, 1, none⟩) h.lt).trans h.k1, (k.cell (p := ⟨b, 2, none⟩) h.lt).trans h.k2, (k.cell (p := ⟨b, 3, none⟩) h.lt).trans h.k3, (k.cell (p := ⟨b, 4, none⟩) h.lt).trans h.k4, (k.cell (p := ⟨b, 5, none⟩) h.lt).trans h.k5, (k.cell (p := ⟨b, 6, none⟩) h.lt).trans h.k6, (k.cell (p := ⟨b, 7, none⟩) h.lt).trans h.k7, Nat.lt_of_lt_of_le h.lt k.size⟩
theorem cmp_ge (x y : Int) : decide (0 ≤ cmpI x y) = decide (y ≤ x) := by
  unfold cmpI; split
  · simp; omega
  · split
    · simp; omega
    · simp; omega
theorem cmp_le (x y : Int) : decide (cmpI x y ≤ 0) = decide (x ≤ y) := by
  unfold cmpI; split
  · simp; omega
  · split
    · simp; omega
    · simp; omega
set_option maxRecDepth 100000 in
set_option maxHeartbeats 4000000 in
theorem beyond_spec {w : World} {b : Nat} {ab : Bool} (k1 : w.cell? ⟨b, 1, none⟩ = some (.bool ab)) (lt : b < w.heap.size) (v1 v0 t1 t0 : Int) (iv : IsW (v1, v0)) (it : IsW (t1, t0)) :
    Calls Try.prog 63 #[.pointer (some ⟨b, 0, none⟩), .agg #[.int .i64 v1, .int .u64 v0], .agg #[.int .i64 t1, .int .u64 t0]] w fun e w' => e = .returned (.bool (bey ab (V v1 v0) (V t1 t0))) ∧ Below w.heap.size w w' := by
  have c := cmp_spec v1 v0 t1 t0 iv.b it.b
  have g1 := cmp_ge (V v1 v0) (V t1 t0)
  have g2 := cmp_le (V v1 v0) (V t1 t0)
  obtain ⟨m, hm⟩ : ∃ m, m = cmpI (V v1 v0) (V t1 t0) := ⟨_, rfl⟩
  rw [← hm] at c g1 g2
  cases ab
  · have G : Hid (bey false (V v1 v0) (V t1 t0) = decide (m ≤ 0)) := by show _ = _; unfold bey; rw [g2]; rfl
    clear g1 g2 hm
    obtain ⟨r, hr⟩ : ∃ r, r = bey false (V v1 v0) (V t1 t0) := ⟨_, rfl⟩
    rw [← hr] at G ⊢
    clear hr
    go_enter Try.func63, Try.ntmps63
    go_wp2_with (go_at_call 45; refine (c _).mono ?_; rintro e w' ⟨rfl, hb⟩)
    go_returns
    exact ⟨by rw [G.out]; rfl, by refine Below.trans ?_ (hb.mono ?_) <;> go_grown⟩
  · have G : Hid (bey true (V v1 v0) (V t1 t0) = decide (0 ≤ m)) := by show _ = _; unfold bey; rw [g1]; rfl
    clear g1 g2 hm
    obtain ⟨r, hr⟩ : ∃ r, r = bey true (V v1 v0) (V t1 t0) := ⟨_, rfl⟩
    rw [← hr] at G ⊢
    clear hr
    go_enter Try.func63, Try.ntmps63
    go_wp2_with (go_at_call 45; refine (c _).mono ?_; rintro e w' ⟨rfl, hb⟩)
    go_returns
    exact ⟨by rw [G.out]; rfl, by refine Below.trans ?_ (hb.mono ?_) <;> go_grown⟩
theorem add_fit (a b c d : Int) (i : IsW (a, b)) (j : IsW (c, d)) (f : Fits (V a b + V c d)) (w : World) :
    Calls Try.prog 64 #[.agg #[.int .i64 a, .int .u64 b], .agg #[.int .i64 c, .int .u64 d]] w fun e w' => ∃ x1 x0, e = .returned (.tuple #[.agg #[.int .i64 x1, .int .u64 x0], .int .i64 0]) ∧ IsW (x1, x0) ∧ V x1 x0 = V a b + V c d ∧ Below w.heap.size w w' := by
  refine (add_spec a b c d i j w).mono ?_
  rintro e w' ⟨rfl, k⟩
  exact ⟨_, _, by unfold sumRes; rw [resE_fits f], isW_res _, by rw [resV_fits f]; exact V_hi_lo _, k⟩
theorem sub_fit (a b c d : Int) (i : IsW (a, b)) (j : IsW (c, d)) (f : Fits (V a b - V c d)) (w : World) :
    Calls Try.prog 42 #[.agg #[.int .i64 a, .int .u64 b], .agg #[.int .i64 c, .int .u64 d]] w fun e w' => ∃ x1 x0, e = .returned (.tuple #[.agg #[.int .i64 x1, .int .u64 x0], .int .i64 0]) ∧ IsW (x1, x0) ∧ V x1 x0 = V a b - V c d ∧ Below w.heap.size w w' := by
  refine (sub_spec a b c d i j w).mono ?_
  rintro e w' ⟨rfl, k⟩
  exact ⟨_, _, by unfold sumRes; rw [resE_fits f], isW_res _, by rw [resV_fits f]; exact V_hi_lo _, k⟩
end Go.Proofs.Ytnlefakicjojdaa
/- alarm: near, fromFine, fromWarn, fromCrit. -/
namespace Go.Proofs.Ytnlefakicjojdaa
set_option linter.unusedVariables false
set_option linter.unusedSimpArgs false
open Go.RowKit W
set_option maxRecDepth 100000 in
set_option maxHeartbeats 4000000 in
theorem near_false {w : World} {b : Nat} {R : Ru} (h : RuAt w b R) (v1 v0 t1 t0 : Int) (iv : IsW (v1, v0)) (it : IsW (t1, t0)) (isl : IsW (R.s1, R.s0)) (f : Fits (V t1 t0 + V R.s1 R.s0)) (f2 : Fits (V t1 t0 - V R.s1 R.s0)) (ab : R.ab = false) :
    Calls Try.prog 62 #[.pointer (some ⟨b, 0, none⟩), .agg #[.int .i64 v1, .int .u64 v0], .agg #[.int .i64 t1, .int .u64 t0]] w fun e w' => e = .returned (.bool (bey false (V v1 v0) (V t1 t0 + V R.s1 R.s0))) ∧ Below w.heap.size w w' := by
  have ka := add_fit t1 t0 R.s1 R.s0 it isl f
  have ks := sub_fit t1 t0 R.s1 R.s0 it isl f2
  have HB := hide h
  have hl := h.lt
  have IV := hide iv
  have AB := hide ab
  have k1 := h.k1
  rw [ab] at k1
  clear h it isl f f2 iv ab
  generalize V t1 t0 + V R.s1 R.s0 = ya at *
  generalize V t1 t0 - V R.s1 R.s0 = ys at *
  go_enter Try.func62, Try.ntmps62
  go_wp2_with fail
  refine abs_wp (fun W => W.cell? ⟨w.heap.size, 0, none⟩ = some (.int .i64 v1) ∧ W.cell? ⟨w.heap.size, 1, none⟩ = some (.int .u64 v0) ∧ W.cell? ⟨w.heap.size + 1, 0, none⟩ = some (.int .i64 t1) ∧ W.cell? ⟨w.heap.size + 1, 1, none⟩ = some (.int .u64 t0) ∧ w.heap.size + 1 < W.heap.size ∧ Below w.heap.size w W) ?_ ?_
  · refine ⟨?_, ?_, ?_, ?_, ?_, ?_⟩
    all_goals first | assumption | (go_grown; done) | (simp [go_sem]; done) | (simp; done) | (simp; omega)
  rintro W ⟨p1, p0, q1, q0, zW, BW⟩
  have HW := hide (HB.out.later BW)
  have r6 := HW.out.k6
  have r7 := HW.out.k7
  have lW := HW.out.lt
  have zV : w.heap.size < W.heap.size := by omega
  clear k1
  go_cut [7, 8] (fun p q W' => ∃ (X : Nat) (x1 x0 : Int), p = .pointer (some ⟨X, 0, none⟩) ∧ q = .int .i64 0 ∧ IsW (x1, x0) ∧ V x1 x0 = ya ∧ Box2 W' X (.int .i64 x1) (.int .u64 x0) ∧ W.heap.size ≤ X ∧ Keeps W.heap.size W W')
  case first =>
    have K0 := Keeps.start (Nat.le_refl W.heap.size)
    have K1 := K0.drew
    go_region_held3 (fun w' => w'.cell? ⟨w.heap.size + 1, 0, none⟩ = some (.int .i64 t1) ∧ w'.cell? ⟨w.heap.size + 1, 1, none⟩ = some (.int .u64 t0) ∧ w'.cell? ⟨b, 6, none⟩ = some (.int .i64 R.s1) ∧ w'.cell? ⟨b, 7, none⟩ = some (.int .u64 R.s0) ∧ Keeps W.heap.size W w') ((refine (fun K => ⟨Keeps.cell K q1 zW, Keeps.cell K q0 zW, Keeps.cell K r6 lW, Keeps.cell K r7 lW, K⟩) (?_ : Keeps W.heap.size W _); ((repeat (first | with_reducible assumption | with_reducible refine Keeps.alloc ?_ _ | with_reducible refine Keeps.drew ?_ | with_reducible refine Keeps.setCell ?_ ?_ _)); (all_goals (first | (simp; done) | omega | (simp; omega))))))
      (first
      | (go_at_call 64; (with_reducible refine (ka _).mono ?_); rintro e v20 ⟨x1, x0, rfl, ix, ex, hb20⟩; have IX := hide ix; have EX := hide ex; clear ix ex; have K20 := Keeps.call (B := W.heap.size) (W := W) (by (repeat (first | with_reducible assumption | with_reducible refine Keeps.alloc ?_ _ | with_reducible refine Keeps.drew ?_ | with_reducible refine Keeps.setCell ?_ ?_ _)); (all_goals (first | (simp; done) | omega | (simp; omega)))) hb20; obtain ⟨bc20, bf20, bs20⟩ := bcell hb20; (try simp only [World.size_alloc, World.size_drew] at bc20 bf20 bs20); (try (have ov200 : W.heap.size < v20.heap.size := by omega)); (try (have ov201 : W.heap.size ≤ v20.heap.size := by omega)); (try (have ov202 : ¬ W.heap.size = v20.heap.size := by omega)); (try (have ov203 : ¬ v20.heap.size = W.heap.size := by omega)); (try (have ov204 : W.heap.size + 1 < v20.heap.size := by omega)); (try (have ov205 : W.heap.size + 1 ≤ v20.heap.size := by omega)); (try (have ov206 : ¬ W.heap.size + 1 = v20.heap.size := by omega)); (try (have ov207 : ¬ v20.heap.size = W.heap.size + 1 := by omega))))
    all_goals
      go_wp2_with fail
      go_meet
      case rel =>
        refine ⟨_, _, _, rfl, rfl, IX.out, EX.out, ⟨?_, ?_, ?_, ?_, ?_⟩, ?_, ?_⟩
        · first | (go_simp; done) | (go_simp; refine World.cell?_setCell_same' _ _ _ ?_; go_simp; done)
        · first | (go_simp; done) | (go_simp; refine World.cell?_setCell_same' _ _ _ ?_; go_simp; done)
        · first | (go_simp; done) | (go_simp; refine World.cell?_setCell_same' _ _ _ ?_; go_simp; done)
        · first | (go_simp; done) | (go_simp; refine World.cell?_setCell_same' _ _ _ ?_; go_simp; done)
        · first | (simp; done) | omega | (simp; omega)
        · first | (simp; done) | omega | (simp; omega)
        · (repeat (first | with_reducible assumption | with_reducible refine Keeps.alloc ?_ _ | with_reducible refine Keeps.drew ?_ | with_reducible refine Keeps.setCell ?_ ?_ _)); (all_goals (first | (simp; done) | omega | (simp; omega)))
  case rest =>
    obtain ⟨X, x1, x0, rfl, rfl, ix, ex, bx, XW, KK⟩ := hcut
    rename World => W2
    have IX := hide ix
    have EX := hide ex
    have k1 : W2.cell? ⟨b, 1, none⟩ = some (.bool false) := by have q := KK.cell HW.out.k1 lW; rw [AB.out] at q; exact q
    have d1 := KK.cell p1 zV
    have d0 := KK.cell p0 zV
    have q1 := KK.cell q1 zW
    have q0 := KK.cell q0 zW
    have r6 := KK.cell r6 lW
    have r7 := KK.cell r7 lW
    obtain ⟨b1, b0, g1, g0, bz⟩ := bx
    have lb : b < W2.heap.size := Nat.lt_of_lt_of_le lW KK.size
    have B2 := BW.trans (KK.below.mono BW.size)
    have zW2 : w.heap.size + 1 < W2.heap.size := by have := KK.size; omega
    have zX : w.heap.size + 1 < X := by omega
    have zX0 : w.heap.size < X := by omega
    have zW20 : w.heap.size < W2.heap.size := by omega
    have bX : b < X := by omega
    clear ix ex KK p1 p0
    have kb := fun (w' : World) (k : w'.cell? ⟨b, 1, none⟩ = some (.bool false)) (l : b < w'.heap.size) => beyond_spec k l v1 v0 x1 x0 IV.out IX.out
    rw [EX.out] at kb
    go_wp2_with (go_at_call 63; refine (kb _ k1 lb).mono ?_; rintro e w' ⟨rfl, hb⟩)
    go_returns
    exact ⟨rfl, B2.trans (hb.mono B2.size)⟩
set_option maxRecDepth 100000 in
set_option maxHeartbeats 4000000 in
theorem near_true {w : World} {b : Nat} {R : Ru} (h : RuAt w b R) (v1 v0 t1 t0 : Int) (iv : IsW (v1, v0)) (it : IsW (t1, t0)) (isl : IsW (R.s1, R.s0)) (f : Fits (V t1 t0 + V R.s1 R.s0)) (f2 : Fits (V t1 t0 - V R.s1 R.s0)) (ab : R.ab = true) :
    Calls Try.prog 62 #[.pointer (some ⟨b, 0, none⟩), .agg #[.int .i64 v1, .int .u64 v0], .agg #[.int .i64 t1, .int .u64 t0]] w fun e w' => e = .returned (.bool (bey true (V v1 v0) (V t1 t0 - V R.s1 R.s0))) ∧ Below w.heap.size w w' := by
  have ka := add_fit t1 t0 R.s1 R.s0 it isl f
  have ks := sub_fit t1 t0 R.s1 R.s0 it isl f2
  have HB := hide h
  have hl := h.lt
  have IV := hide iv
  have AB := hide ab
  have k1 := h.k1
  rw [ab] at k1
  clear h it isl f f2 iv ab
  generalize V t1 t0 + V R.s1 R.s0 = ya at *
  generalize V t1 t0 - V R.s1 R.s0 = ys at *
  go_enter Try.func62, Try.ntmps62
  go_wp2_with fail
  refine abs_wp (fun W => W.cell? ⟨w.heap.size, 0, none⟩ = some (.int .i64 v1) ∧ W.cell? ⟨w.heap.size, 1, none⟩ = some (.int .u64 v0) ∧ W.cell? ⟨w.heap.size + 1, 0, none⟩ = some (.int .i64 t1) ∧ W.cell? ⟨w.heap.size + 1, 1, none⟩ = some (.int .u64 t0) ∧ w.heap.size + 1 < W.heap.size ∧ Below w.heap.size w W) ?_ ?_
  · refine ⟨?_, ?_, ?_, ?_, ?_, ?_⟩
    all_goals first | assumption | (go_grown; done) | (simp [go_sem]; done) | (simp; done) | (simp; omega)
  rintro W ⟨p1, p0, q1, q0, zW, BW⟩
  have HW := hide (HB.out.later BW)
  have r6 := HW.out.k6
  have r7 := HW.out.k7
  have lW := HW.out.lt
  have zV : w.heap.size < W.heap.size := by omega
  clear k1
  go_cut [7, 8] (fun p q W' => ∃ (X : Nat) (x1 x0 : Int), p = .pointer (some ⟨X, 0, none⟩) ∧ q = .int .i64 0 ∧ IsW (x1, x0) ∧ V x1 x0 = ya ∧ Box2 W' X (.int .i64 x1) (.int .u64 x0) ∧ W.heap.size ≤ X ∧ Keeps W.heap.size W W')
  case first =>
    have K0 := Keeps.start (Nat.le_refl W.heap.size)
    have K1 := K0.drew
    go_region_held3 (fun w' => w'.cell? ⟨w.heap.size + 1, 0, none⟩ = some (.int .i64 t1) ∧ w'.cell? ⟨w.heap.size + 1, 1, none⟩ = some (.int .u64 t0) ∧ w'.cell? ⟨b, 6, none⟩ = some (.int .i64 R.s1) ∧ w'.cell? ⟨b, 7, none⟩ = some (.int .u64 R.s0) ∧ Keeps W.heap.size W w') ((refine (fun K => ⟨Keeps.cell K q1 zW, Keeps.cell K q0 zW, Keeps.cell K r6 lW, Keeps.cell K r7 lW, K⟩) (?_ : Keeps W.heap.size W _); ((repeat (first | with_reducible assumption | with_reducible refine Keeps.alloc ?_ _ | with_reducible refine Keeps.drew ?_ | with_reducible refine Keeps.setCell ?_ ?_ _)); (all_goals (first | (simp; done) | omega | (simp; omega))))))
      (first
      | (go_at_call 64; (with_reducible refine (ka _).mono ?_); rintro e v20 ⟨x1, x0, rfl, ix, ex, hb20⟩; have IX := hide ix; have EX := hide ex; clear ix ex; have K20 := Keeps.call (B := W.heap.size) (W := W) (by (repeat (first | with_reducible assumption | with_reducible refine Keeps.alloc ?_ _ | with_reducible refine Keeps.drew ?_ | with_reducible refine Keeps.setCell ?_ ?_ _)); (all_goals (first | (simp; done) | omega | (simp; omega)))) hb20; obtain ⟨bc20, bf20, bs20⟩ := bcell hb20; (try simp only [World.size_alloc, World.size_drew] at bc20 bf20 bs20); (try (have ov200 : W.heap.size < v20.heap.size := by omega)); (try (have ov201 : W.heap.size ≤ v20.heap.size := by omega)); (try (have ov202 : ¬ W.heap.size = v20.heap.size := by omega)); (try (have ov203 : ¬ v20.heap.size = W.heap.size := by omega)); (try (have ov204 : W.heap.size + 1 < v20.heap.size := by omega)); (try (have ov205 : W.heap.size + 1 ≤ v20.heap.size := by omega)); (try (have ov206 : ¬ W.heap.size + 1 = v20.heap.size := by omega)); (try (have ov207 : ¬ v20.heap.size = W.heap.size + 1 := by omega))))
    all_goals
      go_wp2_with fail
      go_meet
      case rel =>
        refine ⟨_, _, _, rfl, rfl, IX.out, EX.out, ⟨?_, ?_, ?_, ?_, ?_⟩, ?_, ?_⟩
        · first | (go_simp; done) | (go_simp; refine World.cell?_setCell_same' _ _ _ ?_; go_simp; done)
        · first | (go_simp; done) | (go_simp; refine World.cell?_setCell_same' _ _ _ ?_; go_simp; done)
        · first | (go_simp; done) | (go_simp; refine World.cell?_setCell_same' _ _ _ ?_; go_simp; done)
        · first | (go_simp; done) | (go_simp; refine World.cell?_setCell_same' _ _ _ ?_; go_simp; done)
        · first | (simp; done) | omega | (simp; omega)
        · first | (simp; done) | omega | (simp; omega)
        · (repeat (first | with_reducible assumption | with_reducible refine Keeps.alloc ?_ _ | with_reducible refine Keeps.drew ?_ | with_reducible refine Keeps.setCell ?_ ?_ _)); (all_goals (first | (simp; done) | omega | (simp; omega)))
  case rest =>
    obtain ⟨X, x1, x0, rfl, rfl, ix, ex, bx, XW, KK⟩ := hcut
    rename World => W2
    have IX := hide ix
    have EX := hide ex
    have k1 : W2.cell? ⟨b, 1, none⟩ = some (.bool true) := by have q := KK.cell HW.out.k1 lW; rw [AB.out] at q; exact q
    have d1 := KK.cell p1 zV
    have d0 := KK.cell p0 zV
    have q1 := KK.cell q1 zW
    have q0 := KK.cell q0 zW
    have r6 := KK.cell r6 lW
    have r7 := KK.cell r7 lW
    obtain ⟨b1, b0, g1, g0, bz⟩ := bx
    have lb : b < W2.heap.size := Nat.lt_of_lt_of_le lW KK.size
    have B2 := BW.trans (KK.below.mono BW.size)
    have zW2 : w.heap.size + 1 < W2.heap.size := by have := KK.size; omega
    have zX : w.heap.size + 1 < X := by omega
    have zX0 : w.heap.size < X := by omega
    have zW20 : w.heap.size < W2.heap.size := by omega
    have bX : b < X := by omega
    clear ix ex KK p1 p0
    go_wp2_with fail
    go_cut [24] (fun p W3 => ∃ (y1 y0 : Int), IsW (y1, y0) ∧ V y1 y0 = ys ∧ Box2 W3 X (.int .i64 y1) (.int .u64 y0) ∧ W2.heap.size ≤ W3.heap.size ∧ W3.cell? ⟨b, 1, none⟩ = some (.bool true) ∧ W3.cell? ⟨w.heap.size, 0, none⟩ = some (.int .i64 v1) ∧ W3.cell? ⟨w.heap.size, 1, none⟩ = some (.int .u64 v0) ∧ Below w.heap.size w W3)
    case first =>
      have K0 : Keeps W.heap.size W2 W2 := Keeps.start (Nat.le_trans (by omega : W.heap.size ≤ X) (Nat.le_of_lt bz))
      have K1 := K0.drew
      go_region_held3 (fun w' => w'.cell? ⟨w.heap.size + 1, 0, none⟩ = some (.int .i64 t1) ∧ w'.cell? ⟨w.heap.size + 1, 1, none⟩ = some (.int .u64 t0) ∧ w'.cell? ⟨b, 6, none⟩ = some (.int .i64 R.s1) ∧ w'.cell? ⟨b, 7, none⟩ = some (.int .u64 R.s0) ∧ Keeps W.heap.size W2 w') ((refine (fun K => ⟨Keeps.cell K q1 zW, Keeps.cell K q0 zW, Keeps.cell K r6 lW, Keeps.cell K r7 lW, K⟩) (?_ : Keeps W.heap.size W2 _); ((repeat (first | with_reducible assumption | with_reducible refine Keeps.alloc ?_ _ | with_reducible refine Keeps.drew ?_ | with_reducible refine Keeps.setCell ?_ ?_ _)); (all_goals (first | (simp; done) | omega | (simp; omega))))))
        (first
        | (go_at_call 42; (with_reducible refine (ks _).mono ?_); rintro e v21 ⟨y1, y0, rfl, iy, ey, hb21⟩; have IY := hide iy; have EY := hide ey; clear iy ey; have K21 := Keeps.call (B := W.heap.size) (W := W2) (by (repeat (first | with_reducible assumption | with_reducible refine Keeps.alloc ?_ _ | with_reducible refine Keeps.drew ?_ | with_reducible refine Keeps.setCell ?_ ?_ _)); (all_goals (first | (simp; done) | omega | (simp; omega)))) hb21; obtain ⟨bc21, bf21, bs21⟩ := bcell hb21; (try simp only [World.size_alloc, World.size_drew] at bc21 bf21 bs21); (try (have ov210 : W2.heap.size < v21.heap.size := by omega)); (try (have ov211 : W2.heap.size ≤ v21.heap.size := by omega)); (try (have ov212 : ¬ W2.heap.size = v21.heap.size := by omega)); (try (have ov213 : ¬ v21.heap.size = W2.heap.size := by omega)); (try (have ov214 : W2.heap.size + 1 < v21.heap.size := by omega)); (try (have ov215 : W2.heap.size + 1 ≤ v21.heap.size := by omega)); (try (have ov216 : ¬ W2.heap.size + 1 = v21.heap.size := by omega)); (try (have ov217 : ¬ v21.heap.size = W2.heap.size + 1 := by omega))))
      all_goals
        have KE := K21
        go_wp2_with fail
        go_meet
        case rel =>
          refine ⟨_, _, IY.out, EY.out, ⟨?_, ?_, ?_, ?_, ?_⟩, ?_, ?_, ?_, ?_, ?_⟩
          · first | (go_simp; done) | (go_simp; refine World.cell?_setCell_same' _ _ _ ?_; go_simp; done)
          · first | (go_simp; done) | (go_simp; refine World.cell?_setCell_same' _ _ _ ?_; go_simp; done)
          · first | (go_simp; done) | (go_simp; refine World.cell?_setCell_same' _ _ _ ?_; go_simp; done)
          · first | (go_simp; done) | (go_simp; refine World.cell?_setCell_same' _ _ _ ?_; go_simp; done)
          · first | (simp; done) | omega | (simp; omega)
          · first | (simp; done) | omega | (simp; omega)
          · go_simp
          · go_simp
          · go_simp
          · have BE : Below w.heap.size w v21 := B2.trans (K21.below.mono BW.size)
            repeat (first | assumption | refine Below.setCell ?_ (by first | (simp; done) | omega | (simp; omega)) _ | refine Below.drew ?_)
    case rest =>
      obtain ⟨y1, y0, iy, ey, bx3, sz3, k1, d1, d0, B3⟩ := hcut
      rename World => W3
      have IY := hide iy
      have EY := hide ey
      obtain ⟨b1, b0, g1, g0, bz⟩ := bx3
      have lb3 : b < W3.heap.size := by omega
      clear iy ey r6 r7 q1 q0
      have kb := fun (w' : World) (k : w'.cell? ⟨b, 1, none⟩ = some (.bool true)) (l : b < w'.heap.size) => beyond_spec k l v1 v0 y1 y0 IV.out IY.out
      rw [EY.out] at kb
      go_wp2_with (go_at_call 63; refine (kb _ k1 lb3).mono ?_; rintro e w' ⟨rfl, hb⟩)
      go_returns
      exact ⟨rfl, B3.trans (hb.mono B3.size)⟩
end Go.Proofs.Ytnlefakicjojdaa
