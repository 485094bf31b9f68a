/- Texts that belong together: Math Math2 Wbase Hid Nval Np Ownl Upd Nm Npt Nrd Cutp Nma. -/
import Init
import Derived.Test.YteahbdhhcfoiiaaDoorProg
import Derived.WalkKit
import Derived.WalkSpells
import Derived.WalkLawsBesides
import Derived.Handy
import Derived.Deep.RegionHeld3
import Derived.Deep.QuietTactic
import Derived.BigQuiet
import Derived.KernelRfl
import Derived.Deep.Cut
import Derived.SliceStrings
import Derived.Laws.Rows
import Derived.Laws.AppendOwn
import Derived.Deep.LoopGhost
set_option linter.unusedSimpArgs false
set_option linter.unusedVariables false
/- Plain numbers: a wide number (high word, low word) as one whole number; the order; what fits 128 bits. No Go in sight. -/
namespace Go.Proofs.YteahbdhhcfoiiaaDoor
set_option linter.unusedVariables false
namespace W
def B : Int := 18446744073709551616
/-- The number of a high and a low word. -/
def V (h l : Int) : Int := h * 18446744073709551616 + l
def hi (v : Int) : Int := v / 18446744073709551616
def lo (v : Int) : Int := v % 18446744073709551616
structure IsLo (l : Int) : Prop where
  a : 0 ≤ l
  b : l < 18446744073709551616
structure IsHi (h : Int) : Prop where
  a : -9223372036854775808 ≤ h
  b : h < 9223372036854775808
instance (v : Int) : Decidable (IsHi v) :=
  if h : -9223372036854775808 ≤ v ∧ v < 9223372036854775808 then isTrue ⟨h.1, h.2⟩ else isFalse fun f => h ⟨f.a, f.b⟩
structure Fits (v : Int) : Prop where
  a : -170141183460469231731687303715884105728 ≤ v
  b : v < 170141183460469231731687303715884105728
instance (v : Int) : Decidable (Fits v) :=
  if h : -170141183460469231731687303715884105728 ≤ v ∧ v < 170141183460469231731687303715884105728 then isTrue ⟨h.1, h.2⟩ else isFalse fun f => h ⟨f.a, f.b⟩
def cmpI (x y : Int) : Int := if x < y then -1 else if x = y then 0 else 1
theorem isLo_lo (v : Int) : IsLo (lo v) := ⟨by unfold lo; omega, by unfold lo; omega⟩
theorem isHi_hi {v : Int} (f : Fits v) : IsHi (hi v) := by obtain ⟨a, b⟩ := f; exact ⟨by unfold hi; omega, by unfold hi; omega⟩
theorem V_hi_lo (v : Int) : V (hi v) (lo v) = v := by unfold V hi lo; omega
theorem hi_V {h l : Int} (i : IsLo l) : hi (V h l) = h := by obtain ⟨a, b⟩ := i; unfold hi V; omega
theorem lo_V {h l : Int} (i : IsLo l) : lo (V h l) = l := by obtain ⟨a, b⟩ := i; unfold lo V; omega
theorem fits_V {h l : Int} (j : IsHi h) (i : IsLo l) : Fits (V h l) := by obtain ⟨a, b⟩ := i; obtain ⟨c, d⟩ := j; exact ⟨by unfold V; omega, by unfold V; omega⟩
theorem V_inj {h l h' l' : Int} (i : IsLo l) (i' : IsLo l') (e : V h l = V h' l') : h = h' ∧ l = l' := by
  obtain ⟨a, b⟩ := i; obtain ⟨c, d⟩ := i'; unfold V at e; omega
theorem hl_inj {x y : Int} (h : hi x = hi y) (l : lo x = lo y) : x = y := by unfold hi at h; unfold lo at l; omega
theorem isLo_0 : IsLo 0 := ⟨by omega, by omega⟩
theorem isHi_0 : IsHi 0 := ⟨by omega, by omega⟩
theorem cmp_lt {x y : Int} (h : x < y) : cmpI x y = -1 := by unfold cmpI; rw [if_pos h]
theorem cmp_eq {x y : Int} (h : x = y) : cmpI x y = 0 := by unfold cmpI; rw [if_neg (by omega), if_pos h]
theorem cmp_gt {x y : Int} (h : y < x) : cmpI x y = 1 := by unfold cmpI; rw [if_neg (by omega), if_neg (by omega)]
theorem cmp_cases (x y : Int) : (x < y ∧ cmpI x y = -1) ∨ (x = y ∧ cmpI x y = 0) ∨ (y < x ∧ cmpI x y = 1) := by
  rcases Int.lt_trichotomy x y with h | h | h
  · exact .inl ⟨h, cmp_lt h⟩
  · exact .inr (.inl ⟨h, cmp_eq h⟩)
  · exact .inr (.inr ⟨h, cmp_gt h⟩)
theorem V_eq {h l h' l' : Int} (a : h = h') (b : l = l') : V h l = V h' l' := by rw [a, b]
theorem V_lt1 {h l h' l' : Int} (i : IsLo l) (i' : IsLo l') (a : h < h') : V h l < V h' l' := by
  obtain ⟨a, b⟩ := i; obtain ⟨c, d⟩ := i'; unfold V; omega
theorem V_lt2 {h l h' l' : Int} (a : h = h') (b : l < l') : V h l < V h' l' := by unfold V; omega
/-- math/bits: Add64's sum and carry, Sub64's difference and borrow. -/
def addD (x y c : Int) : Int := (x + y + c) % 18446744073709551616
def addC (x y c : Int) : Int := (x + y + c) / 18446744073709551616
def subD (x y b : Int) : Int := (x - y - b) % 18446744073709551616
def subB (x y b : Int) : Int := if x < y + b then 1 else 0
structure IsBit (c : Int) : Prop where
  a : 0 ≤ c
  b : c ≤ 1
theorem isBit_0 : IsBit 0 := ⟨by omega, by omega⟩
theorem isBit_1 : IsBit 1 := ⟨by omega, by omega⟩
theorem isBit_addC {x y c : Int} (i : IsLo x) (j : IsLo y) (k : IsBit c) : IsBit (addC x y c) := by
  obtain ⟨_, _⟩ := i; obtain ⟨_, _⟩ := j; obtain ⟨_, _⟩ := k; exact ⟨by unfold addC; omega, by unfold addC; omega⟩
theorem isBit_subB (x y b : Int) : IsBit (subB x y b) := by unfold subB; split <;> exact ⟨by omega, by omega⟩
theorem isLo_addD (x y c : Int) : IsLo (addD x y c) := ⟨by unfold addD; omega, by unfold addD; omega⟩
theorem isLo_subD (x y c : Int) : IsLo (subD x y c) := ⟨by unfold subD; omega, by unfold subD; omega⟩
theorem isLo_bit {c : Int} (k : IsBit c) : IsLo c := by obtain ⟨_, _⟩ := k; exact ⟨by omega, by omega⟩
/-- A word of any kind as one without a sign; a word without a sign as one with. -/
def u (h : Int) : Int := h % 18446744073709551616
def s (h : Int) : Int := if h < 9223372036854775808 then h else h - 18446744073709551616
theorem isLo_u (h : Int) : IsLo (u h) := ⟨by unfold u; omega, by unfold u; omega⟩
theorem s_u {h : Int} (j : IsHi h) : s (u h) = h := by obtain ⟨_, _⟩ := j; unfold s u; split <;> omega
theorem minus_lo (a1 a0 b1 b0 : Int) : subD a0 b0 0 = lo (V a1 a0 - V b1 b0) := by unfold subD lo V; omega
theorem minus_hi {a1 a0 b1 b0 : Int} (i : IsLo a0) (j : IsLo b0) : subD a1 b1 (subB a0 b0 0) = u (hi (V a1 a0 - V b1 b0)) := by
  obtain ⟨_, _⟩ := i; obtain ⟨_, _⟩ := j; unfold subD subB u hi V; split <;> omega
def ab (v : Int) : Int := if v < 0 then -v else v
def resV (v : Int) : Int := if Fits v then v else 0
def resE (v : Int) : Int := if Fits v then 0 else 10
theorem resV_fits {v : Int} (f : Fits v) : resV v = v := by unfold resV; rw [if_pos f]
theorem resE_fits {v : Int} (f : Fits v) : resE v = 0 := by unfold resE; rw [if_pos f]
theorem resV_not {v : Int} (f : ¬ Fits v) : resV v = 0 := by unfold resV; rw [if_neg f]
theorem resE_not {v : Int} (f : ¬ Fits v) : resE v = 10 := by unfold resE; rw [if_neg f]
theorem resE_zero {v : Int} (h : resE v = 0) : Fits v := by unfold resE at h; split at h; assumption; omega
theorem fits_0 : Fits 0 := ⟨by omega, by omega⟩
theorem fits_resV (v : Int) : Fits (resV v) := by unfold resV; split; assumption; exact fits_0
theorem ab_lo_neg {h l : Int} (i : IsLo l) (j : IsHi h) (n : h < 0) : lo (V 0 0 - V (u h) l) = lo (ab (V h l)) := by
  obtain ⟨_, _⟩ := i; obtain ⟨_, _⟩ := j; have : ab (V h l) = -(V h l) := by unfold ab V; rw [if_pos (by omega)]
  rw [this]; unfold lo V u; omega
theorem ab_hi_neg {h l : Int} (i : IsLo l) (j : IsHi h) (n : h < 0) : u (hi (V 0 0 - V (u h) l)) = hi (ab (V h l)) := by
  obtain ⟨_, _⟩ := i; obtain ⟨_, _⟩ := j; have : ab (V h l) = -(V h l) := by unfold ab V; rw [if_pos (by omega)]
  rw [this]; unfold hi V u; omega
theorem ab_lo_pos {h l : Int} (i : IsLo l) (n : 0 ≤ h) : l = lo (ab (V h l)) := by
  obtain ⟨_, _⟩ := i; have : ab (V h l) = V h l := by unfold ab V; rw [if_neg (by omega)]
  rw [this]; unfold lo V; omega
theorem ab_hi_pos {h l : Int} (i : IsLo l) (j : IsHi h) (n : 0 ≤ h) : u h = hi (ab (V h l)) := by
  obtain ⟨_, _⟩ := i; obtain ⟨_, _⟩ := j; have : ab (V h l) = V h l := by unfold ab V; rw [if_neg (by omega)]
  rw [this]; unfold hi V u; omega
def sg (n : Bool) (m : Int) : Int := if n then -m else m
theorem sg_f (m : Int) : sg false m = m := rfl
theorem sg_t (m : Int) : sg true m = -m := rfl
theorem pos_fits {m1 m0 : Int} (i : IsLo m1) (j : IsLo m0) (n : 0 ≤ s m1) : Fits (V m1 m0) ∧ hi (V m1 m0) = s m1 ∧ lo (V m1 m0) = m0 := by
  obtain ⟨_, _⟩ := i; obtain ⟨_, _⟩ := j; unfold s at n ⊢
  split at n
  · refine ⟨⟨by unfold V; omega, by unfold V; omega⟩, ?_, by unfold V lo; omega⟩
    unfold V hi; rw [if_pos ‹_›]; omega
  · omega
theorem pos_over {m1 m0 : Int} (i : IsLo m1) (j : IsLo m0) (n : s m1 < 0) : ¬ Fits (V m1 m0) := by
  obtain ⟨_, _⟩ := i; obtain ⟨_, _⟩ := j; unfold s at n
  split at n
  · omega
  · intro f; have := f.b; unfold V at this; omega
theorem neg_fits {m1 m0 : Int} (i : IsLo m1) (j : IsLo m0) (n : s (u (hi (V 0 0 - V m1 m0))) < 0 ∨ (s (u (hi (V 0 0 - V m1 m0))) = 0 ∧ lo (V 0 0 - V m1 m0) = 0)) :
    Fits (-(V m1 m0)) ∧ hi (-(V m1 m0)) = s (u (hi (V 0 0 - V m1 m0))) ∧ lo (-(V m1 m0)) = lo (V 0 0 - V m1 m0) := by
  obtain ⟨_, _⟩ := i; obtain ⟨_, _⟩ := j
  have e : V 0 0 - V m1 m0 = -(V m1 m0) := by unfold V; omega
  rw [e] at n ⊢
  have f : Fits (-(V m1 m0)) := by
    unfold s u hi lo V at n
    refine ⟨?_, ?_⟩ <;> unfold V <;> split at n <;> omega
  exact ⟨f, (s_u (isHi_hi f)).symm, rfl⟩
theorem neg_over {m1 m0 : Int} (i : IsLo m1) (j : IsLo m0) (n : 0 ≤ s (u (hi (V 0 0 - V m1 m0)))) (k : ¬ (s (u (hi (V 0 0 - V m1 m0))) = 0 ∧ lo (V 0 0 - V m1 m0) = 0)) : ¬ Fits (-(V m1 m0)) := by
  obtain ⟨_, _⟩ := i; obtain ⟨_, _⟩ := j
  have e : V 0 0 - V m1 m0 = -(V m1 m0) := by unfold V; omega
  rw [e] at n k
  intro f
  have g := isHi_hi f
  rw [s_u g] at n k
  obtain ⟨f1, f2⟩ := f
  simp only [hi, lo, V] at n k f1 f2; omega
theorem prod_lo {x y : Int} (i : IsLo x) (j : IsLo y) : 0 ≤ x * y ∧ x * y ≤ 340282366920938463426481119284349108225 := by
  obtain ⟨a, b⟩ := i; obtain ⟨c, d⟩ := j
  refine ⟨Int.mul_nonneg a c, ?_⟩
  have h : x * y ≤ 18446744073709551615 * 18446744073709551615 := Int.mul_le_mul (by omega) (by omega) c (by omega)
  omega
theorem hi_prod {x y : Int} (i : IsLo x) (j : IsLo y) : IsLo (hi (x * y)) := by
  have h := prod_lo i j
  exact ⟨by unfold hi; omega, by unfold hi; omega⟩
/-- A product of two amounts of two words, one of which has no high word. -/
theorem times_split (a1 a0 b1 b0 : Int) (z : a1 = 0 ∨ b1 = 0) : V a1 a0 * V b1 b0 = (a1 * b0 + a0 * b1) * 18446744073709551616 + a0 * b0 := by
  unfold V
  rcases z with rfl | rfl
  · simp [Int.mul_add, Int.mul_assoc, Int.mul_comm]
  · simp [Int.mul_add, Int.mul_assoc, Int.mul_comm, Int.mul_left_comm]
end W
end Go.Proofs.YteahbdhhcfoiiaaDoor
/- Plain numbers: sums of many wide numbers in three limbs. No Go in sight. -/
namespace Go.Proofs.YteahbdhhcfoiiaaDoor
set_option linter.unusedVariables false
namespace W
/-- Three limbs of a sum, modulo 2^192. -/
structure SumAt (t s0 s1 s2 : Int) : Prop where
  a : s0 = t % 18446744073709551616
  b : s1 = t / 18446744073709551616 % 18446744073709551616
  c : s2 = t / 18446744073709551616 / 18446744073709551616 % 18446744073709551616
theorem sumAt_0 : SumAt 0 0 0 0 := ⟨rfl, rfl, rfl⟩
theorem SumAt.lo0 {t s0 s1 s2 : Int} (h : SumAt t s0 s1 s2) : IsLo s0 := by obtain ⟨a, b, c⟩ := h; exact ⟨by omega, by omega⟩
theorem SumAt.lo1 {t s0 s1 s2 : Int} (h : SumAt t s0 s1 s2) : IsLo s1 := by obtain ⟨a, b, c⟩ := h; exact ⟨by omega, by omega⟩
theorem SumAt.lo2 {t s0 s1 s2 : Int} (h : SumAt t s0 s1 s2) : IsLo s2 := by obtain ⟨a, b, c⟩ := h; exact ⟨by omega, by omega⟩
theorem SumAt.step {t s0 s1 s2 eh el : Int} (h : SumAt t s0 s1 s2) (j : IsHi eh) (i : IsLo el) :
    SumAt (t + V eh el) (addD s0 el 0) (addD s1 (u eh) (addC s0 el 0)) (addD s2 (u (eh / 9223372036854775808)) (addC s1 (u eh) (addC s0 el 0))) := by
  obtain ⟨a, b, c⟩ := h; obtain ⟨_, _⟩ := i; obtain ⟨_, _⟩ := j
  have q : eh / 18446744073709551616 = eh / 9223372036854775808 := by omega
  have p : (t + V eh el) / 18446744073709551616 = t / 18446744073709551616 + eh + (s0 + el) / 18446744073709551616 := by simp only [V]; omega
  have r0 : 0 ≤ (s0 + el) / 18446744073709551616 := by omega
  have r1 : (s0 + el) / 18446744073709551616 ≤ 1 := by omega
  have e0 : addC s0 el 0 = (s0 + el) / 18446744073709551616 := by simp [addC]
  generalize hr : (s0 + el) / 18446744073709551616 = r at *
  have k : (t / 18446744073709551616 + eh + r) / 18446744073709551616 = t / 18446744073709551616 / 18446744073709551616 + eh / 18446744073709551616 + (s1 + eh % 18446744073709551616 + r) / 18446744073709551616 := by omega
  refine ⟨?_, ?_, ?_⟩
  · simp only [addD, V]; omega
  · rw [p, e0]; simp only [addD, u]; omega
  · rw [p, k, e0, q]; simp only [addD, addC, u]; omega
theorem SumAt.done {t s0 s1 s2 : Int} (h : SumAt t s0 s1 s2) (lo : -1569275433846670190958947355801916604025588861116008628224 ≤ t) (up : t ≤ 1569275433846670190958947355801916604025588861116008628224)
    (e : s2 = u (s s1 / 9223372036854775808)) : Fits t ∧ hi t = s s1 ∧ W.lo t = s0 := by
  obtain ⟨a, b, c⟩ := h
  have f : Fits t := by
    simp only [u, s] at e
    exact ⟨by split at e <;> omega, by split at e <;> omega⟩
  refine ⟨f, ?_, ?_⟩
  · obtain ⟨_, _⟩ := f
    simp only [hi, s]; split <;> omega
  · simp only [W.lo]; omega
theorem SumAt.over {t s0 s1 s2 : Int} (h : SumAt t s0 s1 s2) (e : s2 ≠ u (s s1 / 9223372036854775808)) : ¬ Fits t := by
  rintro ⟨x, y⟩
  obtain ⟨a, b, c⟩ := h
  apply e
  simp only [u, s]; split <;> omega
def sumV : List (Int × Int) → Int
  | [] => 0
  | p :: l => V p.1 p.2 + sumV l
theorem sumV_append (l m : List (Int × Int)) : sumV (l ++ m) = sumV l + sumV m := by
  induction l with
  | nil => simp [sumV]
  | cons p l ih => simp [sumV, ih, Int.add_assoc]
theorem sumV_take (l : List (Int × Int)) (k : Nat) (h : k < l.length) : sumV (l.take (k + 1)) = sumV (l.take k) + V (l.getD k (0, 0)).1 (l.getD k (0, 0)).2 := by
  rw [List.take_succ_eq_append_getElem h, sumV_append]
  simp [sumV, List.getD, List.getElem?_eq_getElem h]
structure IsW (p : Int × Int) : Prop where
  a : IsHi p.1
  b : IsLo p.2
theorem sumV_bound (l : List (Int × Int)) (h : ∀ p ∈ l, IsW p) : -(170141183460469231731687303715884105728 * (l.length : Int)) ≤ sumV l ∧ sumV l ≤ 170141183460469231731687303715884105728 * (l.length : Int) := by
  induction l with
  | nil => simp [sumV]
  | cons p l ih =>
    have i := ih fun q hq => h q (List.mem_cons_of_mem _ hq)
    have w := h p (List.mem_cons_self ..)
    have f := fits_V w.a w.b
    obtain ⟨f1, f2⟩ := f
    simp only [sumV, List.length_cons]
    omega
end W
end Go.Proofs.YteahbdhhcfoiiaaDoor
/- Small lemmas for all walks: what lay below stays; worlds under a name; wide numbers as results. -/
namespace Go.Proofs.YteahbdhhcfoiiaaDoor
set_option linter.unusedVariables false
open Go.RowKit W
theorem ret_int {k : IntKind} {a b : Int} (h : a = b) : Ending.returned (.int k a) = .returned (.int k b) := by rw [h]
theorem ret_bool {a b : Bool} (h : a = b) : Ending.returned (.bool a) = .returned (.bool b) := by rw [h]
theorem ret_two {k : IntKind} {a b c d : Int} (h : a = b) (g : c = d) : Ending.returned (.tuple #[.int k a, .int k c]) = .returned (.tuple #[.int k b, .int k d]) := by rw [h, g]
/-- What lay below stays: cells and marks, as rules for the walk. -/
theorem bcell {W w1 : World} (hb : Below W.heap.size W w1) :
    (∀ b o, b < W.heap.size → w1.cell? ⟨b, o, none⟩ = W.cell? ⟨b, o, none⟩) ∧ (∀ b o, b < W.heap.size → w1.frozen? ⟨b, o, none⟩ = W.frozen? ⟨b, o, none⟩) ∧ W.heap.size ≤ w1.heap.size :=
  ⟨fun b o h => hb.cell (p := ⟨b, o, none⟩) h, fun b o h => hb.frozen (p := ⟨b, o, none⟩) h, hb.size⟩
/-- A cell of a block that lay there ahead of a call: what it holds, that it may be written, that its block is there. -/
theorem live {W w1 : World} (v : Value) (hb : Below W.heap.size W w1) (b o : Nat) (h : b < W.heap.size) (hv : W.cell? ⟨b, o, none⟩ = some v) (hf : W.frozen? ⟨b, o, none⟩ = false) :
    w1.cell? ⟨b, o, none⟩ = some v ∧ w1.frozen? ⟨b, o, none⟩ = false ∧ b < w1.heap.size :=
  ⟨(hb.cell (p := ⟨b, o, none⟩) h).trans hv, (hb.frozen (p := ⟨b, o, none⟩) h).trans hf, Nat.lt_of_lt_of_le h hb.size⟩
theorem wrap_s {m : Int} (i : IsLo m) : IntKind.i64.wrap m = s m := by
  obtain ⟨_, _⟩ := i; rw [IntKind.wrap_i64]; unfold s; split <;> omega
/-- The sum of the numbers, or that it is over. -/
abbrev sumRes (t : Int) : Ending := .returned (.tuple #[.agg #[.int .i64 (hi (resV t)), .int .u64 (lo (resV t))], .int .i64 (resE t)])
abbrev wideRes (v : Int) : Ending := .returned (.agg #[.int .i64 (hi v), .int .u64 (lo v)])
theorem ret_res {v x1 x0 : Int} (f : Fits v) (h1 : hi v = x1) (h0 : lo v = x0) : Ending.returned (.tuple #[.agg #[.int .i64 x1, .int .u64 x0], .int .i64 0]) =
    .returned (.tuple #[.agg #[.int .i64 (hi (resV v)), .int .u64 (lo (resV v))], .int .i64 (resE v)]) := by
  rw [resV_fits f, resE_fits f, h1, h0]
theorem ret_over {v : Int} (f : ¬ Fits v) : Ending.returned (.tuple #[.agg #[.int .i64 0, .int .u64 0], .int .i64 10]) =
    .returned (.tuple #[.agg #[.int .i64 (hi (resV v)), .int .u64 (lo (resV v))], .int .i64 (resE v)]) := by
  rw [resV_not f, resE_not f]; rfl
/-- Below block B the world w is as W was. -/
structure Keeps (B : Nat) (W w : World) : Prop where
  below : Below B W w
  le : B ≤ W.heap.size
theorem Keeps.start {B : Nat} {W : World} (h : B ≤ W.heap.size) : Keeps B W W := ⟨Below.refl _ _, h⟩
theorem Keeps.size {B : Nat} {W w : World} (k : Keeps B W w) : B ≤ w.heap.size := Nat.le_trans k.le k.below.size
theorem Keeps.call {B : Nat} {W w w1 : World} (k : Keeps B W w) (hb : Below w.heap.size w w1) : Keeps B W w1 := ⟨k.below.trans (hb.mono k.size), k.le⟩
theorem Keeps.alloc {B : Nat} {W w : World} (k : Keeps B W w) (o : Obj) : Keeps B W (w.alloc o) := ⟨k.below.alloc k.size o, k.le⟩
theorem Keeps.drew {B : Nat} {W w : World} (k : Keeps B W w) : Keeps B W w.drew := ⟨k.below.drew, k.le⟩
theorem Keeps.setCell {B : Nat} {W w : World} (k : Keeps B W w) {p : Addr} (hp : B ≤ p.block) (u : Value) : Keeps B W (w.setCell p u) := ⟨k.below.setCell hp u, k.le⟩
theorem Keeps.cell {B : Nat} {W w : World} (k : Keeps B W w) {b o : Nat} {v : Value} (h : W.cell? ⟨b, o, none⟩ = some v) (hb : b < B) : w.cell? ⟨b, o, none⟩ = some v := (k.below.cell (p := ⟨b, o, none⟩) hb).trans h
theorem Keeps.free {B : Nat} {W w : World} (k : Keeps B W w) {b o : Nat} (h : W.frozen? ⟨b, o, none⟩ = false) (hb : b < B) : w.frozen? ⟨b, o, none⟩ = false := (k.below.frozen (p := ⟨b, o, none⟩) hb).trans h
/-- The world under a name, with what is known of it. -/
theorem abs_wp {P : Program} {c : Code} {Q : Exit → Act → World → Prop} {a : Act} {w : World} (F : World → Prop) (hF : F w) (h : ∀ W, F W → c.wp P Q a W) : c.wp P Q a w := h w hF
theorem abs_list {P : Program} {ops : Array Oper} {Q : Exit → Act → World → Prop} {l : List Oper} {a : Act} {w : World} (F : World → Prop) (hF : F w) (h : ∀ W, F W → wpList P ops Q l a W) : wpList P ops Q l a w := h w hF
theorem below_drewN {B : Nat} {a w : World} (h : Below B a w) (n : Nat) : Below B a (w.drewN n) := ⟨h.os, h.tape, h.output, h.size, h.block⟩
theorem lo_of_wf {x : Int} (h : (Lit.int .u64 x).wf = true) : IsLo x := by
  simp only [Lit.wf, IntKind.min, IntKind.max, IntKind.signed, IntKind.bits, Bool.and_eq_true] at h
  exact ⟨by simp at h; omega, by simp at h; omega⟩
theorem hi_of_wf {x : Int} (h : (Lit.int .i64 x).wf = true) : IsHi x := by
  simp only [Lit.wf, IntKind.min, IntKind.max, IntKind.signed, IntKind.bits, Bool.and_eq_true, decide_eq_true_eq, if_true] at h
  exact ⟨by omega, by omega⟩
theorem isW_res (v : Int) : IsW (hi (resV v), lo (resV v)) := ⟨isHi_hi (fits_resV v), isLo_lo _⟩
/-- Small: the number as an int64, if it is one. -/
def smallV (v : Int) : Int := if IsHi v then v else 0
def smallB (v : Int) : Bool := decide (IsHi v)
end Go.Proofs.YteahbdhhcfoiiaaDoor
/- Small words for all walks: a fact behind a name; boxes of two and three cells. -/
namespace Go.Proofs.YteahbdhhcfoiiaaDoor
set_option linter.unusedVariables false
open Go.RowKit W
/-- A contract of a function that only computes. -/
abbrev CalcN (f : Nat) (args : Array Value) (w : World) (r : Value) : Prop := Calls Tryd.prog f args w fun e w' => e = .returned r ∧ w = w'
theorem hide {p : Prop} (h : p) : Hid p := h
/-- A box of two cells that may be written. -/
structure Box2 (w : World) (b : Nat) (x y : Value) : Prop where
  x : w.cell? ⟨b, 0, none⟩ = some x
  y : w.cell? ⟨b, 1, none⟩ = some y
  fx : w.frozen? ⟨b, 0, none⟩ = false
  fy : w.frozen? ⟨b, 1, none⟩ = false
  lt : b < w.heap.size
theorem Box2.later {w w' : World} {b : Nat} {x y : Value} (h : Box2 w b x y) (k : Below w.heap.size w w') : Box2 w' b x y :=
  ⟨(k.cell (p := ⟨b, 0, none⟩) h.lt).trans h.x, (k.cell (p := ⟨b, 1, none⟩) h.lt).trans h.y,
   (k.frozen (p := ⟨b, 0, none⟩) h.lt).trans h.fx, (k.frozen (p := ⟨b, 1, none⟩) h.lt).trans h.fy, Nat.lt_of_lt_of_le h.lt k.size⟩
/-- A box of three cells that may be written. -/
structure Box3 (w : World) (b : Nat) (x y z : Value) : Prop where
  x : w.cell? ⟨b, 0, none⟩ = some x
  y : w.cell? ⟨b, 1, none⟩ = some y
  z : w.cell? ⟨b, 2, none⟩ = some z
  fx : w.frozen? ⟨b, 0, none⟩ = false
  fy : w.frozen? ⟨b, 1, none⟩ = false
  fz : w.frozen? ⟨b, 2, none⟩ = false
  lt : b < w.heap.size
theorem Box3.later {w w' : World} {b : Nat} {x y z : Value} (h : Box3 w b x y z) (k : Below w.heap.size w w') : Box3 w' b x y z :=
  ⟨(k.cell (p := ⟨b, 0, none⟩) h.lt).trans h.x, (k.cell (p := ⟨b, 1, none⟩) h.lt).trans h.y, (k.cell (p := ⟨b, 2, none⟩) h.lt).trans h.z,
   (k.frozen (p := ⟨b, 0, none⟩) h.lt).trans h.fx, (k.frozen (p := ⟨b, 1, none⟩) h.lt).trans h.fy, (k.frozen (p := ⟨b, 2, none⟩) h.lt).trans h.fz, Nat.lt_of_lt_of_le h.lt k.size⟩
/-- A box of one cell that may be written. -/
structure Box1 (w : World) (b : Nat) (x : Value) : Prop where
  x : w.cell? ⟨b, 0, none⟩ = some x
  fx : w.frozen? ⟨b, 0, none⟩ = false
  lt : b < w.heap.size
theorem Box1.later {w w' : World} {b : Nat} {x : Value} (h : Box1 w b x) (k : Below w.heap.size w w') : Box1 w' b x :=
  ⟨(k.cell (p := ⟨b, 0, none⟩) h.lt).trans h.x, (k.frozen (p := ⟨b, 0, none⟩) h.lt).trans h.fx, Nat.lt_of_lt_of_le h.lt k.size⟩
theorem box1 {w w' : World} (k : Below w.heap.size w w') (b : Nat) (x : Value) (hx : w.cell? ⟨b, 0, none⟩ = some x) (fx : w.frozen? ⟨b, 0, none⟩ = false) (lt : b < w.heap.size) : Box1 w' b x :=
  Box1.later ⟨hx, fx, lt⟩ k
theorem box2 {w w' : World} (k : Below w.heap.size w w') (b : Nat) (x y : Value) (hx : w.cell? ⟨b, 0, none⟩ = some x) (hy : w.cell? ⟨b, 1, none⟩ = some y) (fx : w.frozen? ⟨b, 0, none⟩ = false) (fy : w.frozen? ⟨b, 1, none⟩ = false) (lt : b < w.heap.size) : Box2 w' b x y :=
  Box2.later ⟨hx, hy, fx, fy, lt⟩ k
theorem box3 {w w' : World} (k : Below w.heap.size w w') (b : Nat) (x y z : Value) (hx : w.cell? ⟨b, 0, none⟩ = some x) (hy : w.cell? ⟨b, 1, none⟩ = some y) (hz : w.cell? ⟨b, 2, none⟩ = some z) (fx : w.frozen? ⟨b, 0, none⟩ = false) (fy : w.frozen? ⟨b, 1, none⟩ = false) (fz : w.frozen? ⟨b, 2, none⟩ = false) (lt : b < w.heap.size) : Box3 w' b x y z :=
  Box3.later ⟨hx, hy, hz, fx, fy, fz, lt⟩ k
end Go.Proofs.YteahbdhhcfoiiaaDoor
/- name: the bytes of names; Valid. -/
namespace Go.Proofs.YteahbdhhcfoiiaaDoor
set_option linter.unusedVariables false
set_option linter.unusedSimpArgs false
open Go.RowKit W
/-- The family of a byte: 'A', 'a', '0' or 0. -/
def famI (x : Int) : Int := if 65 ≤ x ∧ x ≤ 90 then 65 else if 97 ≤ x ∧ x ≤ 122 then 97 else if 48 ≤ x ∧ x ≤ 57 then 48 else 0
def clsI (x : Int) : Bool := decide (x = 95) || decide (famI x ≠ 0)
def namI (x : Int) : Bool := clsI x || decide (x = 45)
def nB (c : UInt8) : Bool := namI (c.toNat : Int)
set_option maxRecDepth 100000 in
set_option maxHeartbeats 4000000 in
theorem family_spec (x : Int) (h0 : 0 ≤ x) (h1 : x < 256) (w : World) : CalcN 71 #[.int .u8 x] w (.int .u8 (famI x)) := by
  by_cases a : 65 ≤ x ∧ x ≤ 90
  · have e : famI x = 65 := if_pos a
    rw [e]
    obtain ⟨a1, a2⟩ := a
    clear e
    go_enter Tryd.func71, Tryd.ntmps71
    go_wp2
    go_returns
    exact ⟨rfl, rfl⟩
  by_cases b : 97 ≤ x ∧ x ≤ 122
  · have e : famI x = 97 := by unfold famI; rw [if_neg a, if_pos b]
    rw [e]
    obtain ⟨b1, b2⟩ := b
    clear e a
    go_enter Tryd.func71, Tryd.ntmps71
    go_wp2
    go_returns
    exact ⟨rfl, rfl⟩
  by_cases c : 48 ≤ x ∧ x ≤ 57
  · have e : famI x = 48 := by unfold famI; rw [if_neg a, if_neg b, if_pos c]
    rw [e]
    obtain ⟨c1, c2⟩ := c
    clear e a b
    go_enter Tryd.func71, Tryd.ntmps71
    go_wp2
    go_returns
    exact ⟨rfl, rfl⟩
  · have e : famI x = 0 := by unfold famI; rw [if_neg a, if_neg b, if_neg c]
    rw [e]
    clear e
    have r : x < 48 ∨ (57 < x ∧ x < 65) ∨ (90 < x ∧ x < 97) ∨ 122 < x := by omega
    clear a b c
    rcases r with r | ⟨r, r'⟩ | ⟨r, r'⟩ | r
    all_goals
      go_enter Tryd.func71, Tryd.ntmps71
      go_wp2
      go_returns
      exact ⟨rfl, rfl⟩
set_option maxRecDepth 100000 in
set_option maxHeartbeats 4000000 in
theorem class_spec (x : Int) (h0 : 0 ≤ x) (h1 : x < 256) (w : World) : CalcN 51 #[.int .u8 x] w (.bool (clsI x)) := by
  have k := fun w' => family_spec x h0 h1 w'
  unfold clsI
  obtain ⟨f, hf⟩ : ∃ f, f = famI x := ⟨_, rfl⟩
  rw [← hf] at k ⊢
  clear hf
  by_cases a : x = 95
  · rw [decide_eq_true a]
    go_enter Tryd.func51, Tryd.ntmps51
    go_wp2_with (go_at_call 71; refine (k _).mono ?_; rintro e w1 ⟨rfl, rfl⟩)
    go_returns
    exact ⟨by simp, rfl⟩
  · rw [decide_eq_false a]
    by_cases b : f = 0
    · subst b
      go_enter Tryd.func51, Tryd.ntmps51
      go_wp2_with (go_at_call 71; refine (k _).mono ?_; rintro e w1 ⟨rfl, rfl⟩)
      go_returns
      exact ⟨by simp [a], rfl⟩
    · have hb : (f == 0) = false := by simp [b]
      have hb2 : (f != 0) = true := by simp [b]
      have hb3 : decide (f ≠ 0) = true := decide_eq_true b
      rw [hb3]
      go_enter Tryd.func51, Tryd.ntmps51
      go_wp2_with (go_at_call 71; refine (k _).mono ?_; rintro e w1 ⟨rfl, rfl⟩)
      go_returns
      exact ⟨by simp [hb, hb2], rfl⟩
set_option maxRecDepth 100000 in
set_option maxHeartbeats 4000000 in
theorem nbyte_spec (x : Int) (h0 : 0 ≤ x) (h1 : x < 256) (w : World) : CalcN 35 #[.int .u8 x] w (.bool (namI x)) := by
  have k := fun w' => class_spec x h0 h1 w'
  unfold namI
  obtain ⟨f, hf⟩ : ∃ f, f = clsI x := ⟨_, rfl⟩
  rw [← hf] at k ⊢
  clear hf
  cases f
  · by_cases a : x = 45
    · subst a
      go_enter Tryd.func35, Tryd.ntmps35
      go_wp2_with (go_at_call 51; refine (k _).mono ?_; rintro e w1 ⟨rfl, rfl⟩)
      go_returns
      exact ⟨by simp, rfl⟩
    · go_enter Tryd.func35, Tryd.ntmps35
      go_wp2_with (go_at_call 51; refine (k _).mono ?_; rintro e w1 ⟨rfl, rfl⟩)
      go_returns
      exact ⟨by simp [a], rfl⟩
  · go_enter Tryd.func35, Tryd.ntmps35
    go_wp2_with (go_at_call 51; refine (k _).mono ?_; rintro e w1 ⟨rfl, rfl⟩)
    go_returns
    exact ⟨by simp, rfl⟩
end Go.Proofs.YteahbdhhcfoiiaaDoor
/- name: patterns, plain: how a text is read. -/
namespace Go.Proofs.YteahbdhhcfoiiaaDoor
set_option linter.unusedVariables false
set_option linter.unusedSimpArgs false
/-- The byte at a place; 0 behind the end. -/
def nx (s : ByteArray) (i : Nat) : UInt8 := if h : i < s.size then s[i] else 0
def cB (c : UInt8) : Bool := clsI (c.toNat : Int)
def fB (c : UInt8) : Int := famI (c.toNat : Int)
/-- A piece: its kind, its text, its choice. -/
structure Gl where
  k : Int
  t : ByteArray
  al : List ByteArray
/-- Where the run of name bytes from i on ends. -/
def textE (s : ByteArray) : Nat → Nat → Nat
  | 0, i => i
  | f + 1, i => if nB (nx s i) then textE s f (i + 1) else i
/-- A byte of a class, or a range: where it ends, its first and last byte; none: where the fault is. -/
def itemA (s : ByteArray) (i : Nat) : Nat × Option (UInt8 × UInt8) :=
  let c := nx s i
  if cB c then
    if nx s (i + 1) = 45 then
      if fB c = 0 then (i + 1, none)
      else if fB (nx s (i + 2)) = fB c ∧ c ≤ nx s (i + 2) then (i + 3, some (c, nx s (i + 2))) else (i + 2, none)
    else (i + 1, some (c, c))
  else (i, none)
def inB (rs : List (UInt8 × UInt8)) (b : Nat) : Bool := rs.any fun r => decide (r.1.toNat ≤ b) && decide (b ≤ r.2.toNat)
/-- A class: where it ends, its ranges. -/
def classA (s : ByteArray) : Nat → Nat → List (UInt8 × UInt8) → Nat × Option (List (UInt8 × UInt8))
  | 0, i, _ => (i, none)
  | f + 1, i, acc => match itemA s i with
    | (j, none) => (j, none)
    | (j, some r) => if nx s j = 93 then (j + 1, some (acc ++ [r])) else classA s f j (acc ++ [r])
def clsT (rs : List (UInt8 × UInt8)) : List UInt8 := ((List.range 128).filter (inB rs)).map UInt8.ofNat
/-- A choice. -/
def choiceA (s : ByteArray) : Nat → Nat → List ByteArray → Nat × Except Int (List ByteArray)
  | 0, i, _ => (i, .error 31)
  | f + 1, i, acc =>
    let j := textE s (s.size + 1) i
    let acc' := acc ++ [s.extract i j]
    if nx s j = 125 then (j + 1, .ok acc')
    else if nx s j = 44 then (if acc'.length = 16 then (j, .error 3) else choiceA s f (j + 1) acc')
    else (j, .error 31)
def pieceA (s : ByteArray) (i : Nat) : Nat × Except Int Gl :=
  let c := nx s i
  if c = 42 then (i + 1, .ok ⟨2, .empty, []⟩)
  else if c = 63 then (i + 1, .ok ⟨3, .empty, []⟩)
  else if c = 91 then (match classA s (s.size + 1) (i + 1) [] with
    | (j, none) => (j, .error 31)
    | (j, some rs) => (j, .ok ⟨4, ⟨(clsT rs).toArray⟩, []⟩))
  else if c = 123 then (match choiceA s (s.size + 1) (i + 1) [] with
    | (j, .error e) => (j, .error e)
    | (j, .ok l) => (j, .ok ⟨5, .empty, l⟩))
  else
    let j := textE s (s.size + 1) i
    if j = i then (i, .error 31) else (j, .ok ⟨1, s.extract i j, []⟩)
def nodeA (s : ByteArray) : Nat → Nat → List Gl → Nat × Except Int (List Gl)
  | 0, i, _ => (i, .error 31)
  | f + 1, i, acc =>
    if i < s.size ∧ nx s i ≠ 46 then (match pieceA s i with
      | (j, .error e) => (j, .error e)
      | (j, .ok g) => nodeA s f j (acc ++ [g]))
    else if acc = [] then (i, .error 31) else (i, .ok acc)
def patA (s : ByteArray) : Nat → Nat → List (List Gl) → Nat × Except Int (List (List Gl))
  | 0, i, _ => (i, .error 31)
  | f + 1, i, acc => match nodeA s (s.size + 1) i [] with
    | (j, .error e) => (j, .error e)
    | (j, .ok nd) =>
      if j < s.size ∧ acc.length + 1 = 16 then (j, .error 3)
      else if j = s.size then (0, .ok (acc ++ [nd])) else patA s f (j + 1) (acc ++ [nd])
/-- P3.3. -/
def compA (s : ByteArray) : Nat × Except Int (List (List Gl)) := if 400 < s.size then (400, .error 2) else patA s (s.size + 1) 0 []
theorem nx_lt {s : ByteArray} {i : Nat} (h : i < s.size) : nx s i = s[i] := by unfold nx; rw [dif_pos h]
theorem nx_ge {s : ByteArray} {i : Nat} (h : s.size ≤ i) : nx s i = 0 := by unfold nx; rw [dif_neg (by omega)]
theorem lt_of_nx {s : ByteArray} {i : Nat} (h : nx s i ≠ 0) : i < s.size := by
  rcases Nat.lt_or_ge i s.size with q | q
  · exact q
  · exact absurd (nx_ge q) h
theorem nB0 : nB 0 = false := by decide
theorem cB0 : cB 0 = false := by decide
theorem fB0 : fB 0 = 0 := by decide
theorem nB_lt {s : ByteArray} {i : Nat} (h : nB (nx s i) = true) : i < s.size := lt_of_nx (by intro e; rw [e, nB0] at h; cases h)
theorem cB_lt {s : ByteArray} {i : Nat} (h : cB (nx s i) = true) : i < s.size := lt_of_nx (by intro e; rw [e, cB0] at h; cases h)
theorem textE_ge (s : ByteArray) (f i : Nat) : i ≤ textE s f i := by
  induction f generalizing i with
  | zero => exact Nat.le_refl _
  | succ f ih => unfold textE; split; (have := ih (i + 1); omega); exact Nat.le_refl _
theorem textE_le (s : ByteArray) (f i : Nat) (h : i ≤ s.size) : textE s f i ≤ s.size := by
  induction f generalizing i with
  | zero => exact h
  | succ f ih =>
    unfold textE; split
    · rename_i q; exact ih (i + 1) (nB_lt q)
    · exact h
theorem textE_end (s : ByteArray) (f i : Nat) (h : s.size < f + i) : nB (nx s (textE s f i)) = false := by
  induction f generalizing i with
  | zero => unfold textE; rw [nx_ge (by omega), nB0]
  | succ f ih =>
    unfold textE; split
    · exact ih (i + 1) (by omega)
    · rename_i q; simpa using q
/-- Enough is enough. -/
theorem textE_more (s : ByteArray) (f g i : Nat) (h : s.size < f + i) (k : s.size < g + i) : textE s f i = textE s g i := by
  induction f generalizing i g with
  | zero =>
    cases g with
    | zero => rfl
    | succ g => unfold textE; rw [nx_ge (by omega), nB0]; rfl
  | succ f ih =>
    cases g with
    | zero => unfold textE; rw [nx_ge (by omega), nB0]; rfl
    | succ g => unfold textE; split; exact ih g (i + 1) (by omega) (by omega); rfl
theorem textE_step {s : ByteArray} {f i : Nat} (h : s.size < f + i) (e : nB (nx s i) = true) : textE s f (i + 1) = textE s f i := by
  cases f with
  | zero => have := nB_lt e; omega
  | succ f =>
    rw [show textE s (f + 1) i = textE s f (i + 1) by rw [textE]; rw [if_pos e]]
    exact textE_more s _ _ _ (by omega) (by omega)
theorem textE_stop {s : ByteArray} {f i : Nat} (e : nB (nx s i) = false) : textE s f i = i := by
  cases f with
  | zero => rfl
  | succ f => rw [textE, e]; rfl
theorem item_pos {s : ByteArray} {i j : Nat} {r : UInt8 × UInt8} (h : itemA s i = (j, some r)) : i < j ∧ j ≤ s.size ∧ cB r.1 = true ∧ r.1.toNat ≤ r.2.toNat ∧ r.2.toNat < 128 := by
  have hc : ∀ c : UInt8, fB c ≠ 0 → c.toNat < 128 := by unfold fB famI; intro c; (repeat split) <;> omega
  have hcb : ∀ c : UInt8, cB c = true → c.toNat < 128 := by
    intro c; unfold cB clsI famI; simp only [Bool.or_eq_true, decide_eq_true_eq]; (repeat split) <;> omega
  unfold itemA at h
  simp only at h
  split at h
  · rename_i q
    have := cB_lt q
    split at h
    · split at h
      · cases h
      · rename_i z
        split at h
        · rename_i y
          obtain ⟨rfl, rfl⟩ := Prod.mk.inj h |>.imp id Option.some.inj
          have l2 : i + 2 < s.size := lt_of_nx (by intro e; rw [e, fB0] at y; exact z y.1.symm)
          exact ⟨by omega, by omega, q, y.2, hc _ (by rw [y.1]; exact z)⟩
        · cases h
    · obtain ⟨rfl, rfl⟩ := Prod.mk.inj h |>.imp id Option.some.inj
      exact ⟨by omega, by omega, q, Nat.le_refl _, hcb _ q⟩
  · cases h
theorem class_pos {s : ByteArray} {f i : Nat} {acc : List (UInt8 × UInt8)} (h : i ≤ s.size) : (classA s f i acc).1 ≤ s.size := by
  induction f generalizing i acc with
  | zero => exact h
  | succ f ih =>
    unfold classA
    split
    · rename_i j e
      show j ≤ _
      unfold itemA at e
      simp only at e
      split at e
      · rename_i q
        have := cB_lt q
        split at e
        · rename_i y
          have l1 : i + 1 < s.size := lt_of_nx (by rw [y]; decide)
          split at e
          · cases e; omega
          · split at e
            · cases e
            · cases e; omega
        · cases e
      · cases e; omega
    · rename_i j r e
      obtain ⟨h1, h2, _⟩ := item_pos e
      split
      · rename_i y
        have : j < s.size := lt_of_nx (by rw [y]; decide)
        exact this
      · exact ih h2
theorem item_le {s : ByteArray} {i : Nat} (h : i ≤ s.size) : (itemA s i).1 ≤ s.size := by
  have := class_pos (s := s) (f := 1) (acc := []) h
  unfold classA at this
  split at this
  · rename_i j e; rw [e]; exact this
  · rename_i j r e; rw [e]; exact (item_pos e).2.1
theorem choice_pos {s : ByteArray} {f i : Nat} {acc : List ByteArray} (h : i ≤ s.size) : (choiceA s f i acc).1 ≤ s.size := by
  induction f generalizing i acc with
  | zero => exact h
  | succ f ih =>
    have hj := textE_le s (s.size + 1) i h
    unfold choiceA
    simp only
    split
    · rename_i y
      exact lt_of_nx (by rw [y]; decide)
    · split
      · rename_i y
        split
        · exact hj
        · exact ih (lt_of_nx (by rw [y]; decide))
      · exact hj
theorem piece_le {s : ByteArray} {i : Nat} (h : i < s.size) : (pieceA s i).1 ≤ s.size := by
  unfold pieceA
  simp only
  split
  · exact h
  split
  · exact h
  split
  · have := class_pos (s := s) (f := s.size + 1) (i := i + 1) (acc := []) h
    split <;> (rename_i e; rw [e] at this; exact this)
  split
  · have := choice_pos (s := s) (f := s.size + 1) (i := i + 1) (acc := []) h
    split <;> (rename_i e; rw [e] at this; exact this)
  split
  · exact Nat.le_of_lt h
  · exact textE_le _ _ _ (Nat.le_of_lt h)
theorem class_gt {s : ByteArray} {f i j : Nat} {acc rs : List (UInt8 × UInt8)} (h : classA s f i acc = (j, some rs)) : i < j := by
  induction f generalizing i acc with
  | zero => cases h
  | succ f ih =>
    unfold classA at h
    split at h
    · cases h
    · rename_i k r e
      have := (item_pos e).1
      split at h
      · cases h; omega
      · have := ih h; omega
theorem choice_gt {s : ByteArray} {f i j : Nat} {acc rs : List ByteArray} (h : choiceA s f i acc = (j, .ok rs)) : i < j := by
  induction f generalizing i acc with
  | zero => cases h
  | succ f ih =>
    have := textE_ge s (s.size + 1) i
    unfold choiceA at h
    simp only at h
    split at h
    · cases h; omega
    · split at h
      · split at h
        · cases h
        · have := ih h; omega
      · cases h
theorem piece_gt {s : ByteArray} {i j : Nat} {g : Gl} (h : pieceA s i = (j, .ok g)) : i < j := by
  unfold pieceA at h
  simp only at h
  split at h
  · cases h; omega
  split at h
  · cases h; omega
  split at h
  · split at h
    · cases h
    · rename_i e; cases h; have := class_gt e; omega
  split at h
  · split at h
    · cases h
    · rename_i e; cases h; have := choice_gt e; omega
  split at h
  · cases h
  · cases h; have := textE_ge s (s.size + 1) i; omega
theorem node_le {s : ByteArray} {f i : Nat} {acc : List Gl} (h : i ≤ s.size) : (nodeA s f i acc).1 ≤ s.size := by
  induction f generalizing i acc with
  | zero => exact h
  | succ f ih =>
    unfold nodeA
    split
    · rename_i q
      have := piece_le (s := s) q.1
      split
      · rename_i e; rw [e] at this; exact this
      · rename_i e; rw [e] at this; exact ih this
    · split <;> exact h
theorem node_end {s : ByteArray} {f i j : Nat} {acc l : List Gl} (h : nodeA s f i acc = (j, .ok l)) (hi : i ≤ s.size) : j = s.size ∨ nx s j = 46 := by
  induction f generalizing i acc with
  | zero => cases h
  | succ f ih =>
    unfold nodeA at h
    split at h
    · rename_i q
      have := piece_le (s := s) q.1
      split at h
      · cases h
      · rename_i e; rw [e] at this; exact ih h this
    · rename_i q
      split at h
      · cases h
      · cases h
        by_cases z : j < s.size
        · right; exact Decidable.byContradiction fun y => q ⟨z, y⟩
        · left; omega
theorem node_gt {s : ByteArray} {f i j : Nat} {acc l : List Gl} (h : nodeA s f i acc = (j, .ok l)) : i ≤ j := by
  induction f generalizing i acc with
  | zero => cases h
  | succ f ih =>
    unfold nodeA at h
    split at h
    · split at h
      · cases h
      · rename_i e; have := piece_gt e; have := ih h; omega
    · split at h
      · cases h
      · cases h; exact Nat.le_refl _
theorem node_ne {s : ByteArray} {f i j : Nat} {acc l : List Gl} (h : nodeA s f i acc = (j, .ok l)) : l ≠ [] := by
  induction f generalizing i acc with
  | zero => cases h
  | succ f ih =>
    unfold nodeA at h
    split at h
    · split at h
      · cases h
      · exact ih h
    · split at h
      · cases h
      · cases h; assumption

/-- The plain parts as one state each: a class goes on. -/
theorem class_step {s : ByteArray} {f i j : Nat} {acc : List (UInt8 × UInt8)} {r : UInt8 × UInt8} (hf : s.size < f + i) (hi : i ≤ s.size) (e : itemA s i = (j, some r)) (n : nx s j ≠ 93) :
    ∃ g, s.size < g + j ∧ classA s f i acc = classA s g j (acc ++ [r]) := by
  obtain ⟨h1, h2, _⟩ := item_pos e
  cases f with
  | zero => omega
  | succ f => refine ⟨f, by omega, ?_⟩; rw [classA, e]; simp only; rw [if_neg n]
theorem class_end {s : ByteArray} {f i j : Nat} {acc : List (UInt8 × UInt8)} {r : UInt8 × UInt8} (hf : s.size < f + i) (hi : i ≤ s.size) (e : itemA s i = (j, some r)) (n : nx s j = 93) :
    classA s f i acc = (j + 1, some (acc ++ [r])) := by
  cases f with
  | zero => omega
  | succ f => rw [classA, e]; simp only; rw [if_pos n]
theorem class_bad {s : ByteArray} {f i j : Nat} {acc : List (UInt8 × UInt8)} (hf : s.size < f + i) (hi : i ≤ s.size) (e : itemA s i = (j, none)) : classA s f i acc = (j, none) := by
  cases f with
  | zero => omega
  | succ f => rw [classA, e]
theorem choice_end {s : ByteArray} {f i : Nat} {acc : List ByteArray} (hf : s.size < f + i) (hi : i ≤ s.size) (n : nx s (textE s (s.size + 1) i) = 125) :
    choiceA s f i acc = (textE s (s.size + 1) i + 1, .ok (acc ++ [s.extract i (textE s (s.size + 1) i)])) := by
  cases f with
  | zero => omega
  | succ f => simp only [choiceA, n, if_true]
theorem choice_bad {s : ByteArray} {f i : Nat} {acc : List ByteArray} (hf : s.size < f + i) (hi : i ≤ s.size) (n : nx s (textE s (s.size + 1) i) ≠ 125) (m : nx s (textE s (s.size + 1) i) ≠ 44) :
    choiceA s f i acc = (textE s (s.size + 1) i, .error 31) := by
  cases f with
  | zero => omega
  | succ f => simp only [choiceA, n, m, if_false]
theorem choice_many {s : ByteArray} {f i : Nat} {acc : List ByteArray} (hf : s.size < f + i) (hi : i ≤ s.size) (m : nx s (textE s (s.size + 1) i) = 44) (k : acc.length + 1 = 16) :
    choiceA s f i acc = (textE s (s.size + 1) i, .error 3) := by
  cases f with
  | zero => omega
  | succ f => simp [choiceA, m, k]
theorem choice_step {s : ByteArray} {f i : Nat} {acc : List ByteArray} (hf : s.size < f + i) (hi : i ≤ s.size) (m : nx s (textE s (s.size + 1) i) = 44) (k : acc.length + 1 ≠ 16) :
    textE s (s.size + 1) i < s.size ∧ ∃ g, s.size < g + (textE s (s.size + 1) i + 1) ∧ choiceA s f i acc = choiceA s g (textE s (s.size + 1) i + 1) (acc ++ [s.extract i (textE s (s.size + 1) i)]) := by
  have := textE_ge s (s.size + 1) i
  have l : textE s (s.size + 1) i < s.size := lt_of_nx (by rw [m]; decide)
  cases f with
  | zero => omega
  | succ f => refine ⟨l, f, by omega, ?_⟩; simp [choiceA, m]; omega
theorem node_step {s : ByteArray} {f i j : Nat} {acc : List Gl} {g : Gl} (hf : s.size < f + i) (hi : i < s.size) (n : nx s i ≠ 46) (e : pieceA s i = (j, .ok g)) :
    ∃ f', s.size < f' + j ∧ nodeA s f i acc = nodeA s f' j (acc ++ [g]) := by
  have := piece_gt e
  cases f with
  | zero => omega
  | succ f => refine ⟨f, by omega, ?_⟩; rw [nodeA, if_pos ⟨hi, n⟩, e]
theorem node_bad {s : ByteArray} {f i j : Nat} {acc : List Gl} {c : Int} (hf : s.size < f + i) (hi : i < s.size) (n : nx s i ≠ 46) (e : pieceA s i = (j, .error c)) : nodeA s f i acc = (j, .error c) := by
  cases f with
  | zero => omega
  | succ f => rw [nodeA, if_pos ⟨hi, n⟩, e]
theorem node_stop {s : ByteArray} {f i : Nat} {acc : List Gl} (hf : s.size < f + i) (hi : i ≤ s.size) (n : i < s.size → nx s i = 46) : nodeA s f i acc = if acc = [] then (i, .error 31) else (i, .ok acc) := by
  cases f with
  | zero => omega
  | succ f => rw [nodeA, if_neg (fun h => h.2 (n h.1))]
theorem choice_err {s : ByteArray} {f i j : Nat} {acc : List ByteArray} {c : Int} (h : choiceA s f i acc = (j, .error c)) : c = 31 ∨ c = 3 := by
  induction f generalizing i acc with
  | zero => cases h; exact .inl rfl
  | succ f ih =>
    unfold choiceA at h
    simp only at h
    split at h
    · cases h
    · split at h
      · split at h
        · cases h; exact .inr rfl
        · exact ih h
      · cases h; exact .inl rfl
theorem piece_err {s : ByteArray} {i j : Nat} {c : Int} (h : pieceA s i = (j, .error c)) : c = 31 ∨ c = 3 := by
  unfold pieceA at h
  simp only at h
  split at h
  · cases h
  split at h
  · cases h
  split at h
  · split at h
    · cases h; exact .inl rfl
    · cases h
  split at h
  · split at h
    · rename_i e; cases h; exact choice_err e
    · cases h
  split at h
  · cases h; exact .inl rfl
  · cases h
theorem node_err {s : ByteArray} {f i j : Nat} {acc : List Gl} {c : Int} (h : nodeA s f i acc = (j, .error c)) : c = 31 ∨ c = 3 := by
  induction f generalizing i acc with
  | zero => cases h; exact .inl rfl
  | succ f ih =>
    unfold nodeA at h
    split at h
    · split at h
      · rename_i e; cases h; exact piece_err e
      · exact ih h
    · split at h
      · cases h; exact .inl rfl
      · cases h
theorem pat_bad {s : ByteArray} {f i j : Nat} {acc : List (List Gl)} {c : Int} (hf : s.size < f + i) (hi : i ≤ s.size) (e : nodeA s (s.size + 1) i [] = (j, .error c)) : patA s f i acc = (j, .error c) := by
  cases f with
  | zero => omega
  | succ f => rw [patA, e]
theorem pat_many {s : ByteArray} {f i j : Nat} {acc : List (List Gl)} {l : List Gl} (hf : s.size < f + i) (hi : i ≤ s.size) (e : nodeA s (s.size + 1) i [] = (j, .ok l)) (h : j < s.size) (m : acc.length + 1 = 16) : patA s f i acc = (j, .error 3) := by
  cases f with
  | zero => omega
  | succ f => rw [patA, e]; simp only; rw [if_pos ⟨h, m⟩]
theorem pat_end {s : ByteArray} {f i : Nat} {acc : List (List Gl)} {l : List Gl} (hf : s.size < f + i) (hi : i ≤ s.size) (e : nodeA s (s.size + 1) i [] = (s.size, .ok l)) : patA s f i acc = (0, .ok (acc ++ [l])) := by
  cases f with
  | zero => omega
  | succ f => rw [patA, e]; simp only; simp
theorem pat_step {s : ByteArray} {f i j : Nat} {acc : List (List Gl)} {l : List Gl} (hf : s.size < f + i) (hi : i ≤ s.size) (e : nodeA s (s.size + 1) i [] = (j, .ok l)) (h : j < s.size) (m : acc.length + 1 ≠ 16) :
    ∃ g, s.size < g + (j + 1) ∧ patA s f i acc = patA s g (j + 1) (acc ++ [l]) := by
  have := node_gt e
  cases f with
  | zero => omega
  | succ f => refine ⟨f, by omega, ?_⟩; rw [patA, e]; simp only; rw [if_neg (fun h => m h.2), if_neg (by omega)]
end Go.Proofs.YteahbdhhcfoiiaaDoor
/- Lists that a call makes by append; lists that lie in memory: of texts. -/
namespace Go.Proofs.YteahbdhhcfoiiaaDoor
set_option linter.unusedVariables false
set_option linter.unusedSimpArgs false
open Go.RowKit W
theorem info_txt : (Tryd.prog.info? 9).map (fun i => (i.zero, i.size, i.bytes)) = some (some (.string ByteArray.empty), 1, 16) := by kernel_rfl
/-- A list of texts that was made since the world w. -/
structure OwnT (w wr : World) (v : Value) (ps : List ByteArray) : Prop where
  own : wr.ownsRow w.heap.size 9 1 v ps.length (ps.map Value.string)
  below : Below w.heap.size w wr
  nil : ps = [] → v = .slice none 0 0
theorem OwnT.none_ (w : World) : OwnT w w (.slice none 0 0) [] := ⟨⟨rfl, .inl ⟨rfl, rfl⟩⟩, Below.refl _ _, fun _ => rfl⟩
/-- Texts in a block. -/
structure LieT (w : World) (g o : Nat) (ps : List ByteArray) : Prop where
  cell : ∀ j (h : j < ps.length), w.cell? ⟨g, o + j, none⟩ = some (.string ps[j])
  lt : g < w.heap.size
theorem LieT.later {w w' : World} {g o : Nat} {ps : List ByteArray} (h : LieT w g o ps) (b : Below w.heap.size w w') : LieT w' g o ps :=
  ⟨fun j hj => (b.cell (p := ⟨g, o + j, none⟩) h.lt).trans (h.cell j hj), Nat.lt_of_lt_of_le h.lt b.size⟩
theorem OwnT.got {w wr : World} {v : Value} {ps : List ByteArray} (h : OwnT w wr v ps) (hn : 0 < ps.length) :
    ∃ g cap, v = .slice (some ⟨g, 0, none⟩) ps.length cap ∧ LieT wr g 0 ps ∧ w.heap.size ≤ g := by
  obtain ⟨hl, hx | ⟨g, cap, cur, rfl, hg, hb, hnc, hcm, hs, hxs⟩⟩ := h.own
  · exact absurd hx.2 (by omega)
  · refine ⟨g, cap, rfl, ⟨fun j hj => ?_, (h.own.lt g rfl).2⟩, (h.own.lt g rfl).1⟩
    have := h.own.cellAt j (by simpa using hj)
    rw [Nat.zero_add, this]
    simp [hj]
/-- A slice of texts that came in, nil too. -/
def IsTxts (w : World) (a : Option Addr) (ps : List ByteArray) : Prop := ps = [] ∨ ∃ g o, a = some ⟨g, o, none⟩ ∧ LieT w g o ps
theorem IsTxts.later {w w' : World} {a : Option Addr} {ps : List ByteArray} (h : IsTxts w a ps) (b : Below w.heap.size w w') : IsTxts w' a ps := by
  rcases h with h | ⟨g, o, rfl, h⟩
  · exact .inl h
  · exact .inr ⟨g, o, rfl, h.later b⟩
theorem OwnT.is {w wr : World} {v : Value} {ps : List ByteArray} (h : OwnT w wr v ps) : ∃ a cap, v = .slice a ps.length cap ∧ IsTxts wr a ps := by
  by_cases z : ps = []
  · subst z; exact ⟨none, 0, h.nil rfl, .inl rfl⟩
  · obtain ⟨g, cap, hv, hl, _⟩ := h.got (by cases ps; exact absurd rfl z; simp)
    exact ⟨_, cap, hv, .inr ⟨g, 0, rfl, hl⟩⟩
theorem one_txt {x : ByteArray} : ∀ u ∈ [Value.string x], u.oneCell' = true := by intro u hu; rw [List.mem_singleton] at hu; subst hu; rfl
theorem OwnT.more {w wr w1 : World} {v v' : Value} {ps : List ByteArray} {x : ByteArray} {o : Obj} (h : OwnT w wr v ps)
    (hown : w1.ownsRow w.heap.size 9 1 v' (ps.length + 1) (ps.map Value.string ++ [.string x])) (hg : (wr.alloc o).grownBy w1 v.ownBlock) : OwnT w w1 v' (ps ++ [x]) :=
  ⟨by simpa using hown, (h.below.alloc h.below.size _).grown hg (by have := h.below.size; simp; omega) (fun j hj => (h.own.lt j hj).1), fun e => by simp at e⟩
open Go.ChangeShapes Go.WideShapes in
/-- A slice of texts as it is read. -/
theorem isTxts_of {H : Type} {enc : TypeId × Value → H} {P : Program} {w : World} {base : Nat} {spare : Nat → Bool} {held : Bool} {n : Nat} {t e : TypeId} {v : Value} {y : DataW H × List MemPlace}
    (ht : P.underlying t = some (.slice e)) (he : P.underlying e = some .string) (hc : P.cellsOf e = 1) (h : DataW.trod enc P w base spare held n t [v] = some y) :
    ∃ a c ps, v = .slice a (List.length ps) c ∧ IsTxts w a ps ∧ (ps = [] ∨ ∃ sp, y.1 = .slice (strs ps) sp) := by
  rcases open_strings ht he hc h with ⟨hcs, _⟩ | ⟨x, len, cap, ss, hcs, _, hl, hm, hz, hy, hcell, _⟩
  · simp at hcs
    exact ⟨none, 0, [], hcs, .inl rfl, .inl rfl⟩
  · simp at hcs
    have lz : len ≤ ss.length := by rw [hz]; split <;> omega
    have lt : (ss.take len).length = len := by rw [List.length_take]; omega
    refine ⟨some x, cap, ss.take len, by rw [lt]; exact hcs, ?_, .inr ⟨_, by rw [hy]⟩⟩
    rcases Nat.eq_zero_or_pos len with rfl | hpos
    · exact .inl (by simp)
    · have g0 := hcell 0 (by omega)
      obtain ⟨b, off, spot⟩ := x
      have hspot : spot = none := by simpa [Addr.add] using World.cell?_spot g0
      subst hspot
      refine .inr ⟨b, off, rfl, ⟨fun j hj => ?_, ?_⟩⟩
      · rw [lt] at hj
        have := hcell j (by omega)
        rw [add_plain] at this
        rw [this]
        simp [List.getD_eq_getElem?_getD, List.getElem?_eq_getElem (show j < ss.length by omega)]
      · have := hcell 0 (by omega)
        rw [add_plain] at this
        rcases Nat.lt_or_ge b w.heap.size with hlt | hge
        · exact hlt
        · unfold World.cell? at this; simp [Array.getElem?_eq_none hge] at this
end Go.Proofs.YteahbdhhcfoiiaaDoor
/- Worlds in which only blocks of some types have changed, none below B. -/
namespace Go.Proofs.YteahbdhhcfoiiaaDoor
set_option linter.unusedVariables false
set_option linter.unusedSimpArgs false
open Go.RowKit W
/-- Old blocks that lie below B, or are no cells of a type among T, are as they were. -/
structure Upd (B : Nat) (T : List TypeId) (a b : World) : Prop where
  os : b.os = a.os
  tape : b.tape = a.tape
  output : b.output = a.output
  size : a.heap.size ≤ b.heap.size
  block : ∀ k, k < a.heap.size → (k < B ∨ ∀ cs t fr, a.heap[k]? = some (.cells cs t fr) → t ∉ T) → b.heap[k]? = a.heap[k]?
theorem Upd.refl (B : Nat) (T : List TypeId) (a : World) : Upd B T a a := ⟨rfl, rfl, rfl, Nat.le_refl _, fun _ _ _ => rfl⟩
theorem Upd.trans {B : Nat} {T : List TypeId} {a b c : World} (h : Upd B T a b) (k : Upd B T b c) : Upd B T a c :=
  ⟨k.os.trans h.os, k.tape.trans h.tape, k.output.trans h.output, Nat.le_trans h.size k.size, fun j hj hc => by
    have e := h.block j hj hc
    rw [k.block j (Nat.lt_of_lt_of_le hj h.size) (hc.imp id (fun f cs t fr g => f cs t fr (e ▸ g))), e]⟩
theorem Upd.more {B B' : Nat} {T T' : List TypeId} {a b : World} (h : Upd B T a b) (hB : B' ≤ B) (hT : ∀ t ∈ T, t ∈ T') : Upd B' T' a b :=
  ⟨h.os, h.tape, h.output, h.size, fun k hk hc => h.block k hk (hc.imp (fun q => Nat.lt_of_lt_of_le q hB) (fun f cs t fr g q => f cs t fr g (hT t q)))⟩
theorem Upd.of_below {B : Nat} {T : List TypeId} {a b : World} (h : Below a.heap.size a b) : Upd B T a b := ⟨h.os, h.tape, h.output, h.size, fun k hk _ => h.block k hk⟩
theorem Upd.below {B : Nat} {T : List TypeId} {a b : World} (h : Upd B T a b) (hB : B ≤ a.heap.size) : Below B a b :=
  ⟨h.os, h.tape, h.output, h.size, fun k hk => h.block k (Nat.lt_of_lt_of_le hk hB) (.inl hk)⟩
theorem Upd.alloc {B : Nat} {T : List TypeId} {a b : World} (h : Upd B T a b) (o : Obj) : Upd B T a (b.alloc o) := h.trans (.of_below ((Below.refl _ _).alloc (Nat.le_refl _) o))
theorem Upd.drewN {B : Nat} {T : List TypeId} {a b : World} (h : Upd B T a b) (n : Nat) : Upd B T a (b.drewN n) := h.trans (.of_below (below_drewN (Below.refl _ _) n))
/-- A row is grown. -/
theorem Upd.grown {B : Nat} {T : List TypeId} {a b c : World} {row : Option Nat} (h : Upd B T a b) (g : b.grownBy c row) (hr : ∀ k, row = some k → B ≤ k ∧ ∃ cs t fr, b.heap[k]? = some (.cells cs t fr) ∧ t ∈ T) : Upd B T a c :=
  h.trans ⟨g.os, g.tape, g.output, g.size, fun k hk hc => g.block k hk (fun e => by
    obtain ⟨h1, cs, t, fr, h2, h3⟩ := hr k e.symm
    rcases hc with q | q
    · omega
    · exact q cs t fr h2 h3)⟩
theorem Upd.set {B : Nat} {T : List TypeId} {a b : World} (h : Upd B T a b) {g : Nat} {i : Nat} {cs : Array Value} {t : TypeId} {fr : Nat × Nat} (hg : b.heap[g]? = some (.cells cs t fr)) (hB : B ≤ g) (ht : t ∈ T) (u : Value) : Upd B T a (b.setCell ⟨g, i, none⟩ u) :=
  h.trans ⟨rfl, rfl, rfl, by simp, fun k hk hc => by
    by_cases e : k = g
    · subst e
      rcases hc with q | q
      · omega
      · exact absurd ht (q _ _ _ hg)
    · exact Below.heap_setCell b ⟨g, i, none⟩ u k e⟩
/-- A row of another type stays. -/
theorem Upd.row {B base size n : Nat} {T : List TypeId} {a b : World} {e : TypeId} {v : Value} {xs : List Value} (h : Upd B T a b) (ho : a.ownsRow base e size v n xs) (he : e ∉ T) : b.ownsRow base e size v n xs := by
  refine ⟨ho.1, ho.2.imp id ?_⟩
  rintro ⟨g, cap, cur, hv, hb, hh, r⟩
  refine ⟨g, cap, cur, hv, hb, ?_, r⟩
  have lt : g < a.heap.size := by
    rcases Nat.lt_or_ge g a.heap.size with q | q
    · exact q
    · rw [Array.getElem?_eq_none q] at hh; cases hh
  rw [h.block g lt (.inr fun cs t fr q => by rw [hh] at q; injection q with q; injection q with _ q; rw [← q]; exact he)]
  exact hh
/-- A block of another type stays. -/
theorem Upd.blk {B g : Nat} {T : List TypeId} {a b : World} {t : TypeId} {cs : Array Value} {fr : Nat × Nat} (h : Upd B T a b) (hg : a.heap[g]? = some (.cells cs t fr)) (ht : t ∉ T) : b.heap[g]? = some (.cells cs t fr) := by
  have lt : g < a.heap.size := by
    rcases Nat.lt_or_ge g a.heap.size with q | q
    · exact q
    · rw [Array.getElem?_eq_none q] at hg; cases hg
  rw [h.block g lt (.inr fun cs' t' fr' q => by rw [hg] at q; injection q with q; injection q with _ q; rw [← q]; exact ht)]
  exact hg
theorem blk_lt {a : World} {g : Nat} {o : Obj} (hg : a.heap[g]? = some o) : g < a.heap.size := by
  rcases Nat.lt_or_ge g a.heap.size with q | q
  · exact q
  · rw [Array.getElem?_eq_none q] at hg; cases hg
/-- What an owned row's block is. -/
theorem own_blk {w : World} {base size n k : Nat} {e : TypeId} {v : Value} {xs : List Value} (ho : w.ownsRow base e size v n xs) (hk : v.ownBlock = some k) : base ≤ k ∧ ∃ cs, w.heap[k]? = some (.cells cs e (0, 0)) := by
  rcases ho.2 with ⟨rfl, _⟩ | ⟨g, cap, cur, rfl, hb, hh, _⟩
  · simp [Value.ownBlock] at hk
  · simp [Value.ownBlock] at hk
    subst hk
    exact ⟨hb, cur, hh⟩
theorem own_form {w : World} {base size n : Nat} {e : TypeId} {v : Value} {xs : List Value} (ho : w.ownsRow base e size v n xs) : ∃ A c, v = .slice A n c ∧ n ≤ c ∧ (A = none → n = 0 ∧ c = 0) := by
  rcases ho.2 with ⟨rfl, rfl⟩ | ⟨g, cap, cur, rfl, hb, hh, hn, _⟩
  · exact ⟨none, 0, rfl, Nat.le_refl _, fun _ => ⟨rfl, rfl⟩⟩
  · exact ⟨_, cap, rfl, hn, fun q => by cases q⟩
end Go.Proofs.YteahbdhhcfoiiaaDoor
/- name: patterns as they lie in memory. -/
namespace Go.Proofs.YteahbdhhcfoiiaaDoor
set_option linter.unusedVariables false
set_option linter.unusedSimpArgs false
open Go.RowKit W
theorem Upd.grown_new {B : Nat} {T : List TypeId} {a b c : World} {row : Option Nat} (h : Upd B T a b) (g : b.grownBy c row) (hr : ∀ k, row = some k → a.heap.size ≤ k) : Upd B T a c :=
  ⟨g.os.trans h.os, g.tape.trans h.tape, g.output.trans h.output, Nat.le_trans h.size g.size, fun k hk hc => by
    refine (g.block k (Nat.lt_of_lt_of_le hk h.size) fun e => ?_).trans (h.block k hk hc)
    have := hr k e.symm
    omega⟩
/-- What one append does: only the row's block. -/
theorem Upd.of_grown {base size n : Nat} {b c : World} {e : TypeId} {v : Value} {xs : List Value} (ho : b.ownsRow base e size v n xs) (g : b.grownBy c v.ownBlock) : Upd base [e] b c :=
  (Upd.refl _ _ _).grown g fun k hk => by
    obtain ⟨h1, cs, h2⟩ := own_blk ho hk
    exact ⟨h1, cs, e, (0, 0), h2, List.mem_singleton.2 rfl⟩
/-- Texts in a block of their own kind, none below B. -/
def TyT (B : Nat) (w : World) (a : Option Addr) (ps : List ByteArray) : Prop :=
  ps = [] ∨ ∃ g o cs fr, a = some ⟨g, o, none⟩ ∧ B ≤ g ∧ w.heap[g]? = some (.cells cs 9 fr) ∧ ∀ j (h : j < ps.length), cs[o + j]? = some (.string ps[j])
theorem TyT.upd {B C : Nat} {T : List TypeId} {w w' : World} {a : Option Addr} {ps : List ByteArray} (h : TyT B w a ps) (u : Upd C T w w') (ht : 9 ∉ T) : TyT B w' a ps := by
  rcases h with h | ⟨g, o, cs, fr, rfl, hb, hh, hc⟩
  · exact .inl h
  · exact .inr ⟨g, o, cs, fr, rfl, hb, u.blk hh ht, hc⟩
theorem TyT.later {B : Nat} {w w' : World} {a : Option Addr} {ps : List ByteArray} (h : TyT B w a ps) (u : Below w.heap.size w w') : TyT B w' a ps := h.upd (Upd.of_below (B := 0) (T := []) u) (by simp)
theorem TyT.less {B C : Nat} {w : World} {a : Option Addr} {ps : List ByteArray} (h : TyT B w a ps) (hC : C ≤ B) : TyT C w a ps := by
  rcases h with h | ⟨g, o, cs, fr, rfl, hb, r⟩
  · exact .inl h
  · exact .inr ⟨g, o, cs, fr, rfl, by omega, r⟩
theorem TyT.is {B : Nat} {w : World} {a : Option Addr} {ps : List ByteArray} (h : TyT B w a ps) : IsTxts w a ps := by
  rcases h with h | ⟨g, o, cs, fr, rfl, hb, hh, hc⟩
  · exact .inl h
  · exact .inr ⟨g, o, rfl, ⟨fun j hj => (cell_of_row w g (o + j) cs _ fr hh).trans (hc j hj), blk_lt hh⟩⟩
/-- A list of texts of one's own, done. -/
theorem tyT_of_own {B n : Nat} {w : World} {v : Value} {ps : List ByteArray} (h : w.ownsRow B 9 1 v n (ps.map Value.string)) (hn : ps.length = n) : ∃ a c, v = .slice a n c ∧ TyT B w a ps ∧ n ≤ c := by
  obtain ⟨hl, ⟨rfl, rfl⟩ | ⟨g, cap, cur, rfl, hb, hh, hnc, hcm, hs, ht⟩⟩ := h
  · exact ⟨none, 0, rfl, .inl (List.length_eq_zero_iff.1 hn), Nat.le_refl _⟩
  · refine ⟨_, _, rfl, .inr ⟨g, 0, cur, (0, 0), rfl, hb, hh, fun j hj => ?_⟩, hnc⟩
    have : (ps.map Value.string)[j]? = some (.string ps[j]) := by rw [List.getElem?_map, List.getElem?_eq_getElem hj]; rfl
    rw [← ht, List.getElem?_take] at this
    split at this
    · rw [Nat.zero_add]; simpa using this
    · cases this
/-- Pieces, by the cells that f gives. -/
def GCells (B : Nat) (w : World) (f : Nat → Option Value) (gs : List Gl) : Prop :=
  ∀ j (h : j < gs.length), f (j * 3) = some (.int .i64 gs[j].k) ∧ f (j * 3 + 1) = some (.string gs[j].t) ∧ ∃ b c, f (j * 3 + 2) = some (.slice b gs[j].al.length c) ∧ TyT B w b gs[j].al ∧ gs[j].al.length ≤ c
theorem GCells.upd {B C : Nat} {T : List TypeId} {w w' : World} {f : Nat → Option Value} {gs : List Gl} (h : GCells B w f gs) (u : Upd C T w w') (ht : 9 ∉ T) : GCells B w' f gs := fun j hj => by
  obtain ⟨h1, h2, b, c, h3, h4, h5⟩ := h j hj
  exact ⟨h1, h2, b, c, h3, h4.upd u ht, h5⟩
def TyG (B : Nat) (w : World) (a : Option Addr) (gs : List Gl) : Prop :=
  gs = [] ∨ ∃ g o cs fr, a = some ⟨g, o, none⟩ ∧ B ≤ g ∧ w.heap[g]? = some (.cells cs 66 fr) ∧ GCells B w (fun i => cs[o + i]?) gs
theorem TyG.upd {B C : Nat} {T : List TypeId} {w w' : World} {a : Option Addr} {gs : List Gl} (h : TyG B w a gs) (u : Upd C T w w') (ht : 9 ∉ T) (hg : 66 ∉ T) : TyG B w' a gs := by
  rcases h with h | ⟨g, o, cs, fr, rfl, hb, hh, hc⟩
  · exact .inl h
  · exact .inr ⟨g, o, cs, fr, rfl, hb, u.blk hh hg, hc.upd u ht⟩
theorem TyG.later {B : Nat} {w w' : World} {a : Option Addr} {gs : List Gl} (h : TyG B w a gs) (u : Below w.heap.size w w') : TyG B w' a gs := h.upd (Upd.of_below (B := 0) (T := []) u) (by simp) (by simp)
/-- A node that is being made. -/
structure OwnG (B : Nat) (w : World) (v : Value) (gs : List Gl) : Prop where
  own : ∃ xs, w.ownsRow B 66 3 v gs.length xs ∧ GCells B w (fun i => xs[i]?) gs
theorem OwnG.none_ (B : Nat) (w : World) : OwnG B w (.slice none 0 0) [] := ⟨[], World.ownsRow_nil _ _ _ _, fun j h => absurd h (by simp)⟩
theorem OwnG.upd {B C : Nat} {T : List TypeId} {w w' : World} {v : Value} {gs : List Gl} (h : OwnG B w v gs) (u : Upd C T w w') (ht : 9 ∉ T) (hg : 66 ∉ T) : OwnG B w' v gs := by
  obtain ⟨xs, h1, h2⟩ := h.own
  exact ⟨xs, u.row h1 hg, h2.upd u ht⟩
theorem OwnG.later {B : Nat} {w w' : World} {v : Value} {gs : List Gl} (h : OwnG B w v gs) (u : Below w.heap.size w w') : OwnG B w' v gs := h.upd (Upd.of_below (B := 0) (T := []) u) (by simp) (by simp)
theorem OwnG.done {B : Nat} {w : World} {v : Value} {gs : List Gl} (h : OwnG B w v gs) : ∃ a c, v = .slice a gs.length c ∧ TyG B w a gs ∧ gs.length ≤ c := by
  obtain ⟨xs, ⟨hl, ⟨rfl, hn⟩ | ⟨g, cap, cur, rfl, hb, hh, hnc, hcm, hs, ht⟩⟩, hc⟩ := h.own
  · exact ⟨none, 0, by rw [hn], .inl (List.length_eq_zero_iff.1 hn), by omega⟩
  · refine ⟨_, _, rfl, .inr ⟨g, 0, cur, (0, 0), rfl, hb, hh, fun j hj => ?_⟩, hnc⟩
    have aux : ∀ (i : Nat) (u : Value), xs[i]? = some u → cur[0 + i]? = some u := by
      intro i u hu
      rw [← ht, List.getElem?_take] at hu
      split at hu
      · rw [Nat.zero_add]; simpa using hu
      · cases hu
    obtain ⟨h1, h2, b, c, h3, h4, h5⟩ := hc j hj
    exact ⟨aux _ _ h1, aux _ _ h2, b, c, aux _ _ h3, h4, h5⟩
/-- A piece as a value. -/
def GVal (B : Nat) (w : World) (v : Value) (g : Gl) : Prop := ∃ b c, v = .agg #[.int .i64 g.k, .string g.t, .slice b g.al.length c] ∧ TyT B w b g.al ∧ g.al.length ≤ c
theorem OwnG.more {B : Nat} {w w' : World} {v v' : Value} {gs : List Gl} {g : Gl} {b : Option Addr} {c : Nat} {xs : List Value} (hc : GCells B w (fun i => xs[i]?) gs) (hl : xs.length = gs.length * 3) (u : Upd B [66] w w') (tb : TyT B w b g.al) (tc : g.al.length ≤ c)
    (hown : w'.ownsRow B 66 3 v' (gs.length + 1) (xs ++ [.int .i64 g.k, .string g.t, .slice b g.al.length c])) : OwnG B w' v' (gs ++ [g]) := by
  refine ⟨_, by simpa using hown, fun j hj => ?_⟩
  have ht : 9 ∉ [66] := by decide
  by_cases e : j < gs.length
  · obtain ⟨h1, h2, p, q, h3, h4, h5⟩ := hc j e
    simp only [List.getElem_append_left e]
    exact ⟨by rw [List.getElem?_append_left (by omega)]; exact h1, by rw [List.getElem?_append_left (by omega)]; exact h2, p, q, by rw [List.getElem?_append_left (by omega)]; exact h3, h4.upd u ht, h5⟩
  · obtain rfl : j = gs.length := by simp at hj; omega
    have e1 : (gs ++ [g])[gs.length] = g := by simp
    simp only [e1]
    exact ⟨by rw [List.getElem?_append_right (by omega), hl, Nat.sub_self]; rfl, by rw [List.getElem?_append_right (by omega), hl, Nat.add_sub_cancel_left]; rfl, b, c, by rw [List.getElem?_append_right (by omega), hl, Nat.add_sub_cancel_left]; rfl, tb.upd u ht, tc⟩
/-- Nodes, by the cells that f gives. -/
def NCells (B : Nat) (w : World) (f : Nat → Option Value) (p : List (List Gl)) : Prop :=
  ∀ j (h : j < p.length), ∃ b c, f j = some (.slice b p[j].length c) ∧ TyG B w b p[j] ∧ p[j].length ≤ c
theorem NCells.upd {B C : Nat} {T : List TypeId} {w w' : World} {f : Nat → Option Value} {p : List (List Gl)} (h : NCells B w f p) (u : Upd C T w w') (ht : 9 ∉ T) (hg : 66 ∉ T) : NCells B w' f p := fun j hj => by
  obtain ⟨b, c, h3, h4, h5⟩ := h j hj
  exact ⟨b, c, h3, h4.upd u ht hg, h5⟩
def TyN (B : Nat) (w : World) (a : Option Addr) (p : List (List Gl)) : Prop :=
  p = [] ∨ ∃ g o cs fr, a = some ⟨g, o, none⟩ ∧ B ≤ g ∧ w.heap[g]? = some (.cells cs 61 fr) ∧ NCells B w (fun i => cs[o + i]?) p
theorem TyN.upd {B C : Nat} {T : List TypeId} {w w' : World} {a : Option Addr} {p : List (List Gl)} (h : TyN B w a p) (u : Upd C T w w') (ht : 9 ∉ T) (hg : 66 ∉ T) (hn : 61 ∉ T) : TyN B w' a p := by
  rcases h with h | ⟨g, o, cs, fr, rfl, hb, hh, hc⟩
  · exact .inl h
  · exact .inr ⟨g, o, cs, fr, rfl, hb, u.blk hh hn, hc.upd u ht hg⟩
theorem TyN.later {B : Nat} {w w' : World} {a : Option Addr} {p : List (List Gl)} (h : TyN B w a p) (u : Below w.heap.size w w') : TyN B w' a p := h.upd (Upd.of_below (B := 0) (T := []) u) (by simp) (by simp) (by simp)
/-- A pattern that is being made. -/
structure OwnN (B : Nat) (w : World) (v : Value) (p : List (List Gl)) : Prop where
  own : ∃ xs, w.ownsRow B 61 1 v p.length xs ∧ NCells B w (fun i => xs[i]?) p
theorem OwnN.none_ (B : Nat) (w : World) : OwnN B w (.slice none 0 0) [] := ⟨[], World.ownsRow_nil _ _ _ _, fun j h => absurd h (by simp)⟩
theorem OwnN.upd {B C : Nat} {T : List TypeId} {w w' : World} {v : Value} {p : List (List Gl)} (h : OwnN B w v p) (u : Upd C T w w') (ht : 9 ∉ T) (hg : 66 ∉ T) (hn : 61 ∉ T) : OwnN B w' v p := by
  obtain ⟨xs, h1, h2⟩ := h.own
  exact ⟨xs, u.row h1 hn, h2.upd u ht hg⟩
theorem OwnN.later {B : Nat} {w w' : World} {v : Value} {p : List (List Gl)} (h : OwnN B w v p) (u : Below w.heap.size w w') : OwnN B w' v p := h.upd (Upd.of_below (B := 0) (T := []) u) (by simp) (by simp) (by simp)
theorem OwnN.done {B : Nat} {w : World} {v : Value} {p : List (List Gl)} (h : OwnN B w v p) : ∃ a c, v = .slice a p.length c ∧ TyN B w a p ∧ p.length ≤ c := by
  obtain ⟨xs, ⟨hl, ⟨rfl, hn⟩ | ⟨g, cap, cur, rfl, hb, hh, hnc, hcm, hs, ht⟩⟩, hc⟩ := h.own
  · exact ⟨none, 0, by rw [hn], .inl (List.length_eq_zero_iff.1 hn), by omega⟩
  · refine ⟨_, _, rfl, .inr ⟨g, 0, cur, (0, 0), rfl, hb, hh, fun j hj => ?_⟩, hnc⟩
    obtain ⟨b, c, h3, h4, h5⟩ := hc j hj
    refine ⟨b, c, ?_, h4, h5⟩
    simp only at h3
    rw [← ht, List.getElem?_take] at h3
    split at h3
    · show cur[0 + j]? = _; rw [Nat.zero_add]; simpa using h3
    · cases h3
theorem OwnN.more {B : Nat} {w w' : World} {v' : Value} {p : List (List Gl)} {l : List Gl} {b : Option Addr} {c : Nat} {xs : List Value} (hc : NCells B w (fun i => xs[i]?) p) (hl : xs.length = p.length) (u : Upd B [61] w w') (tb : TyG B w b l) (tc : l.length ≤ c)
    (hown : w'.ownsRow B 61 1 v' (p.length + 1) (xs ++ [.slice b l.length c])) : OwnN B w' v' (p ++ [l]) := by
  refine ⟨_, by simpa using hown, fun j hj => ?_⟩
  have ht : 9 ∉ [61] := by decide
  have hg : 66 ∉ [61] := by decide
  by_cases e : j < p.length
  · obtain ⟨q, z, h3, h4, h5⟩ := hc j e
    simp only [List.getElem_append_left e]
    exact ⟨q, z, by rw [List.getElem?_append_left (by omega)]; exact h3, h4.upd u ht hg, h5⟩
  · obtain rfl : j = p.length := by simp at hj; omega
    have e1 : (p ++ [l])[p.length] = l := by simp
    simp only [e1]
    exact ⟨b, c, by rw [List.getElem?_append_right (by omega), hl, Nat.sub_self]; rfl, tb.upd u ht hg, tc⟩
end Go.Proofs.YteahbdhhcfoiiaaDoor
/- name: patterns as they are read. -/
namespace Go.Proofs.YteahbdhhcfoiiaaDoor
set_option linter.unusedVariables false
set_option linter.unusedSimpArgs false
open Go.RowKit W
/-- Pieces in a block. -/
structure LieG (w : World) (g o : Nat) (gs : List Gl) : Prop where
  cell : ∀ j (h : j < gs.length), w.cell? ⟨g, o + j * 3, none⟩ = some (.int .i64 gs[j].k) ∧ w.cell? ⟨g, o + j * 3 + 1, none⟩ = some (.string gs[j].t) ∧ ∃ b c, w.cell? ⟨g, o + j * 3 + 2, none⟩ = some (.slice b gs[j].al.length c) ∧ IsTxts w b gs[j].al ∧ gs[j].al.length ≤ c
  lt : g < w.heap.size
theorem LieG.later {w w' : World} {g o : Nat} {gs : List Gl} (h : LieG w g o gs) (u : Below w.heap.size w w') : LieG w' g o gs :=
  ⟨fun j hj => by
    obtain ⟨h1, h2, b, c, h3, h4, h5⟩ := h.cell j hj
    exact ⟨(u.cell (p := ⟨g, o + j * 3, none⟩) h.lt).trans h1, (u.cell (p := ⟨g, o + j * 3 + 1, none⟩) h.lt).trans h2, b, c, (u.cell (p := ⟨g, o + j * 3 + 2, none⟩) h.lt).trans h3, h4.later u, h5⟩, Nat.lt_of_lt_of_le h.lt u.size⟩
def IsGs (w : World) (a : Option Addr) (gs : List Gl) : Prop := gs = [] ∨ ∃ g o, a = some ⟨g, o, none⟩ ∧ LieG w g o gs
theorem IsGs.later {w w' : World} {a : Option Addr} {gs : List Gl} (h : IsGs w a gs) (u : Below w.heap.size w w') : IsGs w' a gs := by
  rcases h with h | ⟨g, o, rfl, h⟩
  · exact .inl h
  · exact .inr ⟨g, o, rfl, h.later u⟩
/-- Nodes in a block. -/
structure LieN (w : World) (g o : Nat) (p : List (List Gl)) : Prop where
  cell : ∀ j (h : j < p.length), ∃ b c, w.cell? ⟨g, o + j, none⟩ = some (.slice b p[j].length c) ∧ IsGs w b p[j] ∧ p[j].length ≤ c
  lt : g < w.heap.size
theorem LieN.later {w w' : World} {g o : Nat} {p : List (List Gl)} (h : LieN w g o p) (u : Below w.heap.size w w') : LieN w' g o p :=
  ⟨fun j hj => by
    obtain ⟨b, c, h3, h4, h5⟩ := h.cell j hj
    exact ⟨b, c, (u.cell (p := ⟨g, o + j, none⟩) h.lt).trans h3, h4.later u, h5⟩, Nat.lt_of_lt_of_le h.lt u.size⟩
def IsPt (w : World) (a : Option Addr) (p : List (List Gl)) : Prop := p = [] ∨ ∃ g o, a = some ⟨g, o, none⟩ ∧ LieN w g o p
theorem IsPt.later {w w' : World} {a : Option Addr} {p : List (List Gl)} (h : IsPt w a p) (u : Below w.heap.size w w') : IsPt w' a p := by
  rcases h with h | ⟨g, o, rfl, h⟩
  · exact .inl h
  · exact .inr ⟨g, o, rfl, h.later u⟩
theorem TyG.is {B : Nat} {w : World} {a : Option Addr} {gs : List Gl} (h : TyG B w a gs) : IsGs w a gs := by
  rcases h with h | ⟨g, o, cs, fr, rfl, hb, hh, hc⟩
  · exact .inl h
  · refine .inr ⟨g, o, rfl, fun j hj => ?_, blk_lt hh⟩
    obtain ⟨h1, h2, b, c, h3, h4, h5⟩ := hc j hj
    exact ⟨(cell_of_row w g (o + j * 3) cs _ fr hh).trans h1, (cell_of_row w g (o + j * 3 + 1) cs _ fr hh).trans h2, b, c, (cell_of_row w g (o + j * 3 + 2) cs _ fr hh).trans h3, h4.is, h5⟩
theorem TyN.is {B : Nat} {w : World} {a : Option Addr} {p : List (List Gl)} (h : TyN B w a p) : IsPt w a p := by
  rcases h with h | ⟨g, o, cs, fr, rfl, hb, hh, hc⟩
  · exact .inl h
  · refine .inr ⟨g, o, rfl, fun j hj => ?_, blk_lt hh⟩
    obtain ⟨b, c, h3, h4, h5⟩ := hc j hj
    exact ⟨b, c, (cell_of_row w g (o + j) cs _ fr hh).trans h3, h4.is, h5⟩
end Go.Proofs.YteahbdhhcfoiiaaDoor
/- name: the reader: next, text. -/
namespace Go.Proofs.YteahbdhhcfoiiaaDoor
set_option linter.unusedVariables false
set_option linter.unusedSimpArgs false
open Go.RowKit W
/-- A reader that stands at a place of its text. -/
structure Rd (w : World) (rb : Nat) (s : ByteArray) (i : Nat) : Prop where
  blk : w.heap[rb]? = some (.cells #[.string s, .int .i64 i] 60 (0, 0))
  le : i ≤ s.size
theorem Rd.c0 {w : World} {rb i : Nat} {s : ByteArray} (h : Rd w rb s i) : w.cell? ⟨rb, 0, none⟩ = some (.string s) := by simp [World.cell?, h.blk]
theorem Rd.c1 {w : World} {rb i : Nat} {s : ByteArray} (h : Rd w rb s i) : w.cell? ⟨rb, 1, none⟩ = some (.int .i64 i) := by simp [World.cell?, h.blk]
theorem Rd.f1 {w : World} {rb i : Nat} {s : ByteArray} (h : Rd w rb s i) : w.frozen? ⟨rb, 1, none⟩ = false := by simp [World.frozen?, h.blk]
theorem Rd.lt {w : World} {rb i : Nat} {s : ByteArray} (h : Rd w rb s i) : rb < w.heap.size := blk_lt h.blk
theorem Rd.drewN {w : World} {rb i : Nat} {s : ByteArray} (h : Rd w rb s i) (n : Nat) : Rd (w.drewN n) rb s i := ⟨h.blk, h.le⟩
theorem Rd.later {w w' : World} {rb i : Nat} {s : ByteArray} (h : Rd w rb s i) (b : Below w.heap.size w w') : Rd w' rb s i := ⟨(b.block rb h.lt).trans h.blk, h.le⟩
theorem Rd.upd {B : Nat} {T : List TypeId} {w w' : World} {rb i : Nat} {s : ByteArray} (h : Rd w rb s i) (b : Upd B T w w') (ht : 60 ∉ T) : Rd w' rb s i := ⟨b.blk h.blk ht, h.le⟩
theorem Rd.put {w : World} {rb i : Nat} {s : ByteArray} (h : Rd w rb s i) (j : Nat) (hj : j ≤ s.size) {x : Int} (hx : x = (j : Int)) : Rd (w.setCell ⟨rb, 1, none⟩ (.int .i64 x)) rb s j := by
  subst hx
  refine ⟨?_, hj⟩
  simp [World.setCell, Array.getElem?_modify, h.blk]
theorem Rd.chg {w : World} {rb i : Nat} {s : ByteArray} (h : Rd w rb s i) (u : Value) : Upd rb [60] w (w.setCell ⟨rb, 1, none⟩ u) :=
  (Upd.refl _ _ _).set h.blk (Nat.le_refl _) (by simp) u
/-- The reader has gone on; else nothing that was there has changed. -/
structure Go1 (w w' : World) (rb : Nat) (s : ByteArray) (j : Nat) : Prop where
  rd : Rd w' rb s j
  upd : Upd rb [60] w w'
theorem Go1.trans {a b c : World} {rb i j : Nat} {s : ByteArray} (h : Go1 a b rb s i) (k : Go1 b c rb s j) : Go1 a c rb s j := ⟨k.rd, h.upd.trans k.upd⟩
theorem Go1.later {a b c : World} {rb i : Nat} {s : ByteArray} (h : Go1 a b rb s i) (k : Below b.heap.size b c) : Go1 a c rb s i := ⟨h.rd.later k, h.upd.trans (.of_below k)⟩
theorem Go1.put {a b : World} {rb i : Nat} {s : ByteArray} (h : Go1 a b rb s i) (j : Nat) (hj : j ≤ s.size) {x : Int} (hx : x = (j : Int)) : Go1 a (b.setCell ⟨rb, 1, none⟩ (.int .i64 x)) rb s j := ⟨h.rd.put j hj hx, h.upd.trans (h.rd.chg _)⟩
theorem Go1.refl {w : World} {rb i : Nat} {s : ByteArray} (h : Rd w rb s i) : Go1 w w rb s i := ⟨h, .refl _ _ _⟩
theorem Go1.drewN {a b : World} {rb i : Nat} {s : ByteArray} (h : Go1 a b rb s i) (n : Nat) : Go1 a (b.drewN n) rb s i := h.later (below_drewN (Below.refl _ _) n)
theorem nx_int (s : ByteArray) (i : Nat) : 0 ≤ ((nx s i).toNat : Int) ∧ ((nx s i).toNat : Int) < 256 := by have := (nx s i).toNat_lt; omega
set_option maxRecDepth 100000 in
set_option maxHeartbeats 4000000 in
theorem next_spec {w : World} {rb i : Nat} {s : ByteArray} (h : Rd w rb s i) (hs : s.size ≤ 400) : Calls Tryd.prog 60 #[.pointer (some ⟨rb, 0, none⟩)] w fun e w' => e = .returned (.int .u8 (nx s i).toNat) ∧ ∃ n, w' = w.drewN n := by
  have c0 := h.c0
  have c1 := h.c1
  have le := h.le
  clear h
  by_cases hlt : i < s.size
  · have e : (nx s i).toNat = s[i].toNat := by rw [nx_lt hlt]
    have ne : ((i : Int) == (s.size : Int)) = false := by rw [beq_eq_false_iff_ne]; omega
    rw [e]
    clear e
    go_enter Tryd.func60, Tryd.ntmps60
    go_wp2_with fail
    go_quiet (fail)
    go_wp2_with fail
    go_quiet (fail)
    go_wp2_with fail
    go_returns
    exact ⟨rfl, _, World.drewN_drewN ..⟩
  · obtain rfl : i = s.size := by omega
    rw [nx_ge (Nat.le_refl _)]
    go_enter Tryd.func60, Tryd.ntmps60
    go_wp2_with fail
    go_quiet (fail)
    go_wp2_with fail
    go_returns
    exact ⟨rfl, _, rfl⟩
theorem next_at {w : World} {rb i : Nat} {s : ByteArray} (h : Rd w rb s i) (hs : s.size ≤ 400) (x : Int) (hx : ((nx s i).toNat : Int) = x) : Calls Tryd.prog 60 #[.pointer (some ⟨rb, 0, none⟩)] w fun e w' => e = .returned (.int .u8 x) ∧ ∃ n, w' = w.drewN n := by
  rw [← hx]; exact next_spec h hs
/-- A call's world under a name. -/
theorem abs_calls {P : Program} {f : Nat} {args : Array Value} {Q : Ending → World → Prop} {w : World} (F : World → Prop) (hF : F w) (h : ∀ W, F W → Calls P f args W Q) : Calls P f args w Q := h w hF
theorem nbyte_at (s : ByteArray) (j : Nat) (t : Bool) (ht : nB (nx s j) = t) (w : World) : CalcN 35 #[.int .u8 (nx s j).toNat] w (.bool t) := by
  have := nbyte_spec ((nx s j).toNat : Int) (nx_int s j).1 (nx_int s j).2 w
  rw [← ht]; exact this
theorem class_at (s : ByteArray) (j : Nat) (t : Bool) (ht : cB (nx s j) = t) (w : World) : CalcN 51 #[.int .u8 (nx s j).toNat] w (.bool t) := by
  have := class_spec ((nx s j).toNat : Int) (nx_int s j).1 (nx_int s j).2 w
  rw [← ht]; exact this
theorem family_at (s : ByteArray) (j : Nat) (t : Int) (ht : fB (nx s j) = t) (w : World) : CalcN 71 #[.int .u8 (nx s j).toNat] w (.int .u8 t) := by
  have := family_spec ((nx s j).toNat : Int) (nx_int s j).1 (nx_int s j).2 w
  rw [← ht]; exact this
set_option maxRecDepth 100000 in
set_option maxHeartbeats 4000000 in
theorem text_spec {w : World} {rb i : Nat} {s : ByteArray} (h : Rd w rb s i) (hs : s.size ≤ 400) : Calls Tryd.prog 80 #[.pointer (some ⟨rb, 0, none⟩)] w fun e w' =>
    e = .returned (.string (s.extract i (textE s (s.size + 1) i))) ∧ Go1 w w' rb s (textE s (s.size + 1) i) := by
  obtain ⟨E, hE⟩ : ∃ E, textE s (s.size + 1) i = E := ⟨_, rfl⟩
  rw [hE]
  have HE := hide hE
  clear hE
  have HS := hide hs
  have H := hide h
  have c1 := h.c1
  have le := h.le
  clear h
  go_enter Tryd.func80, Tryd.ntmps80
  go_wp2_with fail
  go_loopg [] (s.size - i) (fun k wr => ∃ j, j + k = s.size ∧ i ≤ j ∧ Go1 w wr rb s j ∧ Hid (textE s (s.size + 1) j = E))
  case atStart => exact ⟨i, by omega, Nat.le_refl _, Go1.refl H.out, HE⟩
  case round =>
    obtain ⟨j, hj, hij, g, D⟩ := hrel
    have G := hide g
    have kn := next_spec g.rd hs
    have c0 := g.rd.c0
    have c1 := g.rd.c1
    have f1 := g.rd.f1
    have jl := g.rd.le
    clear g H HE
    cases hb : nB (nx s j)
    · have kb := nbyte_at s j false hb
      have F : Hid (j = E) := by have := D.out; rw [textE_stop hb] at this; exact this
      clear D hb
      go_wp2_with fail
      refine kn.mono ?_
      rintro e w1 ⟨rfl, n, rfl⟩
      go_wp2_with fail
      refine (kb _).mono ?_
      rintro e w1 ⟨rfl, rfl⟩
      go_wp2_with fail
      go_quiet (fail)
      go_wp2_with fail
      go_returns
      exact ⟨by rw [← F.out]; rfl, by rw [← F.out]; exact (G.out.drewN _).drewN _⟩
    · have kb := nbyte_at s j true hb
      have lt := nB_lt hb
      have F : Hid (textE s (s.size + 1) (j + 1) = E) := by have := D.out; rw [← textE_step (by omega) hb] at this; exact this
      clear D hb
      go_wp2_with fail
      refine kn.mono ?_
      rintro e w1 ⟨rfl, n, rfl⟩
      go_wp2_with fail
      refine (kb _).mono ?_
      rintro e w1 ⟨rfl, rfl⟩
      go_wp2_with fail
      go_roundg (gk - 1)
      case measure => omega
      case rel => exact ⟨j + 1, by omega, by omega, (G.out.drewN _).put (j + 1) lt (by omega), F⟩
def itemV : Option (UInt8 × UInt8) → Value
  | some (a, b) => .tuple #[.int .u8 (a.toNat : Int), .int .u8 (b.toNat : Int), .int .i64 0]
  | none => .tuple #[.int .u8 0, .int .u8 0, .int .i64 31]
def ItemPost (w : World) (rb i : Nat) (s : ByteArray) (e : Ending) (w' : World) : Prop := e = .returned (itemV (itemA s i).2) ∧ Go1 w w' rb s (itemA s i).1
set_option maxRecDepth 100000 in
set_option maxHeartbeats 4000000 in
theorem item_spec {w : World} {rb i : Nat} {s : ByteArray} (h : Rd w rb s i) (hs : s.size ≤ 400) : Calls Tryd.prog 104 #[.pointer (some ⟨rb, 0, none⟩)] w (ItemPost w rb i s) := by
  have HS := hide hs
  have H := hide h
  have lei := h.le
  have kn := next_spec h hs
  clear h
  cases hb : cB (nx s i)
  · have kb := class_at s i false hb
    have F : Hid (itemA s i = (i, none)) := by show _ = _; unfold itemA; simp only; rw [hb]; rfl
    clear hb
    go_enter Tryd.func104, Tryd.ntmps104
    go_wp2_with fail
    refine kn.mono ?_
    rintro e w1 ⟨rfl, n, rfl⟩
    go_wp2_with fail
    refine (kb _).mono ?_
    rintro e w1 ⟨rfl, rfl⟩
    go_wp2_with fail
    go_returns
    exact ⟨by rw [F.out]; rfl, by rw [F.out]; exact (Go1.refl H.out).drewN _⟩
  · have kb := class_at s i true hb
    have lt := cB_lt hb
    have c1 := H.out.c1
    have f1 := H.out.f1
    obtain ⟨c, hc⟩ : ∃ c, ((nx s i).toNat : Int) = c := ⟨_, rfl⟩
    have HC := hide hc
    have HB := hide hb
    have kf := fun t ht => family_at s i t ht
    rw [hc] at kn kb kf
    clear hb hc
    go_enter Tryd.func104, Tryd.ntmps104
    go_wp2_with fail
    refine kn.mono ?_
    rintro e w1 ⟨rfl, n, rfl⟩
    go_wp2_with fail
    refine (kb _).mono ?_
    rintro e w1 ⟨rfl, rfl⟩
    clear kn kb
    go_wp2_with fail
    refine abs_calls (fun W => Go1 w W rb s (i + 1)) (((Go1.refl H.out).drewN _).put (i + 1) lt (by omega)) ?_
    intro w2 g2
    have G2 := hide g2
    have kn := next_spec g2.rd hs
    have c1 := g2.rd.c1
    have f1 := g2.rd.f1
    clear g2 H
    by_cases m : nx s (i + 1) = 45
    · have e1 : (nx s (i + 1)).toNat = 45 := by rw [m]; rfl
      rw [e1] at kn
      have l1 : i + 1 < s.size := lt_of_nx (by rw [m]; decide)
      clear e1
      refine kn.mono ?_
      rintro e w3 ⟨rfl, n3, rfl⟩
      clear kn
      by_cases z : fB (nx s i) = 0
      · have F : Hid (itemA s i = (i + 1, none)) := by show _ = _; unfold itemA; simp only; rw [HB.out, if_pos rfl, if_pos m, if_pos z]
        have kf := kf 0 z
        clear z m
        go_wp2_with fail
        refine (kf _).mono ?_
        rintro e w4 ⟨rfl, rfl⟩
        go_wp2_with fail
        go_returns
        exact ⟨by rw [F.out]; rfl, by rw [F.out]; exact G2.out.drewN _⟩
      · obtain ⟨fc, hfc⟩ : ∃ fc, fB (nx s i) = fc := ⟨_, rfl⟩
        have kf := kf fc hfc
        have z1 : (fc == 0) = false := by rw [beq_eq_false_iff_ne, ← hfc]; exact z
        have ZZ := hide z
        have HF := hide hfc
        have MM := hide m
        clear z hfc m
        go_wp2_with fail
        refine (kf _).mono ?_
        rintro e w4 ⟨rfl, rfl⟩
        go_wp2_with fail
        refine abs_calls (fun W => Go1 w W rb s (i + 2)) ((G2.out.drewN _).put (i + 2) l1 (by omega)) ?_
        intro w5 g5
        have G5 := hide g5
        have kn := next_spec g5.rd hs
        have c1 := g5.rd.c1
        have f1 := g5.rd.f1
        have kg := fun t ht => family_at s (i + 2) t ht
        clear g5 G2
        obtain ⟨d, hd⟩ : ∃ d, ((nx s (i + 2)).toNat : Int) = d := ⟨_, rfl⟩
        obtain ⟨fd, hfd⟩ : ∃ fd, fB (nx s (i + 2)) = fd := ⟨_, rfl⟩
        rw [hd] at kn kg
        have kg := kg fd hfd
        have HD := hide hd
        have HFD := hide hfd
        clear hd hfd
        refine kn.mono ?_
        rintro e w6 ⟨rfl, n6, rfl⟩
        go_wp2_with fail
        refine (kg _).mono ?_
        rintro e w7 ⟨rfl, rfl⟩
        go_wp2_with fail
        refine (kf _).mono ?_
        rintro e w8 ⟨rfl, rfl⟩
        by_cases y : fd = fc
        · by_cases x : d < c
          · have F : Hid (itemA s i = (i + 2, none)) := by
              show _ = _; unfold itemA; simp only; rw [HB.out, if_pos rfl, if_pos MM.out, if_neg ZZ.out, if_neg]
              rintro ⟨_, q⟩
              have := UInt8.le_iff_toNat_le.1 q
              have := HD.out; have := HC.out; omega
            subst y
            go_wp2_with fail
            go_returns
            exact ⟨by rw [F.out]; rfl, by rw [F.out]; exact G5.out.drewN _⟩
          · have F : Hid (itemA s i = (i + 3, some (nx s i, nx s (i + 2)))) := by
              show _ = _; unfold itemA; simp only; rw [HB.out, if_pos rfl, if_pos MM.out, if_neg ZZ.out, if_pos ⟨by rw [HFD.out, HF.out, y], UInt8.le_iff_toNat_le.2 (by have := HD.out; have := HC.out; omega)⟩]
            have l2 : i + 2 < s.size := lt_of_nx (by intro e; have := HFD.out; rw [e, fB0] at this; rw [← this] at y; exact ZZ.out (HF.out.trans y.symm))
            subst y
            go_wp2_with fail
            go_returns
            exact ⟨by rw [F.out]; simp only [itemV, HD.out, HC.out]; rfl, by rw [F.out]; exact (G5.out.drewN _).put (i + 3) l2 (by omega)⟩
        · have y1 : (fd == fc) = false := by rw [beq_eq_false_iff_ne]; exact y
          have F : Hid (itemA s i = (i + 2, none)) := by
            show _ = _; unfold itemA; simp only; rw [HB.out, if_pos rfl, if_pos MM.out, if_neg ZZ.out, if_neg]
            rintro ⟨q, _⟩
            exact y (by rw [← HFD.out, ← HF.out]; exact q)
          go_wp2_with fail
          go_returns
          exact ⟨by rw [F.out]; rfl, by rw [F.out]; exact G5.out.drewN _⟩
    · have F : Hid (itemA s i = (i + 1, some (nx s i, nx s i))) := by show _ = _; unfold itemA; simp only; rw [HB.out, if_pos rfl, if_neg m]
      obtain ⟨x, hx⟩ : ∃ x, ((nx s (i + 1)).toNat : Int) = x := ⟨_, rfl⟩
      have n1 : (x == 45) = false := by rw [beq_eq_false_iff_ne, ← hx]; intro q; exact m (UInt8.toNat_inj.1 (show (nx s (i + 1)).toNat = 45 by omega))
      rw [hx] at kn
      clear hx m
      refine kn.mono ?_
      rintro e w3 ⟨rfl, n3, rfl⟩
      go_wp2_with fail
      go_returns
      exact ⟨by rw [F.out]; simp only [itemV, HC.out]; rfl, by rw [F.out]; exact G2.out.drewN _⟩
end Go.Proofs.YteahbdhhcfoiiaaDoor
/- Texts cut at a byte: plain lists; texts as lists of bytes. -/
namespace Go.Proofs.YteahbdhhcfoiiaaDoor
set_option linter.unusedVariables false
set_option linter.unusedSimpArgs false
open Go.RowKit W
theorem drop_at {s : ByteArray} {k : Nat} (h : k < s.size) : s.data.toList.drop k = s[k] :: s.data.toList.drop (k + 1) := by
  have : k < s.data.toList.length := by simpa using h
  rw [List.drop_eq_getElem_cons this]; rfl
/-- A text cut at each byte c; acc: what was read of the piece. -/
def cutL (c : UInt8) (acc : List UInt8) : List UInt8 → List (List UInt8)
  | [] => [acc]
  | x :: r => if x = c then acc :: cutL c [] r else cutL c (acc ++ [x]) r
theorem cutL_pos (c : UInt8) (l acc : List UInt8) : 0 < (cutL c acc l).length := by
  induction l generalizing acc with
  | nil => simp [cutL]
  | cons x r ih => unfold cutL; split <;> simp [ih]
theorem cutL_len (c : UInt8) (l acc : List UInt8) : (cutL c acc l).length ≤ l.length + 1 := by
  induction l generalizing acc with
  | nil => simp [cutL]
  | cons x r ih =>
    unfold cutL
    split
    · simp [ih]
    · have := ih (acc ++ [x]); simp; omega
theorem cutL_none (c : UInt8) (l acc : List UInt8) (h : c ∉ l) : cutL c acc l = [acc ++ l] := by
  induction l generalizing acc with
  | nil => simp [cutL]
  | cons x r ih =>
    unfold cutL
    rw [if_neg (by rintro rfl; exact h (by simp)), ih _ (fun g => h (by simp [g]))]
    simp
theorem cutL_at (c : UInt8) (l m acc : List UInt8) (h : c ∉ l) : cutL c acc (l ++ c :: m) = (acc ++ l) :: cutL c [] m := by
  induction l generalizing acc with
  | nil => simp [cutL]
  | cons x r ih =>
    show (if x = c then acc :: cutL c [] (r ++ c :: m) else cutL c (acc ++ [x]) (r ++ c :: m)) = _
    rw [if_neg (by rintro rfl; exact h (by simp)), ih _ (fun g => h (by simp [g]))]
    simp
theorem cutL_one (c : UInt8) (l acc : List UInt8) : (cutL c acc l).length = 1 ↔ c ∉ l := by
  induction l generalizing acc with
  | nil => simp [cutL]
  | cons x r ih =>
    unfold cutL
    split
    · rename_i e
      subst e
      have := cutL_pos x r []
      constructor
      · intro h; rw [List.length_cons] at h; omega
      · intro h; exact absurd (List.mem_cons_self) h
    · rename_i e
      rw [ih]
      simp [Ne.symm e]
/-- Texts as a list of bytes. -/
def lst (s : ByteArray) : List UInt8 := s.data.toList
theorem lst_len (s : ByteArray) : (lst s).length = s.size := by simp [lst]
theorem lst_inj {s t : ByteArray} (h : lst s = lst t) : s = t := by
  cases s; cases t; simp only [lst] at h; congr; exact Array.toList_inj.1 h
theorem size_piece {s : ByteArray} {ps : List ByteArray} {c : UInt8} (h : ps.map lst = cutL c [] (lst s)) : ∀ p ∈ ps, p.size ≤ s.size := by
  have aux : ∀ (l acc : List UInt8), ∀ q ∈ cutL c acc l, q.length ≤ acc.length + l.length := by
    intro l
    induction l with
    | nil => intro acc q hq; simp [cutL] at hq; subst hq; simp
    | cons x r ih =>
      intro acc q hq
      unfold cutL at hq
      split at hq
      · rcases List.mem_cons.1 hq with rfl | hq
        · simp
        · have := ih [] q hq; simp at this ⊢; omega
      · have := ih _ q hq; simp at this ⊢; omega
  intro p hp
  have := aux (lst s) [] (lst p) (by rw [← h]; exact List.mem_map_of_mem hp)
  rw [lst_len, lst_len] at this
  simpa using this
end Go.Proofs.YteahbdhhcfoiiaaDoor
/- name: may a pattern be? -/
namespace Go.Proofs.YteahbdhhcfoiiaaDoor
set_option linter.unusedVariables false
set_option linter.unusedSimpArgs false
open Go.RowKit W
def bytesB (s : ByteArray) : Bool := (lst s).all nB
/-- May the byte at a place of a class's text stand there? -/
def riseA (s : ByteArray) (k : Nat) : Bool := cB (nx s k) && (decide (k = 0) || decide ((nx s (k - 1)).toNat < (nx s k).toNat))
def riseB (s : ByteArray) : Bool := (List.range s.size).all (riseA s) && decide (s.size ≠ 0)
def chooseB (al : List ByteArray) : Bool := al.all bytesB && (decide (1 ≤ al.length) && decide (al.length ≤ 16))
def standB (g : Gl) : Bool :=
  if g.k = 1 then decide (g.t.size ≠ 0) && bytesB g.t && decide (g.al.length = 0)
  else if g.k = 2 ∨ g.k = 3 then decide (g.t.size = 0) && decide (g.al.length = 0)
  else if g.k = 4 then riseB g.t && decide (g.al.length = 0)
  else if g.k = 5 then decide (g.t.size = 0) && chooseB g.al
  else false
/-- May the i-th piece of a node stand there? -/
def placeB (gs : List Gl) (i : Nat) : Bool := match gs[i]? with
  | none => true
  | some g => standB g && !(decide (0 < i) && decide (g.k = 1) && (match gs[i - 1]? with | none => false | some h => decide (h.k = 1)))
def nodeMay (gs : List Gl) : Bool := decide (gs.length ≠ 0) && (List.range gs.length).all (placeB gs)
def mayB (p : List (List Gl)) : Bool := decide (1 ≤ p.length) && decide (p.length ≤ 16) && p.all nodeMay
theorem all_yes {n : Nat} {f : Nat → Bool} (h : ∀ i, i < n → f i = true) : (List.range n).all f = true := by
  rw [List.all_eq_true]; intro i hi; exact h i (List.mem_range.1 hi)
theorem all_no {n k : Nat} {f : Nat → Bool} (hk : k < n) (h : f k = false) : (List.range n).all f = false := by
  rw [List.all_eq_false]; exact ⟨k, List.mem_range.2 hk, by rw [h]; decide⟩
theorem lst_all {s : ByteArray} (f : UInt8 → Bool) (h : ∀ i, i < s.size → f (nx s i) = true) : (lst s).all f = true := by
  rw [List.all_eq_true]
  intro c hc
  obtain ⟨i, hi, rfl⟩ := List.getElem_of_mem hc
  rw [lst_len] at hi
  have := h i hi
  rwa [nx_lt hi] at this
theorem lst_not {s : ByteArray} (f : UInt8 → Bool) {k : Nat} (hk : k < s.size) (h : f (nx s k) = false) : (lst s).all f = false := by
  rw [List.all_eq_false]
  refine ⟨nx s k, ?_, by rw [h]; decide⟩
  rw [nx_lt hk]
  have : k < (lst s).length := by rw [lst_len]; exact hk
  exact List.getElem_mem (l := lst s) this
theorem quiet_calc {f : Nat} {args : Array Value} {w : World} {n : Nat} {v : Value} (h : CalcN f args (w.drewN n) v) : Calls Tryd.prog f args (w.drewN n) fun e w'' => e = .returned v ∧ ∃ m, w'' = w.drewN m :=
  Calls.quiet_of_same (h.mono fun _ _ q => ⟨q.1, q.2.symm⟩)
theorem str_ne {s : ByteArray} (h : ¬ s.size = 0) : s.toList.isEmpty = false ∧ ¬ s.toList = [] := by
  have : s.data.toList.length = s.size := Array.length_toList
  rw [ByteArray.toList_eq]
  cases q : s.data.toList with
  | nil => rw [q] at this; exact absurd this.symm h
  | cons a r => simp
theorem str_nil {s : ByteArray} (h : s.size = 0) : s = ⟨#[]⟩ := by
  have : lst s = [] := List.length_eq_zero_iff.1 (by rw [lst_len]; exact h)
  exact lst_inj (this.trans rfl)
set_option maxRecDepth 100000 in
set_option maxHeartbeats 4000000 in
theorem bytes_spec (s : ByteArray) (hs : s.size ≤ 140737488355328) (w : World) : CalcN 84 #[.string s] w (.bool (bytesB s)) := by
  obtain ⟨E, hE⟩ : ∃ E, bytesB s = E := ⟨_, rfl⟩
  rw [hE]
  have HE := hide hE
  clear hE
  go_enter Tryd.func84, Tryd.ntmps84
  go_wp2_with fail
  go_loop [6] (fun i => ∃ k : Nat, k ≤ s.size ∧ i = .int .i64 (k : Int) ∧ Hid (∀ j, j < k → nB (nx s j) = true)) (fun i => s.size - (intOf i).toNat)
  case atStart => exact ⟨0, by omega, rfl, hide (fun j h => absurd h (Nat.not_lt_zero _))⟩
  case round =>
    obtain ⟨k, hk, rfl, D⟩ := hrel
    by_cases hlt : k < s.size
    · have nk : (nx s k).toNat = s[k].toNat := by rw [nx_lt hlt]
      obtain ⟨t, ht⟩ : ∃ t, nB (nx s k) = t := ⟨_, rfl⟩
      have kb := fun w => nbyte_at s k t ht w
      rw [nk] at kb
      have HT := hide ht
      clear ht nk
      cases t
      · have F : Hid (E = false) := by have := HE.out; rw [← this]; exact lst_not nB hlt HT.out
        go_wp2_with (go_at_call 35; refine (kb _).mono ?_; rintro e w1 ⟨rfl, rfl⟩)
        go_returns
        exact ⟨by rw [F.out]; rfl, rfl⟩
      · have D2 : Hid (∀ j, j < k + 1 → nB (nx s j) = true) := by
          intro j hj
          by_cases q : j < k
          · exact D.out j q
          · obtain rfl : j = k := by omega
            exact HT.out
        go_wp2_with (go_at_call 35; refine (kb _).mono ?_; rintro e w1 ⟨rfl, rfl⟩)
        go_round
        case rel => exact ⟨k + 1, by omega, by go_num, D2⟩
        case measure => simp [intOf]; omega
    · obtain rfl : k = s.size := by omega
      have F : Hid (E = true) := by have := HE.out; rw [← this]; exact lst_all nB D.out
      go_wp2
      go_returns
      exact ⟨by rw [F.out]; rfl, rfl⟩
set_option maxRecDepth 100000 in
set_option maxHeartbeats 4000000 in
theorem rising_spec (s : ByteArray) (hs : s.size ≤ 140737488355328) (w : World) : Calls Tryd.prog 85 #[.string s] w fun e w' => e = .returned (.bool (riseB s)) ∧ ∃ n, w' = w.drewN n := by
  obtain ⟨E, hE⟩ : ∃ E, riseB s = E := ⟨_, rfl⟩
  rw [hE]
  have HE := hide hE
  clear hE
  go_enter Tryd.func85, Tryd.ntmps85
  go_wp2_with fail
  go_loopw [6] (fun i wr => ∃ k : Nat, k ≤ s.size ∧ i = .int .i64 (k : Int) ∧ Hid (∀ j, j < k → riseA s j = true) ∧ Hid (∃ n, wr = w.drewN n)) (fun i _ => s.size - (intOf i).toNat)
  case atStart => exact ⟨0, by omega, rfl, hide (fun j h => absurd h (Nat.not_lt_zero _)), hide ⟨0, (World.drewN_zero w).symm⟩⟩
  case round =>
    obtain ⟨k, hk, rfl, D, N⟩ := hrel
    by_cases hlt : k < s.size
    · have nk : (nx s k).toNat = s[k].toNat := by rw [nx_lt hlt]
      obtain ⟨t, ht⟩ : ∃ t, cB (nx s k) = t := ⟨_, rfl⟩
      have kb := fun w => class_at s k t ht w
      rw [nk] at kb
      have HT := hide ht
      have NK := hide nk
      clear ht nk
      cases t
      · have F : Hid (E = false) := by
          have := HE.out; rw [← this]; unfold riseB; rw [all_no (f := riseA s) hlt (by unfold riseA; rw [HT.out]; rfl)]; rfl
        by_cases z : k = 0
        · subst z
          have z0 : decide ((0 : Int) < ((0 : Nat) : Int)) = false := by decide
          go_wp2_with fail
          go_quiet ((go_at_call 51; exact quiet_calc (kb _)))
          go_wp2_with fail
          go_returns
          exact ⟨by rw [F.out]; rfl, by obtain ⟨n, rfl⟩ := N.out; exact ⟨_, World.drewN_drewN ..⟩⟩
        · go_wp2_with fail
          go_quiet ((go_at_call 51; exact quiet_calc (kb _)))
          go_wp2_with fail
          go_returns
          exact ⟨by rw [F.out]; rfl, by obtain ⟨n, rfl⟩ := N.out; exact ⟨_, World.drewN_drewN ..⟩⟩
      · by_cases z : k = 0
        · subst z
          have z0 : decide ((0 : Int) < ((0 : Nat) : Int)) = false := by decide
          have D2 : Hid (∀ j, j < 0 + 1 → riseA s j = true) := by
            intro j hj
            obtain rfl : j = 0 := by omega
            unfold riseA; rw [HT.out]; rfl
          go_wp2_with fail
          go_quiet ((go_at_call 51; exact quiet_calc (kb _)))
          go_wp2_with fail
          go_roundw
          case rel => exact ⟨0 + 1, by omega, by go_num, D2, by obtain ⟨n, rfl⟩ := N.out; exact hide ⟨_, World.drewN_drewN ..⟩⟩
          case measure => simp [intOf]; omega
        · obtain ⟨q, rfl⟩ : ∃ q, k = q + 1 := ⟨k - 1, by omega⟩
          have q1 : (nx s q).toNat = s[q].toNat := by rw [nx_lt (by omega)]
          have e1 : IntKind.i64.wrap ((q : Int) + 1 - 1) = (q : Int) := by rw [IntKind.wrap_i64]; omega
          have e2 : decide ((0 : Int) < (q : Int) + 1) = true := by rw [decide_eq_true_eq]; omega
          have e3 : ((q : Int) + 1).toNat = q + 1 := by omega
          have e4 : (0 : Int) ≤ (q : Int) + 1 := by omega
          have lq : q < s.size := by omega
          by_cases y : s[q].toNat < s[q + 1].toNat
          · have y1 : decide (s[q + 1].toNat ≤ s[q].toNat) = false := by simp; omega
            have y2 : ¬ s[q + 1].toNat ≤ s[q].toNat := by omega
            have D2 : Hid (∀ j, j < q + 1 + 1 → riseA s j = true) := by
              intro j hj
              by_cases w : j < q + 1
              · exact D.out j w
              · obtain rfl : j = q + 1 := by omega
                unfold riseA; rw [HT.out, NK.out, Nat.add_sub_cancel, q1]; simp [y]
            have q1 := hide q1
            clear z y
            go_wp2_with fail
            go_quiet ((go_at_call 51; exact quiet_calc (kb _)))
            go_wp2_with fail
            clear e1 e2 e3 e4
            go_roundw
            case rel => exact ⟨q + 1 + 1, by omega, by go_num, D2, by obtain ⟨n, rfl⟩ := N.out; exact hide ⟨_, World.drewN_drewN ..⟩⟩
            case measure => simp [intOf]; omega
          · have y1 : decide (s[q + 1].toNat ≤ s[q].toNat) = true := by simp; omega
            have y2 : s[q + 1].toNat ≤ s[q].toNat := by omega
            have F : Hid (E = false) := by
              have := HE.out; rw [← this]; unfold riseB; rw [all_no (f := riseA s) hlt (by unfold riseA; rw [HT.out, NK.out, Nat.add_sub_cancel, q1]; simp; omega)]; rfl
            have q1 := hide q1
            clear z y
            go_wp2_with fail
            go_quiet ((go_at_call 51; exact quiet_calc (kb _)))
            go_wp2_with fail
            go_returns
            exact ⟨by rw [F.out]; rfl, by obtain ⟨n, rfl⟩ := N.out; exact ⟨_, World.drewN_drewN ..⟩⟩
    · obtain rfl : k = s.size := by omega
      have AL : Hid ((List.range s.size).all (riseA s) = true) := all_yes D.out
      by_cases z : s.size = 0
      · have F : Hid (E = false) := by have := HE.out; rw [← this]; unfold riseB; rw [AL.out, z]; rfl
        have se : s = ⟨#[]⟩ := by
          have : lst s = [] := List.length_eq_zero_iff.1 (by rw [lst_len]; exact z)
          exact lst_inj (this.trans rfl)
        subst se
        clear z
        go_wp2_with fail
        go_returns
        exact ⟨by rw [F.out]; rfl, N.out⟩
      · have F : Hid (E = true) := by show _ = _; have := HE.out; rw [← this]; unfold riseB; rw [AL.out]; simp [z]
        have e2 := str_ne z
        obtain ⟨e2, e3⟩ := e2
        clear z
        go_wp2_with fail
        go_returns
        exact ⟨by rw [F.out]; rfl, N.out⟩
end Go.Proofs.YteahbdhhcfoiiaaDoor
