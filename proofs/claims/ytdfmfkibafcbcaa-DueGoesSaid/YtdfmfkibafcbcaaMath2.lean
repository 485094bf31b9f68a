/- Plain numbers: sums of many wide numbers in three limbs. No Go in sight. -/
import Derived.Test.YtdfmfkibafcbcaaMath
namespace Go.Proofs.Ytdfmfkibafcbcaa
set_option linter.unusedVariables false
namespace W
/-- Three limbs of a sum, modulo 2^192. -/
structure SumAt (t s0 s1 s2 : Int) : Prop where
  a : s0 = t % 18446744073709551616
  b : s1 = t / 18446744073709551616 % 18446744073709551616
  c : s2 = t / 18446744073709551616 / 18446744073709551616 % 18446744073709551616
theorem sumAt_0 : SumAt 0 0 0 0 := ⟨rfl, rfl, rfl⟩
theorem SumAt.lo0 {t s0 s1 s2 : Int} (h : SumAt t s0 s1 s2) : IsLo s0 := by obtain ⟨a, b, c⟩ := h; exact ⟨by omega, by omega⟩
theorem SumAt.lo1 {t s0 s1 s2 : Int} (h : SumAt t s0 s1 s2) : IsLo s1 := by obtain ⟨a, b, c⟩ := h; exact ⟨by omega, by omega⟩
theorem SumAt.lo2 {t s0 s1 s2 : Int} (h : SumAt t s0 s1 s2) : IsLo s2 := by obtain ⟨a, b, c⟩ := h; exact ⟨by omega, by omega⟩
theorem SumAt.step {t s0 s1 s2 eh el : Int} (h : SumAt t s0 s1 s2) (j : IsHi eh) (i : IsLo el) :
    SumAt (t + V eh el) (addD s0 el 0) (addD s1 (u eh) (addC s0 el 0)) (addD s2 (u (eh / 9223372036854775808)) (addC s1 (u eh) (addC s0 el 0))) := by
  obtain ⟨a, b, c⟩ := h; obtain ⟨_, _⟩ := i; obtain ⟨_, _⟩ := j
  have q : eh / 18446744073709551616 = eh / 9223372036854775808 := by omega
  have p : (t + V eh el) / 18446744073709551616 = t / 18446744073709551616 + eh + (s0 + el) / 18446744073709551616 := by simp only [V]; omega
  have r0 : 0 ≤ (s0 + el) / 18446744073709551616 := by omega
  have r1 : (s0 + el) / 18446744073709551616 ≤ 1 := by omega
  have e0 : addC s0 el 0 = (s0 + el) / 18446744073709551616 := by simp [addC]
  generalize hr : (s0 + el) / 18446744073709551616 = r at *
  have k : (t / 18446744073709551616 + eh + r) / 18446744073709551616 = t / 18446744073709551616 / 18446744073709551616 + eh / 18446744073709551616 + (s1 + eh % 18446744073709551616 + r) / 18446744073709551616 := by omega
  refine ⟨?_, ?_, ?_⟩
  · simp only [addD, V]; omega
  · rw [p, e0]; simp only [addD, u]; omega
  · rw [p, k, e0, q]; simp only [addD, addC, u]; omega
theorem SumAt.done {t s0 s1 s2 : Int} (h : SumAt t s0 s1 s2) (lo : -1569275433846670190958947355801916604025588861116008628224 ≤ t) (up : t ≤ 1569275433846670190958947355801916604025588861116008628224)
    (e : s2 = u (s s1 / 9223372036854775808)) : Fits t ∧ hi t = s s1 ∧ W.lo t = s0 := by
  obtain ⟨a, b, c⟩ := h
  have f : Fits t := by
    simp only [u, s] at e
    exact ⟨by split at e <;> omega, by split at e <;> omega⟩
  refine ⟨f, ?_, ?_⟩
  · obtain ⟨_, _⟩ := f
    simp only [hi, s]; split <;> omega
  · simp only [W.lo]; omega
theorem SumAt.over {t s0 s1 s2 : Int} (h : SumAt t s0 s1 s2) (e : s2 ≠ u (s s1 / 9223372036854775808)) : ¬ Fits t := by
  rintro ⟨x, y⟩
  obtain ⟨a, b, c⟩ := h
  apply e
  simp only [u, s]; split <;> omega
def sumV : List (Int × Int) → Int
  | [] => 0
  | p :: l => V p.1 p.2 + sumV l
theorem sumV_append (l m : List (Int × Int)) : sumV (l ++ m) = sumV l + sumV m := by
  induction l with
  | nil => simp [sumV]
  | cons p l ih => simp [sumV, ih, Int.add_assoc]
theorem sumV_take (l : List (Int × Int)) (k : Nat) (h : k < l.length) : sumV (l.take (k + 1)) = sumV (l.take k) + V (l.getD k (0, 0)).1 (l.getD k (0, 0)).2 := by
  rw [List.take_succ_eq_append_getElem h, sumV_append]
  simp [sumV, List.getD, List.getElem?_eq_getElem h]
structure IsW (p : Int × Int) : Prop where
  a : IsHi p.1
  b : IsLo p.2
theorem sumV_bound (l : List (Int × Int)) (h : ∀ p ∈ l, IsW p) : -(170141183460469231731687303715884105728 * (l.length : Int)) ≤ sumV l ∧ sumV l ≤ 170141183460469231731687303715884105728 * (l.length : Int) := by
  induction l with
  | nil => simp [sumV]
  | cons p l ih =>
    have i := ih fun q hq => h q (List.mem_cons_of_mem _ hq)
    have w := h p (List.mem_cons_self ..)
    have f := fits_V w.a w.b
    obtain ⟨f1, f2⟩ := f
    simp only [sumV, List.length_cons]
    omega
end W
end Go.Proofs.Ytdfmfkibafcbcaa
