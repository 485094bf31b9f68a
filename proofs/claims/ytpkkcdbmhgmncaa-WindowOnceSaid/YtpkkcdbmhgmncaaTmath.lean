/- timer: the plain mathematics: samples, sorted lists, merged lists, sums, ranks. -/
import Derived.Test.YtpkkcdbmhgmncaaMath2
namespace Go.Proofs.Ytpkkcdbmhgmncaa.T9
set_option linter.unusedVariables false
set_option linter.unusedSimpArgs false
def okS (v : Int) : Bool := decide (0 ≤ v ∧ v ≤ 100000000000000)
def fineB (xs : List Int) : Bool := xs.all okS
theorem fine_mem {xs : List Int} (h : fineB xs = true) {x : Int} (hx : x ∈ xs) : 0 ≤ x ∧ x ≤ 100000000000000 := by
  have := List.all_eq_true.1 h x hx
  simpa [okS] using this
theorem fine_of {xs : List Int} (h : ∀ (j : Nat) (h : j < xs.length), 0 ≤ xs[j] ∧ xs[j] ≤ 100000000000000) : fineB xs = true := by
  refine List.all_eq_true.2 fun x hx => ?_
  obtain ⟨j, hj, rfl⟩ := List.getElem_of_mem hx
  simpa [okS] using h j hj
theorem not_fine {xs : List Int} {j : Nat} (h : j < xs.length) (n : ¬ (0 ≤ xs[j] ∧ xs[j] ≤ 100000000000000)) : fineB xs = false := by
  rcases q : fineB xs with _ | _
  · rfl
  · exact absurd (fine_mem q (List.getElem_mem h)) n
theorem fine_perm {xs ys : List Int} (h : xs.Perm ys) : fineB xs = fineB ys := h.all_eq
/-- The list by rising numbers. -/
def srt (xs : List Int) : List Int := xs.mergeSort fun x y => decide (x ≤ y)
theorem srt_perm (xs : List Int) : (srt xs).Perm xs := List.mergeSort_perm _ _
theorem srt_len (xs : List Int) : (srt xs).length = xs.length := (srt_perm xs).length_eq
theorem srt_up (xs : List Int) : (srt xs).Pairwise (· ≤ ·) := by
  have h := List.pairwise_mergeSort (le := fun x y : Int => decide (x ≤ y)) (by intro a b c; simp only [decide_eq_true_eq]; omega) (by intro a b; simp only [Bool.or_eq_true, decide_eq_true_eq]; omega) xs
  exact h.imp (by intro a b q; simpa using q)
theorem srt_of {xs ys : List Int} (p : ys.Perm xs) (h : ys.Pairwise (· ≤ ·)) : ys = srt xs :=
  List.Perm.eq_of_pairwise (le := (· ≤ ·)) (fun a b _ _ h1 h2 => by omega) h (srt_up xs) (p.trans (srt_perm xs).symm)
theorem srt_eq {xs ys : List Int} (p : ys.Perm xs) : srt ys = srt xs := srt_of ((srt_perm ys).trans p) (srt_up ys)
/-- Two lists put together: the lesser first number first, of the same the first list's. -/
def mg (a b : List Int) : List Int := a.merge b fun x y => decide (x ≤ y)
theorem mg_nil (b : List Int) : mg [] b = b := by simp [mg]
theorem mg_nil2 (a : List Int) : mg a [] = a := by simp [mg]
theorem mg_b {x y : Int} {a b : List Int} (h : y < x) : mg (x :: a) (y :: b) = y :: mg (x :: a) b := by
  simp only [mg, List.cons_merge_cons]; rw [if_neg (by simpa using h)]
theorem mg_a {x y : Int} {a b : List Int} (h : ¬ y < x) : mg (x :: a) (y :: b) = x :: mg a (y :: b) := by
  simp only [mg, List.cons_merge_cons]; rw [if_pos (by simpa using h)]
theorem mg_perm (a b : List Int) : (mg a b).Perm (a ++ b) := List.merge_perm_append _
theorem mg_len (a b : List Int) : (mg a b).length = a.length + b.length := by rw [(mg_perm a b).length_eq]; simp
theorem mg_srt (a b : List Int) : mg (srt a) (srt b) = srt (a ++ b) := by
  refine srt_of ((mg_perm _ _).trans ((srt_perm a).append (srt_perm b))) ?_
  have h := List.pairwise_merge (le := fun x y : Int => decide (x ≤ y)) (by intro a b c; simp only [decide_eq_true_eq]; omega) (by intro a b; simp only [Bool.or_eq_true, decide_eq_true_eq]; omega) (srt a) (srt b) ((srt_up a).imp (by intro x y q; simpa using q)) ((srt_up b).imp (by intro x y q; simpa using q))
  exact h.imp (by intro x y q; simpa using q)
theorem srt_small {xs : List Int} (h : xs.length < 2) : srt xs = xs := by
  refine (srt_of (List.Perm.refl _) ?_).symm
  match xs, h with
  | [], _ => exact List.Pairwise.nil
  | [x], _ => exact List.pairwise_singleton _ _
theorem srt_halves (xs : List Int) (k : Nat) : mg (srt (xs.take k)) (srt (xs.drop k)) = srt xs := by rw [mg_srt, List.take_append_drop]
/-- Sums. -/
theorem sum_take {xs : List Int} {k : Nat} (h : k < xs.length) : (xs.take (k + 1)).sum = (xs.take k).sum + xs[k] := by
  rw [List.take_succ_eq_append_getElem h, List.sum_append]; simp only [List.sum_cons, List.sum_nil]; omega
theorem sum_le {xs : List Int} {m : Int} (h : ∀ x ∈ xs, 0 ≤ x ∧ x ≤ m) : 0 ≤ xs.sum ∧ xs.sum ≤ xs.length * m := by
  induction xs with
  | nil => simp
  | cons x r ih =>
    have h1 := h x (by simp)
    have h2 := ih fun y hy => h y (by simp [hy])
    have e : ((x :: r).length : Int) * m = r.length * m + m := by rw [List.length_cons]; simp only [Int.natCast_add, Int.add_mul]; omega
    rw [List.sum_cons, e]; omega
theorem fine_sum {xs : List Int} (h : fineB xs = true) (k : Nat) : 0 ≤ (xs.take k).sum ∧ (xs.take k).sum ≤ xs.length * 100000000000000 := by
  have h1 := sum_le (xs := xs.take k) (m := 100000000000000) fun x hx => fine_mem h (List.mem_of_mem_take hx)
  have h2 : (xs.take k).length ≤ xs.length := by simp; omega
  omega
theorem sum_perm {xs ys : List Int} (h : xs.Perm ys) : xs.sum = ys.sum := by
  induction h with
  | nil => rfl
  | cons x _ ih => simp [ih]
  | swap x y l => simp; omega
  | trans _ _ h1 h2 => exact h1.trans h2
/-- The nearest rank. -/
def rnk (n p : Int) : Int := n * p / 100000000 + if n * p % 100000000 = 0 then 0 else 1
theorem rnk_le {n p : Int} (h1 : 1 ≤ n) (h2 : 1 ≤ p) (h3 : p ≤ 100000000) : 1 ≤ rnk n p ∧ rnk n p ≤ n := by
  have a : n * p ≤ n * 100000000 := Int.mul_le_mul_of_nonneg_left h3 (by omega)
  have b : 1 * 1 ≤ n * p := Int.mul_le_mul h1 h2 (by omega) (by omega)
  unfold rnk; split <;> omega
/-- The squares' sum, that begins anew where 128 bits don't hold it. -/
def sq1 (m s v : Int) : Int := let t := s + (v - m) * (v - m); if W.Fits t then t else 0
def sqC (m : Int) (xs : List Int) : Int := xs.foldl (sq1 m) 0
def sqS (m : Int) (xs : List Int) : Int := (xs.map fun v => (v - m) * (v - m)).sum
theorem sqC_take {m : Int} {xs : List Int} {k : Nat} (h : k < xs.length) : sqC m (xs.take (k + 1)) = sq1 m (sqC m (xs.take k)) xs[k] := by
  unfold sqC; rw [List.take_succ_eq_append_getElem h, List.foldl_append]; rfl
theorem sqS_take {m : Int} {xs : List Int} {k : Nat} (h : k < xs.length) : sqS m (xs.take (k + 1)) = sqS m (xs.take k) + (xs[k] - m) * (xs[k] - m) := by
  unfold sqS; rw [List.take_succ_eq_append_getElem h, List.map_append, List.sum_append]; simp only [List.map_cons, List.map_nil, List.sum_cons, List.sum_nil]; omega
theorem sq_le {x b : Int} (h1 : -b ≤ x) (h2 : x ≤ b) : 0 ≤ x * x ∧ x * x ≤ b * b := by
  rcases Int.le_total 0 x with h | h
  · exact ⟨Int.mul_nonneg h h, Int.mul_le_mul h2 h2 h (by omega)⟩
  · have e : x * x = (-x) * (-x) := by rw [Int.neg_mul_neg]
    rw [e]
    exact ⟨Int.mul_nonneg (by omega) (by omega), Int.mul_le_mul (by omega) (by omega) (by omega) (by omega)⟩
theorem sqC_le {m b : Int} {xs : List Int} (h : ∀ x ∈ xs, -b ≤ x - m ∧ x - m ≤ b) : ∀ k, 0 ≤ sqC m (xs.take k) ∧ sqC m (xs.take k) ≤ k * (b * b) := by
  intro k
  induction k with
  | zero => simp [sqC]
  | succ k ih =>
    by_cases hk : k < xs.length
    · rw [sqC_take hk]
      have h0 := h xs[k] (List.getElem_mem hk)
      have h1 := sq_le h0.1 h0.2
      have e : ((k + 1 : Nat) : Int) * (b * b) = k * (b * b) + b * b := by simp only [Int.natCast_add, Int.add_mul]; omega
      rw [e]
      unfold sq1
      simp only
      split <;> omega
    · rw [List.take_of_length_le (by omega)]
      rw [List.take_of_length_le (by omega)] at ih
      have e : ((k + 1 : Nat) : Int) * (b * b) = k * (b * b) + b * b := by simp only [Int.natCast_add, Int.add_mul]; omega
      have : 0 ≤ b * b := by
        rcases Int.le_total 0 b with q | q
        · exact Int.mul_nonneg q q
        · rw [← Int.neg_mul_neg]; exact Int.mul_nonneg (by omega) (by omega)
      omega
theorem sqS_le {m b : Int} {xs : List Int} (h : ∀ x ∈ xs, -b ≤ x - m ∧ x - m ≤ b) : 0 ≤ sqS m xs ∧ sqS m xs ≤ xs.length * (b * b) := by
  have := sum_le (xs := xs.map fun v => (v - m) * (v - m)) (m := b * b) (by
    intro y hy
    obtain ⟨x, hx, rfl⟩ := List.mem_map.1 hy
    exact sq_le (h x hx).1 (h x hx).2)
  simpa [sqS] using this
/-- Where 128 bits hold it, it is the sum. -/
theorem sqC_eq {m b : Int} {xs : List Int} (h : ∀ x ∈ xs, -b ≤ x - m ∧ x - m ≤ b) (f : xs.length * (b * b) < 170141183460469231731687303715884105728) : sqC m xs = sqS m xs := by
  have aux : ∀ k, k ≤ xs.length → sqC m (xs.take k) = sqS m (xs.take k) := by
    intro k
    induction k with
    | zero => intro _; simp [sqC, sqS]
    | succ k ih =>
      intro hk
      rw [sqC_take (by omega), sqS_take (by omega), ih (by omega)]
      have h1 := sqS_le (xs := xs.take (k + 1)) fun x hx => h x (List.mem_of_mem_take hx)
      rw [sqS_take (by omega)] at h1
      have h2 : ((xs.take (k + 1)).length : Int) * (b * b) ≤ xs.length * (b * b) := by
        refine Int.mul_le_mul_of_nonneg_right (by simp; omega) ?_
        rcases Int.le_total 0 b with q | q
        · exact Int.mul_nonneg q q
        · rw [← Int.neg_mul_neg]; exact Int.mul_nonneg (by omega) (by omega)
      unfold sq1
      simp only
      rw [if_pos ⟨by omega, by omega⟩]
  have := aux xs.length (Nat.le_refl _)
  rwa [List.take_length] at this
theorem sqS_perm {m : Int} {xs ys : List Int} (h : xs.Perm ys) : sqS m xs = sqS m ys := sum_perm (h.map _)
end Go.Proofs.Ytpkkcdbmhgmncaa.T9
