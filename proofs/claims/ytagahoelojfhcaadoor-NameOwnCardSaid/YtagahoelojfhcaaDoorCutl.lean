/- A name is nodes between points. -/
import Derived.Test.YtagahoelojfhcaaDoorNvalb
import Derived.Test.YtagahoelojfhcaaDoorCutp
namespace Go.Proofs.YtagahoelojfhcaaDoor
set_option linter.unusedVariables false
set_option linter.unusedSimpArgs false
open Go.RowKit W
/-- May a piece be a node? -/
def nodeB (p : List UInt8) : Bool := !p.isEmpty && p.all nB
theorem nB_point : nB 46 = false := by decide
theorem cutL_bad (l acc : List UInt8) (h : acc.all nB = false) : (cutL 46 acc l).all nodeB = false := by
  induction l generalizing acc with
  | nil => simp [cutL, nodeB, h]
  | cons x r ih =>
    unfold cutL
    split
    · simp [nodeB, h]
    · exact ih _ (by rw [List.all_append, h]; rfl)
theorem scan_cut (l acc : List UInt8) (n : Nat) (h : acc.all nB = true) :
    endN (scanN l n acc.length) = ((cutL 46 acc l).all nodeB && decide (n + (cutL 46 acc l).length ≤ 17)) := by
  induction l generalizing acc n with
  | nil =>
    unfold scanN cutL endN
    cases acc with
    | nil => simp [nodeB]
    | cons a t => simp only [List.all_cons, List.all_nil, nodeB, h, List.isEmpty_cons, Bool.not_false, Bool.true_and, List.length_cons, List.length_nil, Bool.and_true]; simp
  | cons x r ih =>
    unfold scanN cutL
    by_cases hx : nB x = true
    · have : x ≠ 46 := by rintro rfl; rw [nB_point] at hx; cases hx
      rw [if_pos hx, if_neg this]
      have := ih (acc ++ [x]) n (by rw [List.all_append, h]; simp [hx])
      rw [← this, List.length_append]; rfl
    · rw [if_neg hx]
      have hx' : nB x = false := by simpa using hx
      by_cases e : x = 46
      · rw [if_pos e]
        cases acc with
        | nil => rw [if_neg (by simp)]; simp [endN, nodeB]
        | cons a t =>
          rw [if_pos ⟨e, by simp⟩]
          have := ih [] (n + 1) rfl
          rw [List.length_nil] at this
          rw [this, List.all_cons]
          have g : nodeB (a :: t) = true := by unfold nodeB; rw [h]; rfl
          rw [g, Bool.true_and, List.length_cons]
          congr 1
          simp only [decide_eq_decide]; omega
      · rw [if_neg e, if_neg (fun g => e g.1), cutL_bad _ _ (by rw [List.all_append]; simp [hx'])]
        rfl
/-- A name is nodes between points. -/
theorem valid_cut (l : List UInt8) : validN l = (decide (l.length ≤ 200) && ((cutL 46 [] l).all nodeB && decide ((cutL 46 [] l).length ≤ 16))) := by
  unfold validN
  congr 1
  have := scan_cut l [] 1 rfl
  rw [List.length_nil] at this
  rw [this]
  congr 1
  simp only [decide_eq_decide]; omega
end Go.Proofs.YtagahoelojfhcaaDoor
