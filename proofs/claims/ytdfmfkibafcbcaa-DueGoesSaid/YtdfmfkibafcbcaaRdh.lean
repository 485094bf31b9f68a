/- due: where an entry goes in, plainly (for the reference's Set). -/
import Derived.Test.YtdfmfkibafcbcaaRdg
namespace Go.Proofs.Ytdfmfkibafcbcaa
set_option linter.unusedVariables false
set_option linter.unusedSimpArgs false
open Go.RowKit W Go.Maps
/-- How many come before. -/
def insK (r : List En) (d : En) : Nat := (r.takeWhile fun e => ltE e d).length
theorem insK_le (r : List En) (d : En) : insK r d ≤ r.length := List.Sublist.length_le (List.takeWhile_sublist _)
theorem insE_at (r : List En) (d : En) : insE r d = r.take (insK r d) ++ d :: r.drop (insK r d) := by
  have h : ∀ r : List En, r.takeWhile (fun e => ltE e d) = r.take (r.takeWhile fun e => ltE e d).length ∧ r.dropWhile (fun e => ltE e d) = r.drop (r.takeWhile fun e => ltE e d).length := by
    intro r
    induction r with
    | nil => exact ⟨rfl, rfl⟩
    | cons x r ih =>
      cases q : ltE x d with
      | true =>
        rw [List.takeWhile_cons_of_pos (by simpa using q), List.dropWhile_cons_of_pos (by simpa using q), List.length_cons, List.take_succ_cons, List.drop_succ_cons]
        exact ⟨congrArg _ ih.1, ih.2⟩
      | false =>
        rw [List.takeWhile_cons_of_neg (by simpa using q), List.dropWhile_cons_of_neg (by simpa using q)]
        exact ⟨rfl, rfl⟩
  unfold insE insK
  rw [← (h r).1, ← (h r).2]
theorem insK_in {d : En} : ∀ {r : List En} {i : Nat} (h : i < r.length), i < insK r d → ltE r[i] d = true
  | x :: r, i, h, hi => by
    cases q : ltE x d with
    | true =>
      unfold insK at hi
      rw [List.takeWhile_cons_of_pos (by simpa using q), List.length_cons] at hi
      cases i with
      | zero => exact q
      | succ i => exact insK_in (r := r) (by simpa using h) (by unfold insK; omega)
    | false =>
      unfold insK at hi
      rw [List.takeWhile_cons_of_neg (by simpa using q)] at hi
      simp at hi
theorem insK_out {d : En} : ∀ {r : List En} {m : Nat} (h : m < r.length), m = insK r d → ltE r[m] d = false
  | x :: r, m, h, hm => by
    cases q : ltE x d with
    | true =>
      unfold insK at hm
      rw [List.takeWhile_cons_of_pos (by simpa using q), List.length_cons] at hm
      subst hm
      exact insK_out (r := r) (by simpa using h) rfl
    | false =>
      unfold insK at hm
      rw [List.takeWhile_cons_of_neg (by simpa using q), List.length_nil] at hm
      subst hm
      exact q
end Go.Proofs.Ytdfmfkibafcbcaa
