/- Texts cut at a byte: plain lists; texts as lists of bytes. -/
import Derived.Test.YtagahoelojfhcaaDoorHid
namespace Go.Proofs.YtagahoelojfhcaaDoor
set_option linter.unusedVariables false
set_option linter.unusedSimpArgs false
open Go.RowKit W
theorem drop_at {s : ByteArray} {k : Nat} (h : k < s.size) : s.data.toList.drop k = s[k] :: s.data.toList.drop (k + 1) := by
  have : k < s.data.toList.length := by simpa using h
  rw [List.drop_eq_getElem_cons this]; rfl
/-- A text cut at each byte c; acc: what was read of the piece. -/
def cutL (c : UInt8) (acc : List UInt8) : List UInt8 → List (List UInt8)
  | [] => [acc]
  | x :: r => if x = c then acc :: cutL c [] r else cutL c (acc ++ [x]) r
theorem cutL_pos (c : UInt8) (l acc : List UInt8) : 0 < (cutL c acc l).length := by
  induction l generalizing acc with
  | nil => simp [cutL]
  | cons x r ih => unfold cutL; split <;> simp [ih]
theorem cutL_len (c : UInt8) (l acc : List UInt8) : (cutL c acc l).length ≤ l.length + 1 := by
  induction l generalizing acc with
  | nil => simp [cutL]
  | cons x r ih =>
    unfold cutL
    split
    · simp [ih]
    · have := ih (acc ++ [x]); simp; omega
theorem cutL_none (c : UInt8) (l acc : List UInt8) (h : c ∉ l) : cutL c acc l = [acc ++ l] := by
  induction l generalizing acc with
  | nil => simp [cutL]
  | cons x r ih =>
    unfold cutL
    rw [if_neg (by rintro rfl; exact h (by simp)), ih _ (fun g => h (by simp [g]))]
    simp
theorem cutL_at (c : UInt8) (l m acc : List UInt8) (h : c ∉ l) : cutL c acc (l ++ c :: m) = (acc ++ l) :: cutL c [] m := by
  induction l generalizing acc with
  | nil => simp [cutL]
  | cons x r ih =>
    show (if x = c then acc :: cutL c [] (r ++ c :: m) else cutL c (acc ++ [x]) (r ++ c :: m)) = _
    rw [if_neg (by rintro rfl; exact h (by simp)), ih _ (fun g => h (by simp [g]))]
    simp
theorem cutL_one (c : UInt8) (l acc : List UInt8) : (cutL c acc l).length = 1 ↔ c ∉ l := by
  induction l generalizing acc with
  | nil => simp [cutL]
  | cons x r ih =>
    unfold cutL
    split
    · rename_i e
      subst e
      have := cutL_pos x r []
      constructor
      · intro h; rw [List.length_cons] at h; omega
      · intro h; exact absurd (List.mem_cons_self) h
    · rename_i e
      rw [ih]
      simp [Ne.symm e]
/-- Texts as a list of bytes. -/
def lst (s : ByteArray) : List UInt8 := s.data.toList
theorem lst_len (s : ByteArray) : (lst s).length = s.size := by simp [lst]
theorem lst_inj {s t : ByteArray} (h : lst s = lst t) : s = t := by
  cases s; cases t; simp only [lst] at h; congr; exact Array.toList_inj.1 h
theorem size_piece {s : ByteArray} {ps : List ByteArray} {c : UInt8} (h : ps.map lst = cutL c [] (lst s)) : ∀ p ∈ ps, p.size ≤ s.size := by
  have aux : ∀ (l acc : List UInt8), ∀ q ∈ cutL c acc l, q.length ≤ acc.length + l.length := by
    intro l
    induction l with
    | nil => intro acc q hq; simp [cutL] at hq; subst hq; simp
    | cons x r ih =>
      intro acc q hq
      unfold cutL at hq
      split at hq
      · rcases List.mem_cons.1 hq with rfl | hq
        · simp
        · have := ih [] q hq; simp at this ⊢; omega
      · have := ih _ q hq; simp at this ⊢; omega
  intro p hp
  have := aux (lst s) [] (lst p) (by rw [← h]; exact List.mem_map_of_mem hp)
  rw [lst_len, lst_len] at this
  simpa using this
end Go.Proofs.YtagahoelojfhcaaDoor
