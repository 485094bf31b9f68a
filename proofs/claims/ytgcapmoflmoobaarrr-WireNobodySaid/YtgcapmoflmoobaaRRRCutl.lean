/- Texts cut at a byte: plain lists. -/
import Derived.Test.YtgcapmoflmoobaaRRRNvalb
namespace Go.Proofs.YtgcapmoflmoobaaRRR
set_option linter.unusedVariables false
set_option linter.unusedSimpArgs false
open Go.RowKit W
/-- A text cut at each byte c; acc: what was read of the piece. -/
def cutL (c : UInt8) (acc : List UInt8) : List UInt8 → List (List UInt8)
  | [] => [acc]
  | x :: r => if x = c then acc :: cutL c [] r else cutL c (acc ++ [x]) r
theorem cutL_pos (c : UInt8) (l acc : List UInt8) : 0 < (cutL c acc l).length := by
  induction l generalizing acc with
  | nil => simp [cutL]
  | cons x r ih => unfold cutL; split <;> simp [ih]
theorem cutL_len (c : UInt8) (l acc : List UInt8) : (cutL c acc l).length ≤ l.length + 1 := by
  induction l generalizing acc with
  | nil => simp [cutL]
  | cons x r ih =>
    unfold cutL
    split
    · simp [ih]
    · have := ih (acc ++ [x]); simp; omega
theorem cutL_none (c : UInt8) (l acc : List UInt8) (h : c ∉ l) : cutL c acc l = [acc ++ l] := by
  induction l generalizing acc with
  | nil => simp [cutL]
  | cons x r ih =>
    unfold cutL
    rw [if_neg (by rintro rfl; exact h (by simp)), ih _ (fun g => h (by simp [g]))]
    simp
theorem cutL_at (c : UInt8) (l m acc : List UInt8) (h : c ∉ l) : cutL c acc (l ++ c :: m) = (acc ++ l) :: cutL c [] m := by
  induction l generalizing acc with
  | nil => simp [cutL]
  | cons x r ih =>
    show (if x = c then acc :: cutL c [] (r ++ c :: m) else cutL c (acc ++ [x]) (r ++ c :: m)) = _
    rw [if_neg (by rintro rfl; exact h (by simp)), ih _ (fun g => h (by simp [g]))]
    simp
theorem cutL_one (c : UInt8) (l acc : List UInt8) : (cutL c acc l).length = 1 ↔ c ∉ l := by
  induction l generalizing acc with
  | nil => simp [cutL]
  | cons x r ih =>
    unfold cutL
    split
    · rename_i e
      subst e
      have := cutL_pos x r []
      constructor
      · intro h; rw [List.length_cons] at h; omega
      · intro h; exact absurd (List.mem_cons_self) h
    · rename_i e
      rw [ih]
      simp [Ne.symm e]
/-- May a piece be a node? -/
def nodeB (p : List UInt8) : Bool := !p.isEmpty && p.all nB
theorem nB_point : nB 46 = false := by decide
theorem cutL_bad (l acc : List UInt8) (h : acc.all nB = false) : (cutL 46 acc l).all nodeB = false := by
  induction l generalizing acc with
  | nil => simp [cutL, nodeB, h]
  | cons x r ih =>
    unfold cutL
    split
    · simp [nodeB, h]
    · exact ih _ (by rw [List.all_append, h]; rfl)
theorem scan_cut (l acc : List UInt8) (n : Nat) (h : acc.all nB = true) :
    endN (scanN l n acc.length) = ((cutL 46 acc l).all nodeB && decide (n + (cutL 46 acc l).length ≤ 17)) := by
  induction l generalizing acc n with
  | nil =>
    unfold scanN cutL endN
    cases acc with
    | nil => simp [nodeB]
    | cons a t => simp only [List.all_cons, List.all_nil, nodeB, h, List.isEmpty_cons, Bool.not_false, Bool.true_and, List.length_cons, List.length_nil, Bool.and_true]; simp
  | cons x r ih =>
    unfold scanN cutL
    by_cases hx : nB x = true
    · have : x ≠ 46 := by rintro rfl; rw [nB_point] at hx; cases hx
      rw [if_pos hx, if_neg this]
      have := ih (acc ++ [x]) n (by rw [List.all_append, h]; simp [hx])
      rw [← this, List.length_append]; rfl
    · rw [if_neg hx]
      have hx' : nB x = false := by simpa using hx
      by_cases e : x = 46
      · rw [if_pos e]
        cases acc with
        | nil => rw [if_neg (by simp)]; simp [endN, nodeB]
        | cons a t =>
          rw [if_pos ⟨e, by simp⟩]
          have := ih [] (n + 1) rfl
          rw [List.length_nil] at this
          rw [this, List.all_cons]
          have g : nodeB (a :: t) = true := by unfold nodeB; rw [h]; rfl
          rw [g, Bool.true_and, List.length_cons]
          congr 1
          simp only [decide_eq_decide]; omega
      · rw [if_neg e, if_neg (fun g => e g.1), cutL_bad _ _ (by rw [List.all_append]; simp [hx'])]
        rfl
/-- A name is nodes between points. -/
theorem valid_cut (l : List UInt8) : validN l = (decide (l.length ≤ 200) && ((cutL 46 [] l).all nodeB && decide ((cutL 46 [] l).length ≤ 16))) := by
  unfold validN
  congr 1
  have := scan_cut l [] 1 rfl
  rw [List.length_nil] at this
  rw [this]
  congr 1
  simp only [decide_eq_decide]; omega
/-- Texts as a list of bytes. -/
def lst (s : ByteArray) : List UInt8 := s.data.toList
theorem lst_len (s : ByteArray) : (lst s).length = s.size := by simp [lst]
theorem lst_inj {s t : ByteArray} (h : lst s = lst t) : s = t := by
  cases s; cases t; simp only [lst] at h; congr; exact Array.toList_inj.1 h
end Go.Proofs.YtgcapmoflmoobaaRRR
