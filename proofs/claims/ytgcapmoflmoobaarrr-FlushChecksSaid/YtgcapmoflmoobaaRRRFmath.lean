/- flush: settings: plain lists. -/
import Derived.Test.YtgcapmoflmoobaaRRRCutl
namespace Go.Proofs.YtgcapmoflmoobaaRRR
set_option linter.unusedVariables false
/-- Rising strictly, none below m. -/
def riseB (m : Int) : List Int → Bool
  | [] => true
  | x :: r => decide (m ≤ x) && riseB (x + 1) r
/-- The definition's percents. -/
def pctR (b : Int) : List Int → Bool
  | [] => true
  | x :: r => decide (x ≠ 0) && decide (x ≤ 100000000) && decide (-100000000 ≤ x) && decide (b ≤ x) && pctR (x + 1) r
def lastO (xs : List Int) : Bool := match xs.getLast? with | none => true | some x => decide (x ≤ 100000000)
theorem rise_all : ∀ (xs : List Int) (b : Int), riseB b xs = true → ∀ y ∈ xs, b ≤ y
  | [], _, _, y, hy => by cases hy
  | x :: r, b, h, y, hy => by
    unfold riseB at h
    simp only [Bool.and_eq_true, decide_eq_true_eq] at h
    rcases List.mem_cons.1 hy with rfl | hy
    · exact h.1
    · have := rise_all r (x + 1) h.2 y hy; omega
theorem pct_eq : ∀ (xs : List Int) (b : Int), -100000000 ≤ b → pctR b xs = (riseB b xs && !decide (0 ∈ xs) && lastO xs)
  | [], _, _ => rfl
  | x :: r, b, hb => by
    unfold pctR riseB
    by_cases h : b ≤ x
    · have ih := pct_eq r (x + 1) (by omega)
      rw [ih, decide_eq_true h, decide_eq_true (show -100000000 ≤ x by omega)]
      cases hr : riseB (x + 1) r with
      | false => simp
      | true =>
        have al := rise_all r _ hr
        have hl : lastO (x :: r) = (decide (x ≤ 100000000) && lastO r) := by
          cases r with
          | nil => simp [lastO]
          | cons y t =>
            have e : (x :: y :: t).getLast? = (y :: t).getLast? := by simp
            unfold lastO
            rw [e]
            cases hg : (y :: t).getLast? with
            | none => simp at hg
            | some z =>
              have zm : z ∈ y :: t := List.mem_of_getLast? hg
              have := al z zm
              simp only
              rw [Bool.eq_iff_iff]
              simp only [Bool.and_eq_true, decide_eq_true_eq]
              omega
        rw [hl, Bool.eq_iff_iff]
        simp only [Bool.and_eq_true, Bool.not_eq_true', decide_eq_true_eq, decide_eq_false_iff_not, List.mem_cons, not_or, Bool.true_and, Bool.and_true]
        constructor
        · rintro ⟨⟨a, b⟩, c, d⟩; exact ⟨⟨fun e => a e.symm, c⟩, b, d⟩
        · rintro ⟨⟨a, c⟩, b, d⟩; exact ⟨⟨fun e => a e.symm, b⟩, c, d⟩
    · rw [decide_eq_false h]; simp
/-- May the settings be? -/
def flB (p : List UInt8) (xs ys : List Int) : Bool := (p.isEmpty || validN p) && decide (xs.length ≤ 16) && decide (ys.length ≤ 32) && pctR (-100000000) xs && riseB 0 ys
def flE (p : List UInt8) (xs ys : List Int) : Int := if flB p xs ys = true then 0 else 100
end Go.Proofs.YtgcapmoflmoobaaRRR
