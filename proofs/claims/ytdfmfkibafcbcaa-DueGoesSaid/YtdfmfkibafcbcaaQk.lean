/- due: the methods of the heap's list. -/
import Derived.Test.YtdfmfkibafcbcaaQm
namespace Go.Proofs.Ytdfmfkibafcbcaa
set_option linter.unusedVariables false
set_option linter.unusedSimpArgs false
open Go.RowKit W Go.Maps
def cmpI (a b : Int) : Int := if a < b then -1 else if b < a then 1 else 0
def cmpS (a b : ByteArray) : Int := if ltB a b = true then -1 else if a = b then 0 else 1
def ordI (a b : En) : Int := if a.2 = b.2 then cmpS a.1 b.1 else cmpI a.2 b.2
theorem ordI_lt (a b : En) : decide (ordI a b < 0) = ltE a b := by
  unfold ordI cmpS cmpI
  rw [Bool.eq_iff_iff, decide_eq_true_eq, ltE_iff]
  split
  · rename_i h
    split
    · rename_i k; simp [h, k]
    · rename_i k
      have k : ltB a.1 b.1 = false := by simpa using k
      split <;> simp [h, k]
  · rename_i h
    split
    · rename_i k; simp [h, k]
    · rename_i k
      split <;> simp [h, k]
abbrev enV (e : En) : Value := .agg #[.string e.1, .int .i64 e.2]
set_option maxRecDepth 100000 in
theorem cmpI_spec (a b : Int) (w : World) : CalcN 41 #[.int .i64 a, .int .i64 b] w (.int .i64 (cmpI a b)) := by
  have kn := fun (x : Int) (w : World) => (show CalcN 53 #[.int .i64 x] w (.bool false) from by
    go_enter Try.func53, Try.ntmps53
    go_wp2
    go_returns
    exact ⟨rfl, rfl⟩)
  unfold cmpI
  by_cases h : a < b
  · rw [if_pos h]
    have d := decide_eq_true h
    go_enter Try.func41, Try.ntmps41
    go_wp2_with (go_at_call 53; refine (kn _ _).mono ?_; rintro e w' ⟨rfl, rfl⟩)
    go_returns
    exact ⟨rfl, rfl⟩
  · rw [if_neg h]
    have d := decide_eq_false h
    by_cases k : b < a
    · rw [if_pos k]
      have d2 := decide_eq_true k
      go_enter Try.func41, Try.ntmps41
      go_wp2_with (go_at_call 53; refine (kn _ _).mono ?_; rintro e w' ⟨rfl, rfl⟩)
      go_returns
      exact ⟨rfl, rfl⟩
    · rw [if_neg k]
      have d2 := decide_eq_false k
      go_enter Try.func41, Try.ntmps41
      go_wp2_with (go_at_call 53; refine (kn _ _).mono ?_; rintro e w' ⟨rfl, rfl⟩)
      go_returns
      exact ⟨rfl, rfl⟩
set_option maxRecDepth 100000 in
theorem cmpS_spec (a b : ByteArray) (w : World) : CalcN 42 #[.string a, .string b] w (.int .i64 (cmpS a b)) := by
  have kn := fun (x : ByteArray) (w : World) => (show CalcN 54 #[.string x] w (.bool false) from by
    go_enter Try.func54, Try.ntmps54
    go_wp2
    go_returns
    exact ⟨rfl, rfl⟩)
  unfold cmpS
  by_cases h : ltB a b = true
  · rw [if_pos h]
    unfold ltB at h
    go_enter Try.func42, Try.ntmps42
    go_wp2_with (go_at_call 54; refine (kn _ _).mono ?_; rintro e w' ⟨rfl, rfl⟩)
    go_returns
    exact ⟨rfl, rfl⟩
  · rw [if_neg h]
    have h : Op.bytesLess a.toList b.toList = false := by simpa [ltB] using h
    by_cases k : a = b
    · subst k
      rw [if_pos rfl]
      go_enter Try.func42, Try.ntmps42
      go_wp2_with (go_at_call 54; refine (kn _ _).mono ?_; rintro e w' ⟨rfl, rfl⟩)
      go_returns
      exact ⟨rfl, rfl⟩
    · rw [if_neg k]
      have k : (a.toList == b.toList) = false := by
        cases q : a.toList == b.toList
        · rfl
        · exact absurd (toL_inj (by simpa using q)) k
      go_enter Try.func42, Try.ntmps42
      go_wp2_with (go_at_call 54; refine (kn _ _).mono ?_; rintro e w' ⟨rfl, rfl⟩)
      go_returns
      exact ⟨rfl, rfl⟩
end Go.Proofs.Ytdfmfkibafcbcaa
