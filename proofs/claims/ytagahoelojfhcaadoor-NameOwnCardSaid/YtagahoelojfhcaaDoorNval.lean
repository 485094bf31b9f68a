/- name: the bytes of names; Valid. -/
import Derived.Test.YtagahoelojfhcaaDoorHid
import Derived.Test.YtagahoelojfhcaaDoorWbase
namespace Go.Proofs.YtagahoelojfhcaaDoor
set_option linter.unusedVariables false
set_option linter.unusedSimpArgs false
open Go.RowKit W
/-- The family of a byte: 'A', 'a', '0' or 0. -/
def famI (x : Int) : Int := if 65 ≤ x ∧ x ≤ 90 then 65 else if 97 ≤ x ∧ x ≤ 122 then 97 else if 48 ≤ x ∧ x ≤ 57 then 48 else 0
def clsI (x : Int) : Bool := decide (x = 95) || decide (famI x ≠ 0)
def namI (x : Int) : Bool := clsI x || decide (x = 45)
def nB (c : UInt8) : Bool := namI (c.toNat : Int)
set_option maxRecDepth 100000 in
set_option maxHeartbeats 4000000 in
theorem family_spec (x : Int) (h0 : 0 ≤ x) (h1 : x < 256) (w : World) : CalcN 41 #[.int .u8 x] w (.int .u8 (famI x)) := by
  by_cases a : 65 ≤ x ∧ x ≤ 90
  · have e : famI x = 65 := if_pos a
    rw [e]
    obtain ⟨a1, a2⟩ := a
    clear e
    go_enter Tryd.func41, Tryd.ntmps41
    go_wp2
    go_returns
    exact ⟨rfl, rfl⟩
  by_cases b : 97 ≤ x ∧ x ≤ 122
  · have e : famI x = 97 := by unfold famI; rw [if_neg a, if_pos b]
    rw [e]
    obtain ⟨b1, b2⟩ := b
    clear e a
    go_enter Tryd.func41, Tryd.ntmps41
    go_wp2
    go_returns
    exact ⟨rfl, rfl⟩
  by_cases c : 48 ≤ x ∧ x ≤ 57
  · have e : famI x = 48 := by unfold famI; rw [if_neg a, if_neg b, if_pos c]
    rw [e]
    obtain ⟨c1, c2⟩ := c
    clear e a b
    go_enter Tryd.func41, Tryd.ntmps41
    go_wp2
    go_returns
    exact ⟨rfl, rfl⟩
  · have e : famI x = 0 := by unfold famI; rw [if_neg a, if_neg b, if_neg c]
    rw [e]
    clear e
    have r : x < 48 ∨ (57 < x ∧ x < 65) ∨ (90 < x ∧ x < 97) ∨ 122 < x := by omega
    clear a b c
    rcases r with r | ⟨r, r'⟩ | ⟨r, r'⟩ | r
    all_goals
      go_enter Tryd.func41, Tryd.ntmps41
      go_wp2
      go_returns
      exact ⟨rfl, rfl⟩
set_option maxRecDepth 100000 in
set_option maxHeartbeats 4000000 in
theorem class_spec (x : Int) (h0 : 0 ≤ x) (h1 : x < 256) (w : World) : CalcN 27 #[.int .u8 x] w (.bool (clsI x)) := by
  have k := fun w' => family_spec x h0 h1 w'
  unfold clsI
  obtain ⟨f, hf⟩ : ∃ f, f = famI x := ⟨_, rfl⟩
  rw [← hf] at k ⊢
  clear hf
  by_cases a : x = 95
  · rw [decide_eq_true a]
    go_enter Tryd.func27, Tryd.ntmps27
    go_wp2_with (go_at_call 41; refine (k _).mono ?_; rintro e w1 ⟨rfl, rfl⟩)
    go_returns
    exact ⟨by simp, rfl⟩
  · rw [decide_eq_false a]
    by_cases b : f = 0
    · subst b
      go_enter Tryd.func27, Tryd.ntmps27
      go_wp2_with (go_at_call 41; refine (k _).mono ?_; rintro e w1 ⟨rfl, rfl⟩)
      go_returns
      exact ⟨by simp [a], rfl⟩
    · have hb : (f == 0) = false := by simp [b]
      have hb2 : (f != 0) = true := by simp [b]
      have hb3 : decide (f ≠ 0) = true := decide_eq_true b
      rw [hb3]
      go_enter Tryd.func27, Tryd.ntmps27
      go_wp2_with (go_at_call 41; refine (k _).mono ?_; rintro e w1 ⟨rfl, rfl⟩)
      go_returns
      exact ⟨by simp [hb, hb2], rfl⟩
set_option maxRecDepth 100000 in
set_option maxHeartbeats 4000000 in
theorem nbyte_spec (x : Int) (h0 : 0 ≤ x) (h1 : x < 256) (w : World) : CalcN 18 #[.int .u8 x] w (.bool (namI x)) := by
  have k := fun w' => class_spec x h0 h1 w'
  unfold namI
  obtain ⟨f, hf⟩ : ∃ f, f = clsI x := ⟨_, rfl⟩
  rw [← hf] at k ⊢
  clear hf
  cases f
  · by_cases a : x = 45
    · subst a
      go_enter Tryd.func18, Tryd.ntmps18
      go_wp2_with (go_at_call 27; refine (k _).mono ?_; rintro e w1 ⟨rfl, rfl⟩)
      go_returns
      exact ⟨by simp, rfl⟩
    · go_enter Tryd.func18, Tryd.ntmps18
      go_wp2_with (go_at_call 27; refine (k _).mono ?_; rintro e w1 ⟨rfl, rfl⟩)
      go_returns
      exact ⟨by simp [a], rfl⟩
  · go_enter Tryd.func18, Tryd.ntmps18
    go_wp2_with (go_at_call 27; refine (k _).mono ?_; rintro e w1 ⟨rfl, rfl⟩)
    go_returns
    exact ⟨by simp, rfl⟩
end Go.Proofs.YtagahoelojfhcaaDoor
