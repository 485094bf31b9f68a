/- name: the reference's classByte, globMay. -/
import Derived.Test.YtagahoelojfhcaaDoorNmb
import Derived.Test.YtagahoelojfhcaaDoorRvalid
namespace Go.Proofs.YtagahoelojfhcaaDoor
set_option linter.unusedVariables false
set_option linter.unusedSimpArgs false
open Go.RowKit W
theorem cls_sort (x : Int) : clsI x = (decide (0 < sortI x) || decide (x = 95)) := by
  unfold clsI famI sortI
  rw [Bool.eq_iff_iff]
  simp only [Bool.or_eq_true, decide_eq_true_eq]
  (repeat' split) <;> omega
set_option maxRecDepth 100000 in
set_option maxHeartbeats 4000000 in
theorem rclb_spec (x : Int) (h0 : 0 ≤ x) (h1 : x < 256) (w : World) : CalcN 49 #[.int .u8 x] w (.bool (clsI x)) := by
  have k := fun w' => rsort_spec x h0 h1 w'
  rw [cls_sort]
  obtain ⟨f, hf⟩ : ∃ f, f = sortI x := ⟨_, rfl⟩
  rw [← hf] at k ⊢
  clear hf
  go_enter Tryd.func49, Tryd.ntmps49
  go_wp2_with (go_at_call 46; refine (k _).mono ?_; rintro e w1 ⟨rfl, rfl⟩)
  all_goals
    go_returns
    refine ⟨ret_bool ?_, rfl⟩
    clear k
    first | (simp_all; done) | rfl | (rw [Bool.eq_iff_iff]; simp; omega)
theorem rclb_at (s : ByteArray) (j : Nat) (t : Bool) (ht : cB (nx s j) = t) (w : World) : CalcN 49 #[.int .u8 (nx s j).toNat] w (.bool t) := by
  have := rclb_spec ((nx s j).toNat : Int) (nx_int s j).1 (nx_int s j).2 w
  rw [← ht]; exact this
end Go.Proofs.YtagahoelojfhcaaDoor
