/- name: the law's alive. -/
import Derived.Test.YtagahoelojfhcaaDoorNmt
import Derived.Test.YtagahoelojfhcaaDoorNco
namespace Go.Proofs.YtagahoelojfhcaaDoor
set_option linter.unusedVariables false
set_option linter.unusedSimpArgs false
open Go.RowKit W
def pat0 : List (List Gl) := [[⟨1, ⟨#[119]⟩, []⟩, ⟨2, .empty, []⟩], [⟨4, ⟨#[104, 105, 106]⟩, []⟩, ⟨1, ⟨#[105, 116, 115]⟩, []⟩]]
theorem comp0 : compA ⟨#[119, 42, 46, 91, 104, 45, 106, 93, 105, 116, 115]⟩ = (0, .ok pat0) := by kernel_rfl
theorem val0 : validN (lst ⟨#[119, 101, 98, 46, 104, 105, 116, 115]⟩) = true := by kernel_rfl
theorem mat0 : matB pat0 ⟨#[119, 101, 98, 46, 104, 105, 116, 115]⟩ = true := by kernel_rfl
theorem mat1 : matB pat0 ⟨#[119, 101, 98, 46, 98, 105, 116, 115]⟩ = false := by kernel_rfl
theorem ptw0 : PtW pat0 := by
  refine ⟨by decide, fun gs h => ?_, fun gs h g hg => ?_⟩
  · simp only [pat0, List.mem_cons, List.not_mem_nil, or_false] at h
    rcases h with rfl | rfl <;> decide
  · simp only [pat0, List.mem_cons, List.not_mem_nil, or_false] at h
    rcases h with rfl | rfl
    all_goals
      simp only [List.mem_cons, List.not_mem_nil, or_false] at hg
      rcases hg with rfl | rfl
      all_goals exact ⟨by decide, by decide, fun x hx => by cases hx⟩
set_option maxRecDepth 100000 in
set_option maxHeartbeats 4000000 in
theorem alive_spec (m : Int) (w : World) (gm : GM m w) : Calls Tryd.prog 10 #[] w fun e w' => e = .returned (.bool true) ∧ Below w.heap.size w w' := by
  have kc := comp_spec ⟨#[119, 42, 46, 91, 104, 45, 106, 93, 105, 116, 115]⟩ w
  rw [comp0] at kc
  have kv := fun w => valid_spec ⟨#[119, 101, 98, 46, 104, 105, 116, 115]⟩ w
  rw [show validN (ByteArray.data ⟨#[119, 101, 98, 46, 104, 105, 116, 115]⟩).toList = true from val0] at kv
  have k1 := fun a c w ha gm => match_spec pat0 ptw0 ⟨#[119, 101, 98, 46, 104, 105, 116, 115]⟩ m a c w ha gm
  have k2 := fun a c w ha gm => match_spec pat0 ptw0 ⟨#[119, 101, 98, 46, 98, 105, 116, 115]⟩ m a c w ha gm
  rw [mat0] at k1
  rw [mat1] at k2
  have GMH := hide gm
  clear gm
  go_enter Tryd.func10, Tryd.ntmps10
  go_wp2_with fail
  refine Calls.mono kc ?_
  rintro e w1 ⟨b1, a, c, he, ty, lc⟩
  have HI := hide (ty.is)
  have B1 := hide b1
  have GM1 := hide (GMH.out.later b1)
  simp only at he
  subst he
  rw [show pat0.length = 2 from rfl] at k1 k2 ⊢
  clear b1 ty lc kc
  go_wp2_with (go_at_call 11; refine (kv _).mono ?_; rintro e w' ⟨rfl, rfl⟩)
  have BB : Hid (Below w1.heap.size w1 (w1.alloc (.cells #[.slice a 2 c] 27))) := (Below.refl _ _).alloc (Nat.le_refl _) _
  refine Calls.mono (k1 a c _ (HI.out.later BB.out) (GM1.out.later BB.out)) ?_
  rintro e w2 ⟨rfl, b2⟩
  have c2 : w2.cell? ⟨w1.heap.size, 0, none⟩ = some (.slice a 2 c) := (b2.cell (p := ⟨w1.heap.size, 0, none⟩) (by simp)).trans (by simp [go_sem])
  have B2 : Hid (Below w1.heap.size w1 w2) := BB.out.trans (b2.mono (by simp))
  clear b2
  go_wp2_with fail
  refine Calls.mono (k2 a c _ (HI.out.later B2.out) (GM1.out.later B2.out)) ?_
  rintro e w3 ⟨rfl, b3⟩
  have B3 := hide (B1.out.trans ((B2.out.trans (b3.mono B2.out.size)).mono B1.out.size))
  clear b3
  go_wp2_with fail
  go_returns
  exact ⟨rfl, B3.out⟩
end Go.Proofs.YtagahoelojfhcaaDoor
