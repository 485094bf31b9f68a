/- The reference of layer 2: Plus, Amount, Small, Fits. -/
import Derived.Test.YtdjehbagnkfkpaaDoorWbase
namespace Go.Proofs.YtdjehbagnkfkpaaDoor
set_option linter.unusedVariables false
open Go.RowKit W
/-- An amount as the reference keeps it: two words and whether it is over. -/
abbrev magV (h l : Int) (o : Bool) : Value := .agg #[.int .u64 h, .int .u64 l, .bool o]
theorem ret_mag {h l h' l' : Int} {o o' : Bool} (e1 : h = h') (e2 : l = l') (e3 : o = o') : Ending.returned (magV h l o) = .returned (magV h' l' o') := by rw [e1, e2, e3]
def plusO (s : Int) (a b : Bool) : Bool := a || b || decide (340282366920938463463374607431768211456 ≤ s)
set_option maxHeartbeats 4000000 in
theorem plus_spec (a1 a0 b1 b0 : Int) (ao bo : Bool) (i1 : IsLo a1) (i0 : IsLo a0) (j1 : IsLo b1) (j0 : IsLo b0) (w : World) :
    Calls Tryd.prog 47 #[.agg #[.int .u64 a1, .int .u64 a0, .bool ao], .agg #[.int .u64 b1, .int .u64 b0, .bool bo]] w
      fun e w' => e = .returned (magV (u (hi (V a1 a0 + V b1 b0))) (lo (V a1 a0 + V b1 b0)) (plusO (V a1 a0 + V b1 b0) ao bo)) ∧ Below w.heap.size w w' := by
  obtain ⟨l, hl⟩ : ∃ l, l = (a0 + b0) % 18446744073709551616 := ⟨_, rfl⟩
  obtain ⟨h, hh⟩ : ∃ h, h = (a1 + b1) % 18446744073709551616 := ⟨_, rfl⟩
  obtain ⟨g, hg⟩ : ∃ g, g = (h + 1) % 18446744073709551616 := ⟨_, rfl⟩
  have e1 : IntKind.u64.wrap (a0 + b0) = l := by rw [IntKind.wrap_u64, hl]
  have e2 : IntKind.u64.wrap (a1 + b1) = h := by rw [IntKind.wrap_u64, hh]
  have e3 : IntKind.u64.wrap (h + 1) = g := by rw [IntKind.wrap_u64, hg]
  have e4 : IntKind.u64.wrap h = h := by rw [IntKind.wrap_u64, hh]; omega
  have e4' : IntKind.u64.wrap (h + 0) = h := by rw [Int.add_zero]; exact e4
  have HL : Hid (l = (a0 + b0) % 18446744073709551616) := hl
  have HH : Hid (h = (a1 + b1) % 18446744073709551616) := hh
  have HG : Hid (g = (h + 1) % 18446744073709551616) := hg
  clear hl hh hg
  cases ao <;> cases bo
  all_goals
    go_enter Tryd.func47, Tryd.ntmps47
    go_wp2
    all_goals
      refine bodyPost_ret (by simp [results, Tryd.results47, go_sem]; try rfl) rfl ?_
      have x1 := HL.out
      have x2 := HH.out
      have x3 := HG.out
      obtain ⟨_, _⟩ := i1
      obtain ⟨_, _⟩ := i0
      obtain ⟨_, _⟩ := j1
      obtain ⟨_, _⟩ := j0
      refine ⟨ret_mag ?_ ?_ ?_, by go_grown⟩
      · unfold u hi V; omega
      · unfold lo V; omega
      · unfold plusO V; simp; try omega
end Go.Proofs.YtdjehbagnkfkpaaDoor
