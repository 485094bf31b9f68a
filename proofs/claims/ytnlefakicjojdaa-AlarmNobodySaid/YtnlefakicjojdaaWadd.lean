/- wide: Add. -/
import Derived.Test.YtnlefakicjojdaaWsum
namespace Go.Proofs.Ytnlefakicjojdaa
set_option linter.unusedVariables false
open Go.RowKit W
set_option maxHeartbeats 1000000 in
theorem add_spec (a b c d : Int) (i : IsW (a, b)) (j : IsW (c, d)) (w : World) :
    Calls Try.prog 64 #[.agg #[.int .i64 a, .int .u64 b], .agg #[.int .i64 c, .int .u64 d]] w fun e w' => e = sumRes (V a b + V c d) ∧ Below w.heap.size w w' := by
  have e0 : sumV [(a, b), (c, d)] = V a b + V c d := by simp [sumV]
  rw [← e0]
  obtain ⟨t, ht⟩ : ∃ t, t = sumV [(a, b), (c, d)] := ⟨_, rfl⟩
  rw [← ht]
  have T : Hid (t = sumV [(a, b), (c, d)]) := ht
  obtain ⟨r1, hr1⟩ : ∃ r, r = hi (resV t) := ⟨_, rfl⟩
  obtain ⟨r0, hr0⟩ : ∃ r, r = lo (resV t) := ⟨_, rfl⟩
  obtain ⟨re, hre⟩ : ∃ r, r = resE t := ⟨_, rfl⟩
  unfold sumRes
  rw [← hr1, ← hr0, ← hre]
  have R1 : Hid (r1 = hi (resV t)) := hr1
  have R0 : Hid (r0 = lo (resV t)) := hr0
  have RE : Hid (re = resE t) := hre
  clear e0 ht hr1 hr0 hre
  go_enter Try.func64, Try.ntmps64
  go_wp2_with fail
  refine (sum_some (w.heap.size + 1 + 1 + 1) 0 2 2 [(a, b), (c, d)] _ (by simp) (by omega) ⟨rfl, ?_, ?_, ?_⟩).mono ?_
  · intro j hj
    obtain rfl | rfl : j = 0 ∨ j = 1 := by omega
    all_goals simp [go_sem]
  · intro j hj
    obtain rfl | rfl : j = 0 ∨ j = 1 := by omega
    all_goals simp [go_sem]
  · intro p hp
    simp only [List.mem_cons, List.not_mem_nil, or_false] at hp
    rcases hp with rfl | rfl <;> assumption
  · rintro e w1 ⟨he, hb⟩
    rw [← T.out] at he
    unfold sumRes at he
    rw [← R1.out, ← R0.out, ← RE.out] at he
    rw [he]
    obtain ⟨khb0, fhb0, zhb0⟩ := live (.int .i64 0) hb (w.heap.size + 1 + 1) 0 (by simp; try omega) (by simp [go_sem]) (by simp [go_sem]); obtain ⟨khb1, fhb1, zhb1⟩ := live (.int .u64 0) hb (w.heap.size + 1 + 1) 1 (by simp; try omega) (by simp [go_sem]) (by simp [go_sem])
    have B0 : Below w.heap.size w w1 := Below.trans (by go_grown) (hb.mono (by simp; omega))
    go_wp2
    refine bodyPost_ret (by simp [results, Try.results64, go_sem, khb0, khb1]; try rfl) rfl ?_
    exact ⟨rfl, by go_grown⟩
end Go.Proofs.Ytnlefakicjojdaa
