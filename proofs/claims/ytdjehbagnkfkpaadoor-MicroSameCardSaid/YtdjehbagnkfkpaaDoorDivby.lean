/- wide.divideBy. -/
import Derived.Test.YtdjehbagnkfkpaaDoorDiv64b
namespace Go.Proofs.YtdjehbagnkfkpaaDoor
set_option linter.unusedVariables false
open Go.RowKit W
set_option maxHeartbeats 1000000 in
theorem divideBy_walk (m1 m0 d q1 q0 r1 r0 : Int)
    (c1 : ∀ w, Calls Tryd.prog 85 #[.int .u64 0, .int .u64 m1, .int .u64 d] w fun e w' => e = .returned (.tuple #[.int .u64 q1, .int .u64 r1]) ∧ Below w.heap.size w w')
    (c2 : ∀ w, Calls Tryd.prog 85 #[.int .u64 r1, .int .u64 m0, .int .u64 d] w fun e w' => e = .returned (.tuple #[.int .u64 q0, .int .u64 r0]) ∧ Below w.heap.size w w') (w : World) :
    Calls Tryd.prog 68 #[.agg #[.int .u64 m0, .int .u64 m1], .int .u64 d] w fun e w' => e = .returned (.tuple #[.agg #[.int .u64 q0, .int .u64 q1], .int .u64 r0]) ∧ Below w.heap.size w w' := by
  go_enter Tryd.func68, Tryd.ntmps68
  go_wp2_with fail
  refine (c1 _).mono ?_
  rintro e w1 ⟨rfl, hb⟩
  obtain ⟨khb0, fhb0, zhb0⟩ := live (.int .u64 m0) hb (w.heap.size) 0 (by simp; try omega) (by simp [go_sem]) (by simp [go_sem]); obtain ⟨khb1, fhb1, zhb1⟩ := live (.int .u64 0) hb (w.heap.size + 1) 0 (by simp; try omega) (by simp [go_sem]) (by simp [go_sem]); obtain ⟨khb2, fhb2, zhb2⟩ := live (.int .u64 0) hb (w.heap.size + 1) 1 (by simp; try omega) (by simp [go_sem]) (by simp [go_sem]); obtain ⟨khb3, fhb3, zhb3⟩ := live (.int .u64 0) hb (w.heap.size + 1 + 1) 0 (by simp; try omega) (by simp [go_sem]) (by simp [go_sem]); obtain ⟨khb4, fhb4, zhb4⟩ := live (.int .u64 0) hb (w.heap.size + 1 + 1) 1 (by simp; try omega) (by simp [go_sem]) (by simp [go_sem])
  have B0 : Below w.heap.size w w1 := Below.trans (by go_grown) (hb.mono (by simp; omega))
  clear hb c1
  go_wp2_with fail
  refine (c2 _).mono ?_
  rintro e w2 ⟨rfl, hc⟩
  obtain ⟨k0, f0, z0⟩ := live (.int .u64 0) hc (w.heap.size + 1) 0 (by simp; omega) (by simp [go_sem, khb1]) (by simp [go_sem, fhb1])
  obtain ⟨k1, f1, z1⟩ := live (.int .u64 0) hc (w.heap.size + 1) 1 (by simp; omega) (by simp [go_sem, khb2]) (by simp [go_sem, fhb2])
  obtain ⟨k2, f2, z2⟩ := live (.int .u64 0) hc (w.heap.size + 1 + 1) 0 (by simp; omega) (by simp [go_sem, khb3]) (by simp [go_sem, fhb3])
  obtain ⟨k3, f3, z3⟩ := live (.int .u64 q1) hc (w.heap.size + 1 + 1) 1 (by simp; omega) (by simp [go_sem, khb4]) (by simp [go_sem, fhb4])
  have B1 : Below w.heap.size w w2 := Below.trans (by go_grown) (hc.mono (by simp; omega))
  clear hc
  go_wp2_with fail
  refine bodyPost_ret (by simp [results, Tryd.results68, go_sem, k0, k1]; try rfl) rfl ?_
  exact ⟨rfl, by go_grown⟩
theorem two_words {a1 a0 d : Int} (hd : 0 < d) (i1 : IsLo a1) (i0 : IsLo a0) :
    a1 / d = hi (V a1 a0 / d) ∧ V (a1 % d) a0 / d = lo (V a1 a0 / d) ∧ V (a1 % d) a0 % d = V a1 a0 % d := by
  obtain ⟨_, _⟩ := i1; obtain ⟨_, _⟩ := i0
  have e := Int.mul_ediv_add_emod a1 d
  have r0 := Int.emod_nonneg a1 (show d ≠ 0 by omega)
  have r1 := Int.emod_lt_of_pos a1 hd
  have q0 : 0 ≤ V (a1 % d) a0 / d := Int.ediv_nonneg (by unfold V; omega) (by omega)
  have q1 : V (a1 % d) a0 / d < 18446744073709551616 := Int.ediv_lt_of_lt_mul hd (by unfold V; omega)
  have s : V a1 a0 = V (a1 % d) a0 + d * (a1 / d * 18446744073709551616) := by
    rw [← Int.mul_assoc]; unfold V; omega
  have dd : V a1 a0 / d = a1 / d * 18446744073709551616 + V (a1 % d) a0 / d := by rw [s, Int.add_mul_ediv_left _ _ (by omega)]; omega
  refine ⟨by rw [dd]; unfold hi; omega, by rw [dd]; unfold lo; omega, ?_⟩
  rw [s, Int.add_mul_emod_self_left]
theorem divideBy_spec (a1 a0 d : Int) (i1 : IsLo a1) (i0 : IsLo a0) (id : IsLo d) (n : d ≠ 0) (w : World) :
    Calls Tryd.prog 68 #[.agg #[.int .u64 a0, .int .u64 a1], .int .u64 d] w fun e w' => e = .returned (.tuple #[.agg #[.int .u64 (lo (V a1 a0 / d)), .int .u64 (hi (V a1 a0 / d))], .int .u64 (V a1 a0 % d)]) ∧ Below w.heap.size w w' := by
  have hd : 0 < d := by have := id.a; omega
  obtain ⟨e1, e2, e3⟩ := two_words hd i1 i0
  have r0 := Int.emod_nonneg a1 (show d ≠ 0 by omega)
  have r1 := Int.emod_lt_of_pos a1 hd
  rw [← e1, ← e2, ← e3]
  have c1 := div64_spec 0 a1 d isLo_0 i1 id hd
  rw [show V 0 a1 = a1 by unfold V; omega] at c1
  have c2 := div64_spec (a1 % d) a0 d ⟨r0, by have := id.b; omega⟩ i0 id r1
  exact divideBy_walk a1 a0 d _ _ _ _ c1 c2 w
end Go.Proofs.YtdjehbagnkfkpaaDoor
