/- wide's limbs: minus, amount, signed. -/
import Derived.Test.YthcgkpmlfbjagaaWbits
namespace Go.Proofs.Ythcgkpmlfbjagaa
set_option linter.unusedVariables false
open Go.RowKit W
set_option maxHeartbeats 400000 in
theorem minus_spec (a1 a0 b1 b0 : Int) (i0 : IsLo a0) (i1 : IsLo a1) (j0 : IsLo b0) (j1 : IsLo b1) (w : World) :
    Calls Try.prog 69 #[.agg #[.int .u64 a0, .int .u64 a1], .agg #[.int .u64 b0, .int .u64 b1]] w
      fun e w' => e = .returned (.agg #[.int .u64 (lo (V a1 a0 - V b1 b0)), .int .u64 (u (hi (V a1 a0 - V b1 b0)))]) ∧ Below w.heap.size w w' := by
  have s1 := run_subB a0 b0 0 i0 j0 isBit_0
  have s2 := run_subB a1 b1 (subB a0 b0 0) i1 j1 (isBit_subB _ _ _)
  rw [← minus_lo, ← minus_hi i0 j0]
  go_enter Try.func69, Try.ntmps69
  go_wp2
  go_returns
  exact ⟨rfl, by go_grown⟩
set_option maxHeartbeats 400000 in
theorem amount_spec (ah al : Int) (i : IsLo al) (j : IsHi ah) (w : World) :
    Calls Try.prog 48 #[.agg #[.int .i64 ah, .int .u64 al]] w
      fun e w' => e = .returned (.tuple #[.bool (decide (ah < 0)), .agg #[.int .u64 (lo (ab (V ah al))), .int .u64 (hi (ab (V ah al)))]]) ∧ Below w.heap.size w w' := by
  have hu : IntKind.u64.wrap ah = u ah := by rw [IntKind.wrap_u64]; rfl
  by_cases n : ah < 0
  · have c := minus_spec 0 0 (u ah) al isLo_0 isLo_0 i (isLo_u ah)
    rw [ab_lo_neg i j n, ab_hi_neg i j n] at c
    have n' : ¬ 0 ≤ ah := by omega
    go_enter Try.func48, Try.ntmps48
    go_wp2_with (go_at_call 69; refine (c _).mono ?_; rintro e w1 ⟨rfl, hb⟩; obtain ⟨hc, hf, hz⟩ := bcell hb; simp only [World.size_alloc] at hc hf hz)
    have B0 : Below w.heap.size w w1 := Below.trans (by go_grown) (hb.mono (by simp; omega))
    refine bodyPost_ret (by simp [results, Try.results48, go_sem, hc]; try rfl) rfl ?_
    exact ⟨by simp [n], by go_grown⟩
  · have n' : 0 ≤ ah := by omega
    rw [← ab_lo_pos i n', ← ab_hi_pos i j n']
    go_enter Try.func48, Try.ntmps48
    go_wp2
    go_region
    all_goals go_wp2
    go_returns
    exact ⟨by simp [n'], by go_grown⟩
set_option maxHeartbeats 400000 in
theorem signed_f (m1 m0 : Int) (i : IsLo m1) (j : IsLo m0) (w : World) :
    Calls Try.prog 50 #[.bool false, .agg #[.int .u64 m0, .int .u64 m1]] w
      fun e w' => e = .returned (.tuple #[.agg #[.int .i64 (hi (resV (V m1 m0))), .int .u64 (lo (resV (V m1 m0)))], .int .i64 (resE (V m1 m0))]) ∧ Below w.heap.size w w' := by
  have wm := wrap_s i
  obtain ⟨q1, hq1⟩ : ∃ q, q = s m1 := ⟨_, rfl⟩
  rw [← hq1] at wm
  have H2 : Hid (q1 = s m1) := hq1
  clear hq1
  go_enter Try.func50, Try.ntmps50
  go_wp2
  · go_returns
    have e := H2.out
    have f := pos_fits i j (show 0 ≤ s m1 by omega)
    exact ⟨ret_res f.1 (by omega) (by omega), by go_grown⟩
  · go_returns
    have e := H2.out
    have f := pos_fits i j (show 0 ≤ s m1 by omega)
    exact ⟨ret_res f.1 (by omega) (by omega), by go_grown⟩
  · go_returns
    have e := H2.out
    exact ⟨ret_over (pos_over i j (by omega)), by go_grown⟩
  · go_returns
    have e := H2.out
    have f := pos_fits i j (show 0 ≤ s m1 by omega)
    exact ⟨ret_res f.1 (by omega) (by omega), by go_grown⟩
set_option maxHeartbeats 2000000 in
theorem signed_t (m1 m0 : Int) (i : IsLo m1) (j : IsLo m0) (w : World) :
    Calls Try.prog 50 #[.bool true, .agg #[.int .u64 m0, .int .u64 m1]] w
      fun e w' => e = .returned (.tuple #[.agg #[.int .i64 (hi (resV (-(V m1 m0)))), .int .u64 (lo (resV (-(V m1 m0))))], .int .i64 (resE (-(V m1 m0)))]) ∧ Below w.heap.size w w' := by
  have c := minus_spec 0 0 m1 m0 isLo_0 isLo_0 j i
  have wm := wrap_s (isLo_u (hi (V 0 0 - V m1 m0)))
  obtain ⟨p0, hp0⟩ : ∃ p, p = lo (V 0 0 - V m1 m0) := ⟨_, rfl⟩
  obtain ⟨p1, hp1⟩ : ∃ p, p = u (hi (V 0 0 - V m1 m0)) := ⟨_, rfl⟩
  rw [← hp1, ← hp0] at c
  rw [← hp1] at wm
  obtain ⟨q1, hq1⟩ : ∃ q, q = s p1 := ⟨_, rfl⟩
  rw [← hq1] at wm
  have H0 : Hid (p0 = lo (V 0 0 - V m1 m0)) := hp0
  have H1 : Hid (q1 = s (u (hi (V 0 0 - V m1 m0)))) := by rw [← hp1]; exact hq1
  clear hq1 hp0 hp1
  go_enter Try.func50, Try.ntmps50
  go_wp2_with (go_at_call 69; refine (c _).mono ?_; rintro e w1 ⟨rfl, hb⟩; obtain ⟨khb0, fhb0, zhb0⟩ := live (.int .u64 m0) hb (w.heap.size) 0 (by simp; try omega) (by simp [go_sem]) (by simp [go_sem]); obtain ⟨khb1, fhb1, zhb1⟩ := live (.int .u64 m1) hb (w.heap.size) 1 (by simp; try omega) (by simp [go_sem]) (by simp [go_sem]); obtain ⟨khb2, fhb2, zhb2⟩ := live (.int .i64 0) hb (w.heap.size + 1) 0 (by simp; try omega) (by simp [go_sem]) (by simp [go_sem]); obtain ⟨khb3, fhb3, zhb3⟩ := live (.int .u64 0) hb (w.heap.size + 1) 1 (by simp; try omega) (by simp [go_sem]) (by simp [go_sem]); clear c)
  all_goals
    have B0 : Below w.heap.size w w1 := Below.trans (by go_grown) (hb.mono (by simp; omega))
    have h0 := H0.out
    have h1 := H1.out
    refine bodyPost_ret (by simp [results, Try.results50, go_sem, khb2, khb3, zhb2]; try rfl) rfl ?_
  · have f := neg_fits i j (by omega)
    exact ⟨ret_res f.1 (by omega) (by omega), by go_grown⟩
  · exact ⟨ret_over (neg_over i j (by omega) (by omega)), by go_grown⟩
  · have k : 0 ≤ q1 := by have k := ‹(!decide (q1 < 0)) = true›; simpa using k
    exact ⟨ret_over (neg_over i j (by omega) (by omega)), by go_grown⟩
  · have k : q1 < 0 := by have k := ‹(!decide (q1 < 0)) = false›; simpa using k
    have f := neg_fits i j (by omega)
    exact ⟨ret_res f.1 (by omega) (by omega), by go_grown⟩
end Go.Proofs.Ythcgkpmlfbjagaa
