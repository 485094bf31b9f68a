/- wide: Neg, Abs. -/
import Derived.Test.YtnlefakicjojdaaWsub
import Derived.Test.YtnlefakicjojdaaWcmp
namespace Go.Proofs.Ytnlefakicjojdaa
set_option linter.unusedVariables false
open Go.RowKit W
set_option maxHeartbeats 1000000 in
theorem neg_spec (a b : Int) (i : IsW (a, b)) (w : World) :
    Calls Try.prog 22 #[.agg #[.int .i64 a, .int .u64 b]] w fun e w' => e = sumRes (-(V a b)) ∧ Below w.heap.size w w' := by
  have c := sub_spec 0 0 a b isW_0 i
  have e : V 0 0 - V a b = -(V a b) := by unfold V; omega
  rw [e] at c
  obtain ⟨r1, hr1⟩ : ∃ r, r = hi (resV (-(V a b))) := ⟨_, rfl⟩
  obtain ⟨r0, hr0⟩ : ∃ r, r = lo (resV (-(V a b))) := ⟨_, rfl⟩
  obtain ⟨re, hre⟩ : ∃ r, r = resE (-(V a b)) := ⟨_, rfl⟩
  unfold sumRes at c ⊢
  rw [← hr1, ← hr0, ← hre] at c ⊢
  clear hr1 hr0 hre e
  go_enter Try.func22, Try.ntmps22
  go_wp2_with fail
  refine (c _).mono ?_
  rintro e w1 ⟨rfl, hb⟩
  obtain ⟨khb0, fhb0, zhb0⟩ := live (.int .i64 0) hb (w.heap.size + 1) 0 (by simp; try omega) (by simp [go_sem]) (by simp [go_sem]); obtain ⟨khb1, fhb1, zhb1⟩ := live (.int .u64 0) hb (w.heap.size + 1) 1 (by simp; try omega) (by simp [go_sem]) (by simp [go_sem])
  have B0 : Below w.heap.size w w1 := Below.trans (by go_grown) (hb.mono (by simp; omega))
  go_wp2
  refine bodyPost_ret (by simp [results, Try.results22, go_sem, khb0, khb1]; try rfl) rfl ?_
  exact ⟨rfl, by go_grown⟩
theorem ab_pos {v : Int} (h : 0 ≤ v) : ab v = v := by unfold ab; rw [if_neg (by omega)]
theorem ab_neg {v : Int} (h : v < 0) : ab v = -v := by unfold ab; rw [if_pos h]
set_option maxHeartbeats 1000000 in
theorem abs_spec (a b : Int) (i : IsW (a, b)) (w : World) :
    Calls Try.prog 55 #[.agg #[.int .i64 a, .int .u64 b]] w fun e w' => e = sumRes (ab (V a b)) ∧ Below w.heap.size w w' := by
  have c0 := sign_spec a b i.b
  obtain ⟨r1, hr1⟩ : ∃ r, r = hi (resV (ab (V a b))) := ⟨_, rfl⟩
  obtain ⟨r0, hr0⟩ : ∃ r, r = lo (resV (ab (V a b))) := ⟨_, rfl⟩
  obtain ⟨re, hre⟩ : ∃ r, r = resE (ab (V a b)) := ⟨_, rfl⟩
  unfold sumRes
  rw [← hr1, ← hr0, ← hre]
  by_cases n : V a b < 0
  · rw [cmp_lt n] at c0
    have c := neg_spec a b i
    unfold sumRes at c
    rw [← ab_neg n, ← hr1, ← hr0, ← hre] at c
    clear hr1 hr0 hre n
    go_enter Try.func55, Try.ntmps55
    go_wp2_with fail
    refine (c0 _).mono ?_
    rintro e w1 ⟨rfl, hb⟩
    obtain ⟨khb0, fhb0, zhb0⟩ := live (.int .i64 a) hb (w.heap.size) 0 (by simp; try omega) (by simp [go_sem]) (by simp [go_sem]); obtain ⟨khb1, fhb1, zhb1⟩ := live (.int .u64 b) hb (w.heap.size) 1 (by simp; try omega) (by simp [go_sem]) (by simp [go_sem]); obtain ⟨khb2, fhb2, zhb2⟩ := live (.int .i64 0) hb (w.heap.size + 1) 0 (by simp; try omega) (by simp [go_sem]) (by simp [go_sem]); obtain ⟨khb3, fhb3, zhb3⟩ := live (.int .u64 0) hb (w.heap.size + 1) 1 (by simp; try omega) (by simp [go_sem]) (by simp [go_sem])
    have B0 : Below w.heap.size w w1 := Below.trans (by go_grown) (hb.mono (by simp; omega))
    clear hb
    go_wp2_with fail
    refine (c _).mono ?_
    rintro e w2 ⟨rfl, hc⟩
    obtain ⟨k2, f2, z2⟩ := live _ hc (w.heap.size + 1) 0 zhb2 khb2 fhb2
    obtain ⟨k3, f3, z3⟩ := live _ hc (w.heap.size + 1) 1 zhb3 khb3 fhb3
    have B1 : Below w.heap.size w w2 := B0.trans (hc.mono B0.size)
    clear hc B0 khb0 khb1 khb2 khb3 fhb0 fhb1 fhb2 fhb3
    go_wp2
    refine bodyPost_ret (by simp [results, Try.results55, go_sem, k2, k3]; try rfl) rfl ?_
    exact ⟨rfl, by go_grown⟩
  · have f : Fits (V a b) := fits_V i.a i.b
    have e1 : r1 = a := by rw [hr1, ab_pos (by omega), resV_fits f, hi_V i.b]
    have e0 : r0 = b := by rw [hr0, ab_pos (by omega), resV_fits f, lo_V i.b]
    have e2 : re = 0 := by rw [hre, ab_pos (by omega), resE_fits f]
    have c1 : ¬ cmpI (V a b) 0 < 0 := by rcases cmp_cases (V a b) 0 with h | h | h <;> omega
    clear hr1 hr0 hre n f
    subst e1 e0 e2
    obtain ⟨c, hc⟩ : ∃ c, c = cmpI (V r1 r0) 0 := ⟨_, rfl⟩
    rw [← hc] at c0 c1
    clear hc
    go_enter Try.func55, Try.ntmps55
    go_wp2_with fail
    refine (c0 _).mono ?_
    rintro e w1 ⟨rfl, hb⟩
    obtain ⟨khb0, fhb0, zhb0⟩ := live (.int .i64 r1) hb (w.heap.size) 0 (by simp; try omega) (by simp [go_sem]) (by simp [go_sem]); obtain ⟨khb1, fhb1, zhb1⟩ := live (.int .u64 r0) hb (w.heap.size) 1 (by simp; try omega) (by simp [go_sem]) (by simp [go_sem]); obtain ⟨khb2, fhb2, zhb2⟩ := live (.int .i64 0) hb (w.heap.size + 1) 0 (by simp; try omega) (by simp [go_sem]) (by simp [go_sem]); obtain ⟨khb3, fhb3, zhb3⟩ := live (.int .u64 0) hb (w.heap.size + 1) 1 (by simp; try omega) (by simp [go_sem]) (by simp [go_sem])
    have B0 : Below w.heap.size w w1 := Below.trans (by go_grown) (hb.mono (by simp; omega))
    clear hb
    go_wp2
    refine bodyPost_ret (by simp [results, Try.results55, go_sem, khb2, khb3]; try rfl) rfl ?_
    exact ⟨rfl, by go_grown⟩
end Go.Proofs.Ytnlefakicjojdaa
