/- The reference of layer 2: Amount, Small. -/
import Derived.Test.YtdjehbagnkfkpaaDoorMplus
import Derived.Test.YtdjehbagnkfkpaaDoorWxor
namespace Go.Proofs.YtdjehbagnkfkpaaDoor
set_option linter.unusedVariables false
open Go.RowKit W
set_option maxHeartbeats 2000000 in
theorem ramount_spec (a b : Int) (i : IsW (a, b)) (w : World) :
    Calls Tryd.prog 42 #[.agg #[.int .i64 a, .int .u64 b]] w
      fun e w' => e = .returned (.tuple #[magV (hi (ab (V a b))) (lo (ab (V a b))) false, .bool (decide (a < 0))]) ∧ Below w.heap.size w w' := by
  obtain ⟨i1, i0⟩ := i
  have hu : IntKind.u64.wrap a = u a := by rw [IntKind.wrap_u64]; rfl
  by_cases n : a < 0
  · have n' : ¬ 0 ≤ a := by omega
    have x1 := xor_u64 (u a) (isLo_u a)
    have x0 := xor_u64 b i0
    have iu := isLo_u a
    obtain ⟨p, hp⟩ : ∃ p, p = -u a - 1 + 18446744073709551616 := ⟨_, rfl⟩
    obtain ⟨q, hq⟩ : ∃ p, p = -b - 1 + 18446744073709551616 := ⟨_, rfl⟩
    rw [← hp] at x1
    rw [← hq] at x0
    have ip : IsLo p := by obtain ⟨_, _⟩ := iu; exact ⟨by omega, by omega⟩
    have iq : IsLo q := by obtain ⟨_, _⟩ := i0; exact ⟨by omega, by omega⟩
    have c := plus_spec p q 0 1 false false ip iq isLo_0 ⟨by omega, by omega⟩
    have e1 : u (hi (V p q + V 0 1)) = hi (ab (V a b)) := by rw [← ab_hi_neg i0 i1 n]; obtain ⟨_, _⟩ := i0; obtain ⟨_, _⟩ := iu; unfold u hi V; unfold u at hp; omega
    have e0 : lo (V p q + V 0 1) = lo (ab (V a b)) := by rw [← ab_lo_neg i0 i1 n]; obtain ⟨_, _⟩ := i0; obtain ⟨_, _⟩ := iu; unfold lo V; unfold u at hp; unfold u; omega
    have eo : plusO (V p q + V 0 1) false false = false := by
      unfold plusO; simp; obtain ⟨_, _⟩ := i1; obtain ⟨_, _⟩ := i0; unfold V; unfold u at hp; omega
    rw [e1, e0, eo] at c
    generalize hi (ab (V a b)) = r1 at *
    generalize lo (ab (V a b)) = r0 at *
    obtain ⟨ua, hua⟩ : ∃ x, x = u a := ⟨_, rfl⟩
    rw [← hua] at hu x1
    have hs : IntKind.u64.signed = false := rfl
    clear hp hq e1 e0 eo iu hua ip iq
    go_enter Tryd.func42, Tryd.ntmps42
    go_wp2_with fail
    refine (c _).mono ?_
    rintro e w1 ⟨rfl, hb⟩
    obtain ⟨khb0, fhb0, zhb0⟩ := live (.int .u64 0) hb (w.heap.size + 1) 0 (by simp; try omega) (by simp [go_sem]) (by simp [go_sem]); obtain ⟨khb1, fhb1, zhb1⟩ := live (.int .u64 0) hb (w.heap.size + 1) 1 (by simp; try omega) (by simp [go_sem]) (by simp [go_sem]); obtain ⟨khb2, fhb2, zhb2⟩ := live (.bool false) hb (w.heap.size + 1) 2 (by simp; try omega) (by simp [go_sem]) (by simp [go_sem])
    have B0 : Below w.heap.size w w1 := Below.trans (by go_grown) (hb.mono (by simp; omega))
    clear hb c
    go_wp2_with fail
    refine bodyPost_ret (by simp [results, Tryd.results42, go_sem, khb0, khb1, khb2]; try rfl) rfl ?_
    exact ⟨by simp [n], by go_grown⟩
  · have n' : 0 ≤ a := by omega
    rw [← ab_lo_pos i0 n', ← ab_hi_pos i0 i1 n']
    obtain ⟨ua, hua⟩ : ∃ x, x = u a := ⟨_, rfl⟩
    rw [← hua] at hu ⊢
    clear hua
    go_enter Tryd.func42, Tryd.ntmps42
    go_wp2_with fail
    go_returns
    exact ⟨by simp [n], by go_grown⟩
theorem rsm {x y : Int} {p q : Bool} (h : x = y ∧ p = q) : Ending.returned (.tuple #[.int .i64 x, .bool p]) = .returned (.tuple #[.int .i64 y, .bool q]) := by rw [h.1, h.2]
theorem sm_no {v : Int} (n : ¬ IsHi v) : 0 = smallV v ∧ false = smallB v := by
  unfold smallV smallB; rw [if_neg n]; exact ⟨rfl, (decide_eq_false n).symm⟩
theorem sm_yes {v x : Int} (n : IsHi v) (e : x = v) : x = smallV v ∧ true = smallB v := by
  unfold smallV smallB; rw [if_pos n]; exact ⟨e, (decide_eq_true n).symm⟩
set_option maxHeartbeats 2000000 in
theorem rsmall_spec (h l : Int) (b : Bool) (i : IsLo h) (j : IsLo l) (w : World) :
    Calls Tryd.prog 29 #[.agg #[.int .u64 h, .int .u64 l, .bool false], .bool b] w
      fun e w' => e = .returned (.tuple #[.int .i64 (smallV (sg b (V h l))), .bool (smallB (sg b (V h l)))]) ∧ Below w.heap.size w w' := by
  obtain ⟨i1, i2⟩ := i
  obtain ⟨j1, j2⟩ := j
  have wm := wrap_s ⟨j1, j2⟩
  by_cases n : 0 < h
  · have f : ¬ IsHi (sg b (V h l)) := by rintro ⟨x, y⟩; unfold sg V at x y; cases b <;> simp at x y <;> omega
    go_enter Tryd.func29, Tryd.ntmps29
    go_wp2_with fail
    go_returns
    exact ⟨rsm (sm_no f), by go_grown⟩
  · obtain rfl : h = 0 := by omega
    by_cases m : 9223372036854775808 < l
    · have f : ¬ IsHi (sg b (V 0 l)) := by rintro ⟨x, y⟩; unfold sg V at x y; cases b <;> simp at x y <;> omega
      go_enter Tryd.func29, Tryd.ntmps29
      go_wp2_with fail
      go_returns
      exact ⟨rsm (sm_no f), by go_grown⟩
    · by_cases k : l = 9223372036854775808
      · have k' : (l == 9223372036854775808) = true := by simpa using k
        have m' : ¬ 9223372036854775808 < l := m
        cases b
        · have f : ¬ IsHi (sg false (V 0 l)) := by rintro ⟨x, y⟩; unfold sg V at x y; simp at x y; omega
          have K : Hid (l = 9223372036854775808) := k
          clear k
          go_enter Tryd.func29, Tryd.ntmps29
          go_wp2_with fail
          go_returns
          exact ⟨rsm (sm_no f), by go_grown⟩
        · have f : IsHi (sg true (V 0 l)) := ⟨by unfold sg V; simp; omega, by unfold sg V; simp; omega⟩
          have K : Hid (l = 9223372036854775808) := k
          clear k
          go_enter Tryd.func29, Tryd.ntmps29
          go_wp2_with fail
          go_returns
          exact ⟨rsm (sm_yes f (by have := K.out; unfold sg V; simp; omega)), by go_grown⟩
      · have k' : (l == 9223372036854775808) = false := by simpa using k
        have sl : s l = l := by unfold s; rw [if_pos (by omega)]
        rw [sl] at wm
        have l2 : l < 9223372036854775808 := by omega
        cases b
        · have f : IsHi (sg false (V 0 l)) := ⟨by unfold sg V; simp; omega, by unfold sg V; simp; omega⟩
          have e : Hid (l = sg false (V 0 l)) := by show l = V 0 l; unfold V; omega
          go_enter Tryd.func29, Tryd.ntmps29
          go_wp2_with fail
          go_returns
          exact ⟨rsm (sm_yes f e.out), by go_grown⟩
        · have f : IsHi (sg true (V 0 l)) := ⟨by unfold sg V; simp; omega, by unfold sg V; simp; omega⟩
          have e : Hid (-l = sg true (V 0 l)) := by show -l = -(V 0 l); unfold V; omega
          go_enter Tryd.func29, Tryd.ntmps29
          go_wp2_with fail
          go_returns
          exact ⟨rsm (sm_yes f e.out), by go_grown⟩
theorem sg_ab {a b : Int} (i : IsW (a, b)) : sg (decide (a < 0)) (ab (V a b)) = V a b := by
  obtain ⟨⟨_, _⟩, ⟨_, _⟩⟩ := i
  simp only at *
  by_cases n : a < 0
  · have v : V a b < 0 := by unfold V; omega
    simp [n, sg, ab, v]
  · have v : ¬ V a b < 0 := by unfold V; omega
    simp [n, sg, ab, v]
end Go.Proofs.YtdjehbagnkfkpaaDoor
