/- wide: Mul. -/
import Derived.Test.YthcgkpmlfbjagaaWmul
import Derived.Test.YthcgkpmlfbjagaaWsig
namespace Go.Proofs.Ythcgkpmlfbjagaa
set_option linter.unusedVariables false
open Go.RowKit W
theorem times_spec' (x y : Int) (fx : Fits x) (fy : Fits y) (w : World) :
    Calls Try.prog 49 #[.agg #[.int .u64 (lo (ab x)), .int .u64 (hi (ab x))], .agg #[.int .u64 (lo (ab y)), .int .u64 (hi (ab y))]] w (TimesPost w (ab x * ab y)) := by
  have e : V (hi (ab x)) (lo (ab x)) * V (hi (ab y)) (lo (ab y)) = ab x * ab y := by rw [V_hi_lo, V_hi_lo]
  rw [← e]
  by_cases n : hi (ab x) = 0 ∨ hi (ab y) = 0
  · exact times_yes _ _ _ _ (lo_ab fx) (isLo_lo _) (lo_ab fy) (isLo_lo _) n w
  · exact times_no _ _ _ _ (lo_ab fx) (isLo_lo _) (lo_ab fy) (isLo_lo _) (by omega) (by omega) w
set_option maxHeartbeats 4000000 in
theorem mul_walk (a b c d m1 m0 n1 n0 r1 r0 re p : Int) (na nb : Bool)
    (ca : ∀ w, Calls Try.prog 48 #[.agg #[.int .i64 a, .int .u64 b]] w fun e w' => e = .returned (.tuple #[.bool na, .agg #[.int .u64 m0, .int .u64 m1]]) ∧ Below w.heap.size w w')
    (cb : ∀ w, Calls Try.prog 48 #[.agg #[.int .i64 c, .int .u64 d]] w fun e w' => e = .returned (.tuple #[.bool nb, .agg #[.int .u64 n0, .int .u64 n1]]) ∧ Below w.heap.size w w')
    (ct : ∀ w, Calls Try.prog 49 #[.agg #[.int .u64 m0, .int .u64 m1], .agg #[.int .u64 n0, .int .u64 n1]] w (TimesPost w p))
    (cs : Hid (∀ p1 p0 : Int, TimesOut p p1 p0 true → ∀ w, Calls Try.prog 50 #[.bool (na != nb), .agg #[.int .u64 p0, .int .u64 p1]] w fun e w' => e = .returned (.tuple #[.agg #[.int .i64 r1, .int .u64 r0], .int .i64 re]) ∧ Below w.heap.size w w'))
    (ov : Hid (340282366920938463463374607431768211456 ≤ p → r1 = 0 ∧ r0 = 0 ∧ re = 10)) (w : World) :
    Calls Try.prog 30 #[.agg #[.int .i64 a, .int .u64 b], .agg #[.int .i64 c, .int .u64 d]] w fun e w' => e = .returned (.tuple #[.agg #[.int .i64 r1, .int .u64 r0], .int .i64 re]) ∧ Below w.heap.size w w' := by
  go_enter Try.func30, Try.ntmps30
  go_wp2_with fail
  refine (ca _).mono ?_
  rintro e w1 ⟨rfl, hb⟩
  obtain ⟨khb0, fhb0, zhb0⟩ := live (.int .i64 c) hb (w.heap.size + 1) 0 (by simp; try omega) (by simp [go_sem]) (by simp [go_sem]); obtain ⟨khb1, fhb1, zhb1⟩ := live (.int .u64 d) hb (w.heap.size + 1) 1 (by simp; try omega) (by simp [go_sem]) (by simp [go_sem]); obtain ⟨khb2, fhb2, zhb2⟩ := live (.int .i64 0) hb (w.heap.size + 1 + 1) 0 (by simp; try omega) (by simp [go_sem]) (by simp [go_sem]); obtain ⟨khb3, fhb3, zhb3⟩ := live (.int .u64 0) hb (w.heap.size + 1 + 1) 1 (by simp; try omega) (by simp [go_sem]) (by simp [go_sem])
  have B0 : Below w.heap.size w w1 := Below.trans (by go_grown) (hb.mono (by simp; omega))
  clear hb ca
  go_wp2_with fail
  refine (cb _).mono ?_
  rintro e w2 ⟨rfl, hc⟩
  obtain ⟨k0, f0, z0⟩ := live (.int .i64 0) hc (w.heap.size + 1 + 1) 0 (by simp; omega) (by simp [go_sem, khb2, zhb2]) (by simp [go_sem, fhb2, zhb2])
  obtain ⟨k1, f1, z1⟩ := live (.int .u64 0) hc (w.heap.size + 1 + 1) 1 (by simp; omega) (by simp [go_sem, khb3, zhb3]) (by simp [go_sem, fhb3, zhb3])
  obtain ⟨k2, f2, z2⟩ := live (.int .u64 m0) hc w1.heap.size 0 (by simp) (by simp [go_sem]) (by simp [go_sem])
  obtain ⟨k3, f3, z3⟩ := live (.int .u64 m1) hc w1.heap.size 1 (by simp) (by simp [go_sem]) (by simp [go_sem])
  have B1 : Below w.heap.size w w2 := Below.trans (by go_grown) (hc.mono (by simp; omega))
  clear hc cb B0 khb0 khb1 khb2 khb3 fhb0 fhb1 fhb2 fhb3
  go_wp2_with fail
  refine (ct _).mono ?_
  rintro e w3 ⟨p1, p0, ok, rfl, T, hd⟩
  obtain ⟨j0, g0, y0⟩ := live (.int .i64 0) hd (w.heap.size + 1 + 1) 0 (by simp; omega) (by simp [go_sem, k0, z0]) (by simp [go_sem, f0, z0])
  obtain ⟨j1, g1, y1⟩ := live (.int .u64 0) hd (w.heap.size + 1 + 1) 1 (by simp; omega) (by simp [go_sem, k1, z1]) (by simp [go_sem, f1, z1])
  have B2 : Below w.heap.size w w3 := Below.trans (by go_grown) (hd.mono (by simp; omega))
  clear hd ct k0 k1 k2 k3 f0 f1 f2 f3 B1
  cases ok
  · obtain ⟨rfl, rfl, rfl⟩ := ov.out (T.no rfl)
    clear T cs ov
    go_wp2_with fail
    refine bodyPost_ret (by simp [results, Try.results30, go_sem, j0, j1, y0]; try rfl) rfl ?_
    exact ⟨rfl, by go_grown⟩
  · have c5 := cs.out p1 p0 T
    clear T cs ov
    go_wp2_with fail
    refine (c5 _).mono ?_
    rintro e w4 ⟨rfl, he⟩
    obtain ⟨i0, h0, x0⟩ := live (.int .i64 0) he (w.heap.size + 1 + 1) 0 (by simp; omega) (by simp [go_sem, j0, y0]) (by simp [go_sem, g0, y0])
    obtain ⟨i1, h1, x1⟩ := live (.int .u64 0) he (w.heap.size + 1 + 1) 1 (by simp; omega) (by simp [go_sem, j1, y1]) (by simp [go_sem, g1, y1])
    have B3 : Below w.heap.size w w4 := Below.trans (by go_grown) (he.mono (by simp; omega))
    clear he c5 j0 j1 g0 g1 B2
    go_wp2_with fail
    refine bodyPost_ret (by simp [results, Try.results30, go_sem, i0, i1]; try rfl) rfl ?_
    exact ⟨rfl, by go_grown⟩
theorem mul_spec (a b c d : Int) (i : IsW (a, b)) (j : IsW (c, d)) (w : World) :
    Calls Try.prog 30 #[.agg #[.int .i64 a, .int .u64 b], .agg #[.int .i64 c, .int .u64 d]] w fun e w' => e = sumRes (V a b * V c d) ∧ Below w.heap.size w w' := by
  have fa := fits_V i.a i.b
  have fb := fits_V j.a j.b
  have ca := amount_spec a b i.b i.a
  have cb := amount_spec c d j.b j.a
  have ct := times_spec' (V a b) (V c d) fa fb
  refine mul_walk a b c d _ _ _ _ _ _ _ (ab (V a b) * ab (V c d)) _ _ ca cb ct ?_ ?_ w
  · intro p1 p0 T w
    obtain ⟨t1, t2, _⟩ := T.yes rfl
    have s := signed_any (decide (a < 0) != decide (c < 0)) p1 p0 T.lo1 T.lo0 w
    rw [t1, t2, V_hi_lo, neg_hi i, neg_hi j, sg_mul] at s
    rw [t1, t2, neg_hi i, neg_hi j]
    exact s
  · intro h
    have n := mul_over fa fb h
    rw [resV_not n, resE_not n]
    exact ⟨rfl, rfl, rfl⟩
end Go.Proofs.Ythcgkpmlfbjagaa
