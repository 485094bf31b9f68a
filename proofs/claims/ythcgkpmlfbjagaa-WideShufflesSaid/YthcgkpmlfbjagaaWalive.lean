/- math/bits.Div64 and wide.divideBy at a high word 0; Print of -42; 'alive' of the statements of layer 1. -/
import Derived.Test.YthcgkpmlfbjagaaWabs
import Derived.Test.YthcgkpmlfbjagaaWof
import Derived.Test.YthcgkpmlfbjagaaWcmp
import Derived.Test.YthcgkpmlfbjagaaDivz
namespace Go.Proofs.Ythcgkpmlfbjagaa
set_option linter.unusedVariables false
open Go.RowKit W
set_option maxHeartbeats 1000000 in
theorem divideBy_low (m d : Int) (i : IsLo m) (j : IsLo d) (n : d ≠ 0) (w : World) :
    Calls Try.prog 59 #[.agg #[.int .u64 m, .int .u64 0], .int .u64 d] w fun e w' => e = .returned (.tuple #[.agg #[.int .u64 (m / d), .int .u64 0], .int .u64 (m % d)]) ∧ Below w.heap.size w w' := by
  have c1 := div64_zero 0 d isLo_0 j n
  have c2 := div64_zero m d i j n
  rw [Int.zero_ediv, Int.zero_emod] at c1
  generalize m / d = q at *
  generalize m % d = r at *
  go_enter Try.func59, Try.ntmps59
  go_wp2_with fail
  refine (c1 _).mono ?_
  rintro e w1 ⟨rfl, hb⟩
  obtain ⟨khb0, fhb0, zhb0⟩ := live (.int .u64 m) hb (w.heap.size) 0 (by simp; try omega) (by simp [go_sem]) (by simp [go_sem]); obtain ⟨khb1, fhb1, zhb1⟩ := live (.int .u64 0) hb (w.heap.size + 1) 0 (by simp; try omega) (by simp [go_sem]) (by simp [go_sem]); obtain ⟨khb2, fhb2, zhb2⟩ := live (.int .u64 0) hb (w.heap.size + 1) 1 (by simp; try omega) (by simp [go_sem]) (by simp [go_sem]); obtain ⟨khb3, fhb3, zhb3⟩ := live (.int .u64 0) hb (w.heap.size + 1 + 1) 0 (by simp; try omega) (by simp [go_sem]) (by simp [go_sem]); obtain ⟨khb4, fhb4, zhb4⟩ := live (.int .u64 0) hb (w.heap.size + 1 + 1) 1 (by simp; try omega) (by simp [go_sem]) (by simp [go_sem])
  have B0 : Below w.heap.size w w1 := Below.trans (by go_grown) (hb.mono (by simp; omega))
  clear hb
  go_wp2_with fail
  refine (c2 _).mono ?_
  rintro e w2 ⟨rfl, hc⟩
  obtain ⟨k0, f0, z0⟩ := live (.int .u64 0) hc (w.heap.size + 1) 0 (by simp; omega) (by simp [go_sem, khb1]) (by simp [go_sem, fhb1])
  obtain ⟨k1, f1, z1⟩ := live (.int .u64 0) hc (w.heap.size + 1) 1 (by simp; omega) (by simp [go_sem, khb2]) (by simp [go_sem, fhb2])
  obtain ⟨k2, f2, z2⟩ := live (.int .u64 0) hc (w.heap.size + 1 + 1) 0 (by simp; omega) (by simp [go_sem, khb3]) (by simp [go_sem, fhb3])
  obtain ⟨k3, f3, z3⟩ := live (.int .u64 0) hc (w.heap.size + 1 + 1) 1 (by simp; omega) (by simp [go_sem, khb4]) (by simp [go_sem, fhb4])
  have B1 : Below w.heap.size w w2 := Below.trans (by go_grown) (hc.mono (by simp; omega))
  clear hc
  go_wp2_with fail
  refine bodyPost_ret (by simp [results, Try.results59, go_sem, k0, k1]; try rfl) rfl ?_
  exact ⟨rfl, by go_grown⟩
theorem conv3 (b o : Nat) (W : World) (h0 : W.cell? ⟨b, o, none⟩ = some (.int .u8 45)) (h1 : W.cell? ⟨b, o + 1, none⟩ = some (.int .u8 52)) (h2 : W.cell? ⟨b, o + 2, none⟩ = some (.int .u8 50)) :
    (convert 84 9 (.slice (some ⟨b, o, none⟩) 3 3)).run Try.prog W = .ok (.string ⟨#[45, 52, 50]⟩) W :=
  run_convert_bytes_back W 84 9 5 ⟨b, o, none⟩ 3 [45, 52, 50] Try.underlying84 Try.underlying5 Try.underlying9 (fun j hj => by
    simp only [List.length_cons, List.length_nil] at hj
    obtain rfl | rfl | rfl : j = 0 ∨ j = 1 ∨ j = 2 := by omega
    · exact h0
    · exact h1
    · exact h2)
set_option maxRecDepth 100000
set_option maxHeartbeats 4000000 in
theorem print42 (a b : Int) (c0 : ∀ w, Calls Try.prog 48 #[.agg #[.int .i64 a, .int .u64 b]] w fun e w' => e = .returned (.tuple #[.bool true, .agg #[.int .u64 42, .int .u64 0]]) ∧ Below w.heap.size w w') (w : World) :
    Calls Try.prog 38 #[.agg #[.int .i64 a, .int .u64 b]] w fun e w' => e = .returned (.string ⟨#[45, 52, 50]⟩) ∧ Below w.heap.size w w' := by
  have c1 : ∀ w, Calls Try.prog 59 #[.agg #[.int .u64 42, .int .u64 0], .int .u64 10] w fun e w' => e = .returned (.tuple #[.agg #[.int .u64 4, .int .u64 0], .int .u64 2]) ∧ Below w.heap.size w w' := divideBy_low 42 10 ⟨by omega, by omega⟩ ⟨by omega, by omega⟩ (by omega)
  have c2 : ∀ w, Calls Try.prog 59 #[.agg #[.int .u64 4, .int .u64 0], .int .u64 10] w fun e w' => e = .returned (.tuple #[.agg #[.int .u64 0, .int .u64 0], .int .u64 4]) ∧ Below w.heap.size w w' := divideBy_low 4 10 ⟨by omega, by omega⟩ ⟨by omega, by omega⟩ (by omega)
  have q1 : ∀ w, (Op.equalIn 10000 64 (.agg #[.int .u64 4, .int .u64 0]) (.agg #[.int .u64 0, .int .u64 0])).run Try.prog w = .ok false w := fun _ => by kernel_rfl
  have q2 : ∀ w, (Op.equalIn 10000 64 (.agg #[.int .u64 0, .int .u64 0]) (.agg #[.int .u64 0, .int .u64 0])).run Try.prog w = .ok true w := fun _ => by kernel_rfl
  go_enter Try.func38, Try.ntmps38
  go_wp2_with fail
  refine (c0 _).mono ?_
  rintro e w1 ⟨rfl, hb⟩
  have B0 : Below w.heap.size w w1 := Below.trans (by go_grown) (hb.mono (by simp))
  clear hb
  go_wp2_with fail
  refine wp_loop_rounds 2 ?_
  rw [rounds_succ]
  refine abs_wp (fun W => (W.cell? ⟨w1.heap.size, 0, none⟩ = some (.int .u64 42) ∧ W.frozen? ⟨w1.heap.size, 0, none⟩ = false) ∧ (W.cell? ⟨w1.heap.size, 1, none⟩ = some (.int .u64 0) ∧ W.frozen? ⟨w1.heap.size, 1, none⟩ = false) ∧
     (W.cell? ⟨w1.heap.size + 1, 37, none⟩ = some (.int .u8 0) ∧ W.frozen? ⟨w1.heap.size + 1, 37, none⟩ = false) ∧ (W.cell? ⟨w1.heap.size + 1, 38, none⟩ = some (.int .u8 0) ∧ W.frozen? ⟨w1.heap.size + 1, 38, none⟩ = false) ∧
     (W.cell? ⟨w1.heap.size + 1, 39, none⟩ = some (.int .u8 0) ∧ W.frozen? ⟨w1.heap.size + 1, 39, none⟩ = false) ∧ w1.heap.size + 1 < W.heap.size ∧ Below w1.heap.size w1 W) ?_ ?_
  · refine ⟨⟨?_, ?_⟩, ⟨?_, ?_⟩, ⟨?_, ?_⟩, ⟨?_, ?_⟩, ⟨?_, ?_⟩, ?_, ?_⟩
    all_goals first | (simp [go_sem]; done) | (simp; done) | (go_grown; done)
  rintro W ⟨⟨c10, f10⟩, ⟨c11, f11⟩, ⟨c37, f37⟩, ⟨c38, f38⟩, ⟨c39, f39⟩, zW, BW⟩
  have z0 : w1.heap.size < W.heap.size := by omega
  have B1 := B0.trans (BW.mono B0.size)
  have zz := B0.size
  clear B0 BW
  go_wp2_with fail
  refine (c1 _).mono ?_
  rintro e w2 ⟨rfl, hb⟩
  obtain ⟨kA0, fA0, zA0⟩ := live (.int .u64 42) hb (w1.heap.size) (0) (by first | assumption | (simp; done) | omega | (simp; omega)) (by first | assumption | simp [go_sem]) (by first | assumption | simp [go_sem]); obtain ⟨kA1, fA1, zA1⟩ := live (.int .u64 0) hb (w1.heap.size) (1) (by first | assumption | (simp; done) | omega | (simp; omega)) (by first | assumption | simp [go_sem]) (by first | assumption | simp [go_sem]); obtain ⟨kA2, fA2, zA2⟩ := live (.int .u8 0) hb (w1.heap.size + 1) (37) (by first | assumption | (simp; done) | omega | (simp; omega)) (by first | assumption | simp [go_sem]) (by first | assumption | simp [go_sem]); obtain ⟨kA3, fA3, zA3⟩ := live (.int .u8 0) hb (w1.heap.size + 1) (38) (by first | assumption | (simp; done) | omega | (simp; omega)) (by first | assumption | simp [go_sem]) (by first | assumption | simp [go_sem]); obtain ⟨kA4, fA4, zA4⟩ := live (.int .u8 0) hb (w1.heap.size + 1) (39) (by first | assumption | (simp; done) | omega | (simp; omega)) (by first | assumption | simp [go_sem]) (by first | assumption | simp [go_sem])
  have B2 := B1.trans (hb.mono B1.size)
  clear hb B1 c10 c11 c37 c38 c39 f10 f11 f37 f38 f39 c1
  go_wp2_with fail
  rw [rounds_succ]
  refine abs_wp (fun W => (W.cell? ⟨w1.heap.size, 0, none⟩ = some (.int .u64 4) ∧ W.frozen? ⟨w1.heap.size, 0, none⟩ = false) ∧ (W.cell? ⟨w1.heap.size, 1, none⟩ = some (.int .u64 0) ∧ W.frozen? ⟨w1.heap.size, 1, none⟩ = false) ∧
     (W.cell? ⟨w1.heap.size + 1, 37, none⟩ = some (.int .u8 0) ∧ W.frozen? ⟨w1.heap.size + 1, 37, none⟩ = false) ∧ (W.cell? ⟨w1.heap.size + 1, 38, none⟩ = some (.int .u8 0) ∧ W.frozen? ⟨w1.heap.size + 1, 38, none⟩ = false) ∧
     (W.cell? ⟨w1.heap.size + 1, 39, none⟩ = some (.int .u8 50) ∧ W.frozen? ⟨w1.heap.size + 1, 39, none⟩ = false) ∧ w1.heap.size + 1 < W.heap.size ∧ Below w.heap.size w W) ?_ ?_
  · refine ⟨⟨?_, ?_⟩, ⟨?_, ?_⟩, ⟨?_, ?_⟩, ⟨?_, ?_⟩, ⟨?_, ?_⟩, ?_, ?_⟩
    all_goals first | (simp [go_sem, kA0, kA1, kA2, kA3, kA4, fA0, fA1, fA2, fA3, fA4]; done) | (simp; done) | (simp; omega) | (go_grown; done)
  clear kA0 kA1 kA2 kA3 kA4 fA0 fA1 fA2 fA3 fA4 zA0 zA1 zA2 zA3 zA4 B2 zW z0
  clear W w2
  rintro W ⟨⟨c10, f10⟩, ⟨c11, f11⟩, ⟨c37, f37⟩, ⟨c38, f38⟩, ⟨c39, f39⟩, zW, B2⟩
  have z0 : w1.heap.size < W.heap.size := by omega
  go_wp2_with fail
  refine (c2 _).mono ?_
  rintro e w3 ⟨rfl, hb⟩
  obtain ⟨kB0, fB0, zB0⟩ := live (.int .u64 4) hb (w1.heap.size) (0) (by first | assumption | (simp; done) | omega | (simp; omega)) (by first | assumption | simp [go_sem]) (by first | assumption | simp [go_sem]); obtain ⟨kB1, fB1, zB1⟩ := live (.int .u64 0) hb (w1.heap.size) (1) (by first | assumption | (simp; done) | omega | (simp; omega)) (by first | assumption | simp [go_sem]) (by first | assumption | simp [go_sem]); obtain ⟨kB2, fB2, zB2⟩ := live (.int .u8 0) hb (w1.heap.size + 1) (37) (by first | assumption | (simp; done) | omega | (simp; omega)) (by first | assumption | simp [go_sem]) (by first | assumption | simp [go_sem]); obtain ⟨kB3, fB3, zB3⟩ := live (.int .u8 0) hb (w1.heap.size + 1) (38) (by first | assumption | (simp; done) | omega | (simp; omega)) (by first | assumption | simp [go_sem]) (by first | assumption | simp [go_sem]); obtain ⟨kB4, fB4, zB4⟩ := live (.int .u8 50) hb (w1.heap.size + 1) (39) (by first | assumption | (simp; done) | omega | (simp; omega)) (by first | assumption | simp [go_sem]) (by first | assumption | simp [go_sem])
  have B3 : Below w.heap.size w w3 := B2.trans (hb.mono B2.size)
  clear hb B2 c10 c11 c37 c38 c39 f10 f11 f37 f38 f39 c2
  have cv := fun W => conv3 (w1.heap.size + 1) 37 W
  simp only [Nat.reduceAdd] at cv
  go_upto_region 12 with (fail)
  refine abs_wp (fun W => W.cell? ⟨w1.heap.size + 1, 37, none⟩ = some (.int .u8 45) ∧ W.cell? ⟨w1.heap.size + 1, 38, none⟩ = some (.int .u8 52) ∧ W.cell? ⟨w1.heap.size + 1, 39, none⟩ = some (.int .u8 50) ∧ Below w.heap.size w W) ?_ ?_
  · refine ⟨?_, ?_, ?_, ?_⟩
    all_goals first | (simp [go_sem, kB2, kB3, kB4]; done) | (go_grown; done)
  rintro W4 ⟨c37, c38, c39, B4⟩
  have cv' := cv W4 c37 c38 c39
  clear cv
  go_wp2_with fail
  go_returns
  exact ⟨rfl, by go_grown⟩
set_option maxHeartbeats 2000000 in
theorem alive_ok (w : World) : Calls Try.prog 25 #[] w fun e w' => e = .returned (.bool true) ∧ Below w.heap.size w w' := by
  have c1 : ∀ w, Calls Try.prog 19 #[.int .i64 (-7)] w fun e w' => e = wideRes (-7) ∧ Below w.heap.size w w' := wof_spec (-7) ⟨by omega, by omega⟩
  have c2 : ∀ w, Calls Try.prog 19 #[.int .i64 6] w fun e w' => e = wideRes 6 ∧ Below w.heap.size w w' := wof_spec 6 ⟨by omega, by omega⟩
  have c3 : ∀ w, Calls Try.prog 30 #[.agg #[.int .i64 (hi (-7)), .int .u64 (lo (-7))], .agg #[.int .i64 (hi 6), .int .u64 (lo 6)]] w fun e w' => e = sumRes (V (hi (-7)) (lo (-7)) * V (hi 6) (lo 6)) ∧ Below w.heap.size w w' :=
    mul_spec _ _ _ _ ⟨isHi_hi ⟨by omega, by omega⟩, isLo_lo _⟩ ⟨isHi_hi ⟨by omega, by omega⟩, isLo_lo _⟩
  rw [V_hi_lo, V_hi_lo] at c3
  have f : Fits (-7 * 6) := ⟨by omega, by omega⟩
  have r : resV (-7 * 6) = -42 := (resV_fits f).trans (by omega)
  unfold sumRes at c3
  rw [resE_fits f, r] at c3
  have iw : IsW (hi (-42), lo (-42)) := ⟨isHi_hi ⟨by omega, by omega⟩, isLo_lo _⟩
  have ca := fun w => amount_spec (hi (-42)) (lo (-42)) iw.b iw.a w
  rw [V_hi_lo] at ca
  have d1 : decide (hi (-42) < 0) = true := by decide
  have d2 : lo (ab (-42)) = 42 := by decide
  have d3 : hi (ab (-42)) = 0 := by decide
  rw [d1, d2, d3] at ca
  have c4 := print42 (hi (-42)) (lo (-42)) ca
  have c5 := sign_spec (hi (-42)) (lo (-42)) iw.b
  rw [V_hi_lo, cmp_lt (by omega)] at c5
  unfold wideRes at c1 c2
  generalize hi (-42) = p1 at *
  generalize lo (-42) = p0 at *
  generalize hi (-7) = a1 at *
  generalize lo (-7) = a0 at *
  generalize hi 6 = b1 at *
  generalize lo 6 = b0 at *
  clear f r iw ca d1 d2 d3
  go_enter Try.func25, Try.ntmps25
  go_wp2_with fail
  refine (c1 _).mono ?_
  rintro e w1 ⟨rfl, h1⟩
  go_wp2_with fail
  refine (c2 _).mono ?_
  rintro e w2 ⟨rfl, h2⟩
  go_wp2_with fail
  refine (c3 _).mono ?_
  rintro e w3 ⟨rfl, h3⟩
  have B3 : Below w.heap.size w w3 := h1.trans ((h2.mono h1.size).trans (h3.mono (h1.trans (h2.mono h1.size)).size))
  clear h1 h2 h3 c1 c2 c3
  have zz := B3.size
  go_wp2_with fail
  refine (c4 _).mono ?_
  rintro e w4 ⟨rfl, h4⟩
  obtain ⟨kA0, fA0, zA0⟩ := live (.int .i64 p1) h4 (w3.heap.size) (0) (by first | assumption | (simp; done) | omega | (simp; omega)) (by first | assumption | simp [go_sem]) (by first | assumption | simp [go_sem]); obtain ⟨kA1, fA1, zA1⟩ := live (.int .u64 p0) h4 (w3.heap.size) (1) (by first | assumption | (simp; done) | omega | (simp; omega)) (by first | assumption | simp [go_sem]) (by first | assumption | simp [go_sem])
  have B4 : Below w.heap.size w w4 := Below.trans (by go_grown) (h4.mono (by simp; omega))
  clear h4 c4
  go_wp2_with fail
  refine (c5 _).mono ?_
  rintro e w5 ⟨rfl, h5⟩
  have B5 : Below w.heap.size w w5 := B4.trans (h5.mono B4.size)
  clear h5 c5
  go_wp2_with fail
  go_returns
  exact ⟨rfl, B5⟩
end Go.Proofs.Ythcgkpmlfbjagaa
