/- WideOrders: one order, kept by sums. -/
import Derived.Test.YtjnjfdlmfinhfabWalive
namespace Go.Proofs.Ytjnjfdlmfinhfab
set_option linter.unusedVariables false
open Go.RowKit W
abbrev CmpIs (a1 a0 b1 b0 x : Int) : Prop := ∀ w, Calls Try.prog 5 #[.agg #[.int .i64 a1, .int .u64 a0], .agg #[.int .i64 b1, .int .u64 b0]] w fun e w' => e = .returned (.int .i64 x) ∧ Below w.heap.size w w'
abbrev AddIs (a1 a0 b1 b0 x1 x0 f : Int) : Prop := ∀ w, Calls Try.prog 6 #[.agg #[.int .i64 a1, .int .u64 a0], .agg #[.int .i64 b1, .int .u64 b0]] w fun e w' => e = .returned (.tuple #[.agg #[.int .i64 x1, .int .u64 x0], .int .i64 f]) ∧ Below w.heap.size w w'
/-- What the three comparisons say of each other, so that no test of the statement fails. -/
structure OneOrder (x y z v : Int) : Prop where
  a : v = -x
  xr : -1 ≤ x ∧ x ≤ 1
  b : ¬ (x ≤ 0 ∧ y ≤ 0 ∧ 0 < z)
  c : ¬ (0 ≤ x ∧ 0 ≤ y ∧ z < 0)
  d : ¬ (x < 0 ∧ y ≤ 0 ∧ 0 ≤ z)
set_option maxHeartbeats 16000000 in
theorem orders_ne (a1 a0 b1 b0 c1 c0 s1 s0 t1 t0 f g x y z v q : Int) (k0 : ∀ w, Calls Try.prog 7 #[] w fun e w' => e = .returned (.bool true) ∧ Below w.heap.size w w')
    (k1 : CmpIs a1 a0 b1 b0 x) (k2 : CmpIs b1 b0 c1 c0 y) (k3 : CmpIs a1 a0 c1 c0 z) (k4 : CmpIs b1 b0 a1 a0 v) (k5 : AddIs a1 a0 c1 c0 s1 s0 f) (k6 : AddIs b1 b0 c1 c0 t1 t0 g) (k7 : CmpIs s1 s0 t1 t0 q)
    (O : OneOrder x y z v) (F : ¬ (f = 0 ∧ g = 0)) (w : World) :
    Calls Try.prog 3 #[.agg #[.int .i64 a1, .int .u64 a0], .agg #[.int .i64 b1, .int .u64 b0], .agg #[.int .i64 c1, .int .u64 c0]] w fun e w' => e = .returned (.bool true) ∧ Below w.heap.size w w' := by
  obtain ⟨oa, oxr, ob, oc, od⟩ := O
  subst oa
  obtain ⟨x1, x2⟩ := oxr
  go_enter Try.func3, Try.ntmps3
  go_wp2_with fail
  refine abs_wp (fun W => W.cell? ⟨w.heap.size, 0, none⟩ = some (.int .i64 a1) ∧ W.cell? ⟨w.heap.size, 1, none⟩ = some (.int .u64 a0) ∧ W.cell? ⟨w.heap.size + 1, 0, none⟩ = some (.int .i64 b1) ∧ W.cell? ⟨w.heap.size + 1, 1, none⟩ = some (.int .u64 b0) ∧
    W.cell? ⟨w.heap.size + 1 + 1, 0, none⟩ = some (.int .i64 c1) ∧ W.cell? ⟨w.heap.size + 1 + 1, 1, none⟩ = some (.int .u64 c0) ∧ w.heap.size + 1 + 1 < W.heap.size ∧ Below w.heap.size w W) ?_ ?_
  · refine ⟨?_, ?_, ?_, ?_, ?_, ?_, ?_, ?_⟩
    all_goals first | (simp [go_sem]; done) | (simp; done) | (go_grown; done)
  rintro W ⟨d0, d1, d2, d3, d4, d5, zW, BW⟩
  have K1 := (Keeps.start (Nat.le_refl W.heap.size)).drew
  have z0 : w.heap.size < W.heap.size := by omega
  have z1 : w.heap.size + 1 < W.heap.size := by omega
  go_region_held3 (fun w' => w'.cell? ⟨w.heap.size, 0, none⟩ = some (.int .i64 a1) ∧ w'.cell? ⟨w.heap.size, 1, none⟩ = some (.int .u64 a0) ∧ w'.cell? ⟨w.heap.size + 1, 0, none⟩ = some (.int .i64 b1) ∧ w'.cell? ⟨w.heap.size + 1, 1, none⟩ = some (.int .u64 b0) ∧
      w'.cell? ⟨w.heap.size + 1 + 1, 0, none⟩ = some (.int .i64 c1) ∧ w'.cell? ⟨w.heap.size + 1 + 1, 1, none⟩ = some (.int .u64 c0) ∧ Keeps W.heap.size W w')
    ((refine (fun K => ⟨Keeps.cell K d0 z0, Keeps.cell K d1 z0, Keeps.cell K d2 z1, Keeps.cell K d3 z1, Keeps.cell K d4 zW, Keeps.cell K d5 zW, K⟩) (?_ : Keeps W.heap.size W _); (first | assumption | exact Keeps.alloc (by assumption) _)))
    (first
      | (go_at_call_of 5 (Value.agg #[.int .i64 a1, .int .u64 a0]); go_at_call_of 5 (Value.agg #[.int .i64 b1, .int .u64 b0]); refine (k1 _).mono ?_; rintro e w1 ⟨rfl, hb1⟩; have J1 := Keeps.call (by assumption) hb1)
      | (go_at_call_of 5 (Value.agg #[.int .i64 b1, .int .u64 b0]); go_at_call_of 5 (Value.agg #[.int .i64 c1, .int .u64 c0]); refine (k2 _).mono ?_; rintro e w2 ⟨rfl, hb2⟩; have J2 := Keeps.call (by assumption) hb2)
      | (go_at_call_of 5 (Value.agg #[.int .i64 a1, .int .u64 a0]); go_at_call_of 5 (Value.agg #[.int .i64 c1, .int .u64 c0]); refine (k3 _).mono ?_; rintro e w3 ⟨rfl, hb3⟩; have J3 := Keeps.call (by assumption) hb3))
  have B3 : Below w.heap.size w w3 := BW.trans (J3.below.mono BW.size)
  have y3 := B3.size
  have kA0 := Keeps.cell J3 d0 z0
  have kA1 := Keeps.cell J3 d1 z0
  have kA2 := Keeps.cell J3 d2 z1
  have kA3 := Keeps.cell J3 d3 z1
  have kA4 := Keeps.cell J3 d4 zW
  have kA5 := Keeps.cell J3 d5 zW
  have sA := J3.size
  clear k1 k2 k3 d0 d1 d2 d3 d4 d5 K1 hb1 hb2 J1 J2 hb3 J3 BW
  clear ‹_ ∧ _›
  have zA0 : w.heap.size < w3.heap.size := by omega
  have zA1 : w.heap.size + 1 < w3.heap.size := by omega
  have zA2 : w.heap.size + 1 + 1 < w3.heap.size := by omega
  clear zW z0 z1 sA
  clear W w1 w2
  go_wp2_with fail
  refine (k4 _).mono ?_
  rintro e w4 ⟨rfl, h4⟩
  have B4 := B3.trans (h4.mono B3.size)
  have y4 := B4.size
  have kB0 := (h4.cell (p := ⟨w.heap.size, 0, none⟩) zA0).trans kA0
  have kB1 := (h4.cell (p := ⟨w.heap.size, 1, none⟩) zA0).trans kA1
  have kB2 := (h4.cell (p := ⟨w.heap.size + 1, 0, none⟩) zA1).trans kA2
  have kB3 := (h4.cell (p := ⟨w.heap.size + 1, 1, none⟩) zA1).trans kA3
  have kB4 := (h4.cell (p := ⟨w.heap.size + 1 + 1, 0, none⟩) zA2).trans kA4
  have kB5 := (h4.cell (p := ⟨w.heap.size + 1 + 1, 1, none⟩) zA2).trans kA5
  have zB0 : w.heap.size < w4.heap.size := Nat.lt_of_lt_of_le zA0 h4.size
  have zB1 : w.heap.size + 1 < w4.heap.size := Nat.lt_of_lt_of_le zA1 h4.size
  have zB2 : w.heap.size + 1 + 1 < w4.heap.size := Nat.lt_of_lt_of_le zA2 h4.size
  clear h4 k4 B3 y3 kA0 kA1 kA2 kA3 kA4 kA5 zA0 zA1 zA2
  clear w3
  go_wp2_with fail
  all_goals
    refine (k5 _).mono ?_
    rintro e w5 ⟨rfl, h5⟩
    have B5 := B4.trans (h5.mono B4.size)
    have y5 := B5.size
    have kC2 := (h5.cell (p := ⟨w.heap.size + 1, 0, none⟩) zB1).trans kB2
    have kC3 := (h5.cell (p := ⟨w.heap.size + 1, 1, none⟩) zB1).trans kB3
    have kC4 := (h5.cell (p := ⟨w.heap.size + 1 + 1, 0, none⟩) zB2).trans kB4
    have kC5 := (h5.cell (p := ⟨w.heap.size + 1 + 1, 1, none⟩) zB2).trans kB5
    have zC1 : w.heap.size + 1 < w5.heap.size := Nat.lt_of_lt_of_le zB1 h5.size
    have zC2 : w.heap.size + 1 + 1 < w5.heap.size := Nat.lt_of_lt_of_le zB2 h5.size
    clear h5 k5 B4 y4 kB0 kB1 kB2 kB3 kB4 kB5 zB0 zB1 zB2
    go_wp2_with fail
    refine (k6 _).mono ?_
    rintro e w6 ⟨rfl, h6⟩
    obtain ⟨kD0, fD0, zD0⟩ := live (.int .i64 s1) h6 w5.heap.size 0 (by simp) (by simp [go_sem]) (by simp [go_sem])
    obtain ⟨kD1, fD1, zD1⟩ := live (.int .u64 s0) h6 w5.heap.size 1 (by simp) (by simp [go_sem]) (by simp [go_sem])
    have B6 : Below w.heap.size w w6 := Below.trans (by go_grown) (h6.mono (by simp; omega))
    have y6 := B6.size
    clear h6 k6 B5 kC2 kC3 kC4 kC5 zC1 zC2
    clear k7
    go_wp2_with fail
    all_goals
      refine (k0 _).mono ?_
      rintro e w7 ⟨rfl, h7⟩
      have B7 : Below w.heap.size w w7 := Below.trans (by go_grown) (h7.mono (by simp; omega))
      go_wp2_with fail
      go_returns
      exact ⟨rfl, B7⟩
set_option maxHeartbeats 16000000 in
theorem orders_eq (a1 a0 b1 b0 c1 c0 s1 s0 t1 t0 x y z v : Int) (k0 : ∀ w, Calls Try.prog 7 #[] w fun e w' => e = .returned (.bool true) ∧ Below w.heap.size w w')
    (k1 : CmpIs a1 a0 b1 b0 x) (k2 : CmpIs b1 b0 c1 c0 y) (k3 : CmpIs a1 a0 c1 c0 z) (k4 : CmpIs b1 b0 a1 a0 v) (k5 : AddIs a1 a0 c1 c0 s1 s0 0) (k6 : AddIs b1 b0 c1 c0 t1 t0 0) (k7 : CmpIs s1 s0 t1 t0 x)
    (O : OneOrder x y z v) (w : World) :
    Calls Try.prog 3 #[.agg #[.int .i64 a1, .int .u64 a0], .agg #[.int .i64 b1, .int .u64 b0], .agg #[.int .i64 c1, .int .u64 c0]] w fun e w' => e = .returned (.bool true) ∧ Below w.heap.size w w' := by
  obtain ⟨oa, oxr, ob, oc, od⟩ := O
  subst oa
  obtain ⟨x1, x2⟩ := oxr
  go_enter Try.func3, Try.ntmps3
  go_wp2_with fail
  refine abs_wp (fun W => W.cell? ⟨w.heap.size, 0, none⟩ = some (.int .i64 a1) ∧ W.cell? ⟨w.heap.size, 1, none⟩ = some (.int .u64 a0) ∧ W.cell? ⟨w.heap.size + 1, 0, none⟩ = some (.int .i64 b1) ∧ W.cell? ⟨w.heap.size + 1, 1, none⟩ = some (.int .u64 b0) ∧
    W.cell? ⟨w.heap.size + 1 + 1, 0, none⟩ = some (.int .i64 c1) ∧ W.cell? ⟨w.heap.size + 1 + 1, 1, none⟩ = some (.int .u64 c0) ∧ w.heap.size + 1 + 1 < W.heap.size ∧ Below w.heap.size w W) ?_ ?_
  · refine ⟨?_, ?_, ?_, ?_, ?_, ?_, ?_, ?_⟩
    all_goals first | (simp [go_sem]; done) | (simp; done) | (go_grown; done)
  rintro W ⟨d0, d1, d2, d3, d4, d5, zW, BW⟩
  have K1 := (Keeps.start (Nat.le_refl W.heap.size)).drew
  have z0 : w.heap.size < W.heap.size := by omega
  have z1 : w.heap.size + 1 < W.heap.size := by omega
  go_region_held3 (fun w' => w'.cell? ⟨w.heap.size, 0, none⟩ = some (.int .i64 a1) ∧ w'.cell? ⟨w.heap.size, 1, none⟩ = some (.int .u64 a0) ∧ w'.cell? ⟨w.heap.size + 1, 0, none⟩ = some (.int .i64 b1) ∧ w'.cell? ⟨w.heap.size + 1, 1, none⟩ = some (.int .u64 b0) ∧
      w'.cell? ⟨w.heap.size + 1 + 1, 0, none⟩ = some (.int .i64 c1) ∧ w'.cell? ⟨w.heap.size + 1 + 1, 1, none⟩ = some (.int .u64 c0) ∧ Keeps W.heap.size W w')
    ((refine (fun K => ⟨Keeps.cell K d0 z0, Keeps.cell K d1 z0, Keeps.cell K d2 z1, Keeps.cell K d3 z1, Keeps.cell K d4 zW, Keeps.cell K d5 zW, K⟩) (?_ : Keeps W.heap.size W _); (first | assumption | exact Keeps.alloc (by assumption) _)))
    (first
      | (go_at_call_of 5 (Value.agg #[.int .i64 a1, .int .u64 a0]); go_at_call_of 5 (Value.agg #[.int .i64 b1, .int .u64 b0]); refine (k1 _).mono ?_; rintro e w1 ⟨rfl, hb1⟩; have J1 := Keeps.call (by assumption) hb1)
      | (go_at_call_of 5 (Value.agg #[.int .i64 b1, .int .u64 b0]); go_at_call_of 5 (Value.agg #[.int .i64 c1, .int .u64 c0]); refine (k2 _).mono ?_; rintro e w2 ⟨rfl, hb2⟩; have J2 := Keeps.call (by assumption) hb2)
      | (go_at_call_of 5 (Value.agg #[.int .i64 a1, .int .u64 a0]); go_at_call_of 5 (Value.agg #[.int .i64 c1, .int .u64 c0]); refine (k3 _).mono ?_; rintro e w3 ⟨rfl, hb3⟩; have J3 := Keeps.call (by assumption) hb3))
  have B3 : Below w.heap.size w w3 := BW.trans (J3.below.mono BW.size)
  have y3 := B3.size
  have kA0 := Keeps.cell J3 d0 z0
  have kA1 := Keeps.cell J3 d1 z0
  have kA2 := Keeps.cell J3 d2 z1
  have kA3 := Keeps.cell J3 d3 z1
  have kA4 := Keeps.cell J3 d4 zW
  have kA5 := Keeps.cell J3 d5 zW
  have sA := J3.size
  clear k1 k2 k3 d0 d1 d2 d3 d4 d5 K1 hb1 hb2 J1 J2 hb3 J3 BW
  clear ‹_ ∧ _›
  have zA0 : w.heap.size < w3.heap.size := by omega
  have zA1 : w.heap.size + 1 < w3.heap.size := by omega
  have zA2 : w.heap.size + 1 + 1 < w3.heap.size := by omega
  clear zW z0 z1 sA
  clear W w1 w2
  go_wp2_with fail
  refine (k4 _).mono ?_
  rintro e w4 ⟨rfl, h4⟩
  have B4 := B3.trans (h4.mono B3.size)
  have y4 := B4.size
  have kB0 := (h4.cell (p := ⟨w.heap.size, 0, none⟩) zA0).trans kA0
  have kB1 := (h4.cell (p := ⟨w.heap.size, 1, none⟩) zA0).trans kA1
  have kB2 := (h4.cell (p := ⟨w.heap.size + 1, 0, none⟩) zA1).trans kA2
  have kB3 := (h4.cell (p := ⟨w.heap.size + 1, 1, none⟩) zA1).trans kA3
  have kB4 := (h4.cell (p := ⟨w.heap.size + 1 + 1, 0, none⟩) zA2).trans kA4
  have kB5 := (h4.cell (p := ⟨w.heap.size + 1 + 1, 1, none⟩) zA2).trans kA5
  have zB0 : w.heap.size < w4.heap.size := Nat.lt_of_lt_of_le zA0 h4.size
  have zB1 : w.heap.size + 1 < w4.heap.size := Nat.lt_of_lt_of_le zA1 h4.size
  have zB2 : w.heap.size + 1 + 1 < w4.heap.size := Nat.lt_of_lt_of_le zA2 h4.size
  clear h4 k4 B3 y3 kA0 kA1 kA2 kA3 kA4 kA5 zA0 zA1 zA2
  clear w3
  go_wp2_with fail
  all_goals
    refine (k5 _).mono ?_
    rintro e w5 ⟨rfl, h5⟩
    have B5 := B4.trans (h5.mono B4.size)
    have y5 := B5.size
    have kC2 := (h5.cell (p := ⟨w.heap.size + 1, 0, none⟩) zB1).trans kB2
    have kC3 := (h5.cell (p := ⟨w.heap.size + 1, 1, none⟩) zB1).trans kB3
    have kC4 := (h5.cell (p := ⟨w.heap.size + 1 + 1, 0, none⟩) zB2).trans kB4
    have kC5 := (h5.cell (p := ⟨w.heap.size + 1 + 1, 1, none⟩) zB2).trans kB5
    have zC1 : w.heap.size + 1 < w5.heap.size := Nat.lt_of_lt_of_le zB1 h5.size
    have zC2 : w.heap.size + 1 + 1 < w5.heap.size := Nat.lt_of_lt_of_le zB2 h5.size
    clear h5 k5 B4 y4 kB0 kB1 kB2 kB3 kB4 kB5 zB0 zB1 zB2
    go_wp2_with fail
    refine (k6 _).mono ?_
    rintro e w6 ⟨rfl, h6⟩
    obtain ⟨kD0, fD0, zD0⟩ := live (.int .i64 s1) h6 w5.heap.size 0 (by simp) (by simp [go_sem]) (by simp [go_sem])
    obtain ⟨kD1, fD1, zD1⟩ := live (.int .u64 s0) h6 w5.heap.size 1 (by simp) (by simp [go_sem]) (by simp [go_sem])
    have B6 : Below w.heap.size w w6 := Below.trans (by go_grown) (h6.mono (by simp; omega))
    have y6 := B6.size
    clear h6 k6 B5 kC2 kC3 kC4 kC5 zC1 zC2
    go_wp2_with fail
    refine (k7 _).mono ?_
    rintro e w7 ⟨rfl, h7⟩
    have B7 : Below w.heap.size w w7 := Below.trans (by go_grown) (h7.mono (by simp; omega))
    clear h7 B6
    go_wp2_with fail
    refine (k0 _).mono ?_
    rintro e w8 ⟨rfl, h8⟩
    have B8 : Below w.heap.size w w8 := B7.trans (h8.mono B7.size)
    go_wp2_with fail
    go_returns
    exact ⟨rfl, B8⟩
end Go.Proofs.Ytjnjfdlmfinhfab
