/- alarm: which rules may be. -/
import Derived.Test.YtnlefakicjojdaaAlx
import Derived.Test.YtnlefakicjojdaaWneg
namespace Go.Proofs.Ytnlefakicjojdaa
set_option linter.unusedVariables false
set_option linter.unusedSimpArgs false
open Go.RowKit W Go.Maps
instance (x : Int) : Decidable (Mod100 x) := by unfold Mod100; infer_instance
theorem fits_ab {x : Int} (f : Fits x) : Fits (ab x) ∨ x = -170141183460469231731687303715884105728 := by
  obtain ⟨f1, f2⟩ := f
  unfold ab
  by_cases h : x = -170141183460469231731687303715884105728
  · exact .inr h
  · left; split
    · exact ⟨by omega, by omega⟩
    · exact ⟨by omega, by omega⟩
set_option maxRecDepth 100000 in
set_option maxHeartbeats 4000000 in
theorem moderate_spec (a b : Int) (i : IsW (a, b)) (w : World) :
    Calls Try.prog 43 #[.agg #[.int .i64 a, .int .u64 b]] w fun e w' => e = .returned (.bool (decide (Mod100 (V a b)))) ∧ Below w.heap.size w w' := by
  have ka := abs_spec a b i
  have fv := fits_V i.a i.b
  rcases fits_ab fv with f | f
  · obtain ⟨x1, hx1⟩ : ∃ x, x = hi (ab (V a b)) := ⟨_, rfl⟩
    obtain ⟨x0, hx0⟩ : ∃ x, x = lo (ab (V a b)) := ⟨_, rfl⟩
    have ex : V x1 x0 = ab (V a b) := by rw [hx1, hx0]; exact V_hi_lo _
    have l0 : IsLo x0 := by rw [hx0]; exact isLo_lo _
    unfold sumRes at ka
    rw [resV_fits f, resE_fits f, ← hx1, ← hx0] at ka
    have kc := cmp_spec x1 x0 68719476736 0 l0 isLo_0
    rw [ex] at kc
    obtain ⟨m, hm⟩ : ∃ m, m = cmpI (ab (V a b)) (V 68719476736 0) := ⟨_, rfl⟩
    rw [← hm] at kc
    have E : Hid (decide (Mod100 (V a b)) = decide (m ≤ 0)) := by
      show _ = _
      rw [hm, cmp_le, Bool.eq_iff_iff]
      simp only [decide_eq_true_eq]
      unfold Mod100 ab
      rw [show V 68719476736 0 = 1267650600228229401496703205376 from rfl]
      split <;> constructor <;> intro q <;> omega
    clear hx1 hx0 ex f fv hm
    generalize decide (Mod100 (V a b)) = r at E
    go_enter Try.func43, Try.ntmps43
    go_wp2_with (first | (go_at_call 55; refine (ka _).mono ?_; rintro e w1 ⟨rfl, hb1⟩) | (go_at_call 45; refine (kc _).mono ?_; rintro e w2 ⟨rfl, hb2⟩))
    go_returns
    refine ⟨by rw [E.out]; rfl, ?_⟩
    have b1 : Below w.heap.size w w1 := Below.trans ((Below.refl _ _).alloc (Nat.le_refl _) _) (hb1.mono (by simp))
    have s1 := b1.size
    exact (b1.alloc s1 _).trans (hb2.mono (by simp; omega))
  · have ea : ¬ Fits (ab (V a b)) := by rw [f]; unfold ab; intro q; obtain ⟨q1, q2⟩ := q; simp at q2
    have e : decide (Mod100 (V a b)) = false := by rw [f]; unfold Mod100; simp
    rw [e]
    unfold sumRes at ka
    rw [resV_not ea, resE_not ea] at ka
    generalize hi 0 = h0 at ka
    generalize lo 0 = l0 at ka
    clear ea fv f e
    go_enter Try.func43, Try.ntmps43
    go_wp2_with (first | (go_at_call 55; refine (ka _).mono ?_; rintro e w1 ⟨rfl, hb1⟩))
    go_returns
    refine ⟨rfl, ?_⟩
    have b1 : Below w.heap.size w w1 := Below.trans ((Below.refl _ _).alloc (Nat.le_refl _) _) (hb1.mono (by simp))
    have s1 := b1.size
    exact b1.alloc s1 _
def mayB (R : Ru) : Bool :=
  decide (1 ≤ R.nm.size ∧ R.nm.size ≤ 200) && (decide (Mod100 R.wa) && (decide (Mod100 R.cr) && (decide (Mod100 R.sl) && (decide (0 ≤ R.sl) &&
    ((if R.ab then decide (R.wa ≤ R.cr) else decide (R.cr ≤ R.wa)) && decide (1 ≤ R.fr ∧ R.fr ≤ 1000 ∧ 0 ≤ R.an ∧ R.an ≤ 1000 ∧ 0 ≤ R.ag ∧ R.ag ≤ 1099511627775))))))
def ruV (R : Ru) : Value := .agg #[.string R.nm, .bool R.ab, .int .i64 R.w1, .int .u64 R.w0, .int .i64 R.c1, .int .u64 R.c0, .int .i64 R.s1, .int .u64 R.s0, .int .i64 R.fr, .int .i64 R.an, .int .i64 R.ag]
/-- A rule whose numbers are numbers. -/
structure RuW (R : Ru) : Prop where
  iw : IsW (R.w1, R.w0)
  ic : IsW (R.c1, R.c0)
  is : IsW (R.s1, R.s0)
theorem second_spec (t : Int) (w : World) : CalcN 29 #[.int .i64 t] w (.bool (decide (0 ≤ t ∧ t ≤ 1099511627775))) := by
  have e : decide (0 ≤ t ∧ t ≤ 1099511627775) = (decide (0 ≤ t) && decide (t ≤ 1099511627775)) := by rw [Bool.eq_iff_iff]; simp
  rw [e]
  go_enter Try.func29, Try.ntmps29
  go_wp2
  all_goals
    go_returns
    exact ⟨ret_bool (by first | rfl | (simp; omega)), rfl⟩
theorem nm_empty (p : ByteArray) : p.toList.isEmpty = decide (p.size = 0) := by
  rw [ByteArray.toList_eq]
  have q : p.data.toList.length = p.size := rfl
  rw [← q]
  cases p.data.toList with
  | nil => rfl
  | cons a l => simp
def ruL (R : Ru) : List Value := [.string R.nm, .bool R.ab, .int .i64 R.w1, .int .u64 R.w0, .int .i64 R.c1, .int .u64 R.c0, .int .i64 R.s1, .int .u64 R.s0, .int .i64 R.fr, .int .i64 R.an, .int .i64 R.ag]
theorem lit_le {x : Int} : decide (x < 0) = !decide (0 ≤ x) := by rw [Bool.eq_iff_iff]; simp
set_option maxRecDepth 100000 in
set_option maxHeartbeats 8000000 in
theorem may_spec (R : Ru) (i : RuW R) (w : World) :
    Calls Try.prog 23 #[ruV R] w fun e w' => e = .returned (.bool (mayB R)) ∧ Below w.heap.size w w' := by
  have k1 := moderate_spec R.w1 R.w0 i.iw
  have k2 := moderate_spec R.c1 R.c0 i.ic
  have k3 := moderate_spec R.s1 R.s0 i.is
  have k4 := sign_spec R.s1 R.s0 i.is.b
  have k5 := cmp_spec R.c1 R.c0 R.w1 R.w0 i.ic.b i.iw.b
  have k6 := second_spec R.ag
  have E : Hid (mayB R = (decide (1 ≤ R.nm.size ∧ R.nm.size ≤ 200) && (decide (Mod100 (V R.w1 R.w0)) && (decide (Mod100 (V R.c1 R.c0)) && (decide (Mod100 (V R.s1 R.s0)) && (!decide (cmpI (V R.s1 R.s0) 0 < 0) &&
    ((if R.ab then decide (0 ≤ cmpI (V R.c1 R.c0) (V R.w1 R.w0)) else decide (cmpI (V R.c1 R.c0) (V R.w1 R.w0) ≤ 0)) && (decide (1 ≤ R.fr ∧ R.fr ≤ 1000 ∧ 0 ≤ R.an ∧ R.an ≤ 1000) && decide (0 ≤ R.ag ∧ R.ag ≤ 1099511627775))))))))) := by
    show _ = _
    rw [cmp_ge, cmp_le, lit_le, cmp_ge]
    simp only [Bool.not_not]
    unfold mayB Ru.wa Ru.cr Ru.sl
    congr 6
    rw [Bool.eq_iff_iff]
    simp
    omega

  generalize decide (Mod100 (V R.w1 R.w0)) = m1 at *
  generalize decide (Mod100 (V R.c1 R.c0)) = m2 at *
  generalize decide (Mod100 (V R.s1 R.s0)) = m3 at *
  generalize cmpI (V R.s1 R.s0) 0 = y1 at *
  generalize cmpI (V R.c1 R.c0) (V R.w1 R.w0) = y2 at *
  generalize decide (0 ≤ R.ag ∧ R.ag ≤ 1099511627775) = m6 at *
  generalize mayB R = r at *
  have n1 := nm_empty R.nm
  have RB := hide (Row.new w (ruL R) 53 _ rfl)
  have BW : Below w.heap.size w (w.alloc (.cells (ruL R).toArray 53)) := (Below.refl _ _).alloc (Nat.le_refl _) _
  clear i
  by_cases z0 : R.nm.size = 0
  · rw [decide_eq_true z0] at n1
    have F : Hid (r = false) := by show _ = _; rw [E.out]; simp [z0]
    clear E z0 k1 k2 k3 k4 k5 k6
    unfold ruV
    go_enter Try.func23, Try.ntmps23
    go_wp2_with fail
    go_returns
    exact ⟨by rw [F.out]; rfl, BW⟩
  rw [decide_eq_false z0] at n1
  by_cases z1 : 200 < R.nm.size
  · have z1' : (200 : Int) < (R.nm.size : Int) := by omega
    have F : Hid (r = false) := by show _ = _; rw [E.out, decide_eq_false (by omega)]; rfl
    clear E z0 z1 k1 k2 k3 k4 k5 k6
    unfold ruV
    go_enter Try.func23, Try.ntmps23
    go_wp2_with fail
    go_returns
    exact ⟨by rw [F.out]; rfl, BW⟩
  have z1' : ¬ (200 : Int) < (R.nm.size : Int) := by omega
  rw [decide_eq_true (by omega), Bool.true_and] at E
  clear z0 z1
  unfold ruV
  go_enter Try.func23, Try.ntmps23
  go_wp2_with fail
  refine (k1 _).mono ?_
  rintro e v1 ⟨rfl, hb1⟩
  have R1 := hide (RB.out.later hb1); have B1 := BW.trans (hb1.mono BW.size); clear hb1; have d1_1 := R1.out.at0 1 _ rfl; have d1_2 := R1.out.at0 2 _ rfl; have d1_3 := R1.out.at0 3 _ rfl; have d1_4 := R1.out.at0 4 _ rfl; have d1_5 := R1.out.at0 5 _ rfl; have d1_6 := R1.out.at0 6 _ rfl; have d1_7 := R1.out.at0 7 _ rfl; have d1_8 := R1.out.at0 8 _ rfl; have d1_9 := R1.out.at0 9 _ rfl; have d1_10 := R1.out.at0 10 _ rfl; have lw1 := R1.out.lt
  cases m1
  · go_wp2_with fail
    go_returns
    exact ⟨by rw [E.out]; rfl, B1⟩
  rw [Bool.true_and] at E
  go_wp2_with fail
  refine (k2 _).mono ?_
  rintro e v2 ⟨rfl, hb2⟩
  have R2 := hide (R1.out.later hb2); have B2 := B1.trans (hb2.mono B1.size); clear hb2 d1_1 d1_2 d1_3 d1_4 d1_5 d1_6 d1_7 d1_8 d1_9 d1_10; have d2_1 := R2.out.at0 1 _ rfl; have d2_2 := R2.out.at0 2 _ rfl; have d2_3 := R2.out.at0 3 _ rfl; have d2_4 := R2.out.at0 4 _ rfl; have d2_5 := R2.out.at0 5 _ rfl; have d2_6 := R2.out.at0 6 _ rfl; have d2_7 := R2.out.at0 7 _ rfl; have d2_8 := R2.out.at0 8 _ rfl; have d2_9 := R2.out.at0 9 _ rfl; have d2_10 := R2.out.at0 10 _ rfl; have lw2 := R2.out.lt
  cases m2
  · go_wp2_with fail
    go_returns
    exact ⟨by rw [E.out]; rfl, B2⟩
  rw [Bool.true_and] at E
  go_wp2_with fail
  refine (k3 _).mono ?_
  rintro e v3 ⟨rfl, hb3⟩
  have R3 := hide (R2.out.later hb3); have B3 := B2.trans (hb3.mono B2.size); clear hb3 d2_1 d2_2 d2_3 d2_4 d2_5 d2_6 d2_7 d2_8 d2_9 d2_10; have d3_1 := R3.out.at0 1 _ rfl; have d3_2 := R3.out.at0 2 _ rfl; have d3_3 := R3.out.at0 3 _ rfl; have d3_4 := R3.out.at0 4 _ rfl; have d3_5 := R3.out.at0 5 _ rfl; have d3_6 := R3.out.at0 6 _ rfl; have d3_7 := R3.out.at0 7 _ rfl; have d3_8 := R3.out.at0 8 _ rfl; have d3_9 := R3.out.at0 9 _ rfl; have d3_10 := R3.out.at0 10 _ rfl; have lw3 := R3.out.lt
  cases m3
  · go_wp2_with fail
    go_returns
    exact ⟨by rw [E.out]; rfl, B3⟩
  rw [Bool.true_and] at E
  go_wp2_with fail
  refine (k4 _).mono ?_
  rintro e v4 ⟨rfl, hb4⟩
  have R4 := hide (R3.out.later hb4); have B4 := B3.trans (hb4.mono B3.size); clear hb4 d3_1 d3_2 d3_3 d3_4 d3_5 d3_6 d3_7 d3_8 d3_9 d3_10; have d4_1 := R4.out.at0 1 _ rfl; have d4_2 := R4.out.at0 2 _ rfl; have d4_3 := R4.out.at0 3 _ rfl; have d4_4 := R4.out.at0 4 _ rfl; have d4_5 := R4.out.at0 5 _ rfl; have d4_6 := R4.out.at0 6 _ rfl; have d4_7 := R4.out.at0 7 _ rfl; have d4_8 := R4.out.at0 8 _ rfl; have d4_9 := R4.out.at0 9 _ rfl; have d4_10 := R4.out.at0 10 _ rfl; have lw4 := R4.out.lt
  by_cases q4 : y1 < 0
  · rw [decide_eq_true q4] at E
    go_wp2_with fail
    go_returns
    exact ⟨by rw [E.out]; rfl, B4⟩
  rw [decide_eq_false q4] at E
  go_wp2_with fail
  refine (k5 _).mono ?_
  rintro e v5 ⟨rfl, hb5⟩
  have R5 := hide (R4.out.later hb5); have B5 := B4.trans (hb5.mono B4.size); clear hb5 d4_1 d4_2 d4_3 d4_4 d4_5 d4_6 d4_7 d4_8 d4_9 d4_10; have d5_1 := R5.out.at0 1 _ rfl; have d5_2 := R5.out.at0 2 _ rfl; have d5_3 := R5.out.at0 3 _ rfl; have d5_4 := R5.out.at0 4 _ rfl; have d5_5 := R5.out.at0 5 _ rfl; have d5_6 := R5.out.at0 6 _ rfl; have d5_7 := R5.out.at0 7 _ rfl; have d5_8 := R5.out.at0 8 _ rfl; have d5_9 := R5.out.at0 9 _ rfl; have d5_10 := R5.out.at0 10 _ rfl; have lw5 := R5.out.lt
  have E2 : Hid (r = ((if R.ab then decide (0 ≤ y2) else decide (y2 ≤ 0)) && (decide (1 ≤ R.fr ∧ R.fr ≤ 1000 ∧ 0 ≤ R.an ∧ R.an ≤ 1000) && m6))) := by show _ = _; rw [E.out]; rfl
  clear E
  by_cases q5 : (if R.ab then decide (0 ≤ y2) else decide (y2 ≤ 0)) = true
  · rw [q5, Bool.true_and] at E2
    have K6 : Hid (∀ e w', (e = Ending.returned (.bool m6) ∧ v5 = w') → True) := fun _ _ _ => trivial
    cases hab : R.ab
    all_goals
      rw [hab] at q5 d5_1
      simp at q5
      go_wp2_with (go_at_call 29; refine (k6 _).mono ?_; rintro e w6 ⟨rfl, rfl⟩)
      all_goals
        go_returns
        refine ⟨ret_bool ?_, B5⟩
        rw [E2.out]
        first
        | (rw [decide_eq_false (by omega)]; rfl)
        | (rw [decide_eq_true (by omega)]; rfl)
  · have F : Hid (r = false) := by show _ = _; rw [E2.out]; simp [q5]
    clear E2
    cases hab : R.ab
    all_goals
      rw [hab] at q5 d5_1
      simp at q5
      go_wp2_with fail
      go_returns
      exact ⟨by rw [F.out]; rfl, B5⟩
end Go.Proofs.Ytnlefakicjojdaa
