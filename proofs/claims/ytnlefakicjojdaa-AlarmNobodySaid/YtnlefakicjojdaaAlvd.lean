/- alarm: fromWarn, fromCrit; the level by the state. -/
import Derived.Test.YtnlefakicjojdaaAlvc
namespace Go.Proofs.Ytnlefakicjojdaa
set_option linter.unusedVariables false
set_option linter.unusedSimpArgs false
open Go.RowKit W
set_option maxRecDepth 100000 in
set_option maxHeartbeats 4000000 in
theorem warn_spec {w : World} {b : Nat} {R : Ru} (h : RuAt w b R) (ok : RuOk R) (v1 v0 : Int) (iv : IsW (v1, v0)) :
    Calls Try.prog 56 #[.pointer (some ⟨b, 0, none⟩), .agg #[.int .i64 v1, .int .u64 v0]] w fun e w' => e = .returned (.int .i64 (levW R (V v1 v0))) ∧ Below w.heap.size w w' := by
  have HB := hide h
  have kF := fun (W : World) (k : Below w.heap.size w W) => fine_spec (h.later k) ok v1 v0 iv
  have kN := fun (W : World) (k : Below w.heap.size w W) => near_spec (h.later k) v1 v0 R.w1 R.w0 iv ok.iw ok.is (fits_ok ok).1 (fits_ok ok).2.1
  have hL : Hid (levW R (V v1 v0) = if levF R (V v1 v0) = 1 ∧ bey R.ab (V v1 v0) (eas R.ab (V R.w1 R.w0) R.sl) = true then 2 else levF R (V v1 v0)) := rfl
  obtain ⟨L, eL⟩ : ∃ L, L = levW R (V v1 v0) := ⟨_, rfl⟩
  rw [← eL] at hL
  rw [← eL]
  obtain ⟨F, eF⟩ : ∃ F, F = levF R (V v1 v0) := ⟨_, rfl⟩
  obtain ⟨B1, e1⟩ : ∃ B1, B1 = bey R.ab (V v1 v0) (eas R.ab (V R.w1 R.w0) R.sl) := ⟨_, rfl⟩
  rw [← eF] at kF hL
  rw [← e1] at kN hL
  clear h ok iv eL e1 eF
  go_enter Try.func56, Try.ntmps56
  go_wp2_with (go_at_call 58; refine (kF _ (by go_grown)).mono ?_; rintro e w1 ⟨rfl, hb1⟩)
  refine abs_wp (fun W => W.cell? ⟨w.heap.size, 0, none⟩ = some (.int .i64 v1) ∧ W.cell? ⟨w.heap.size, 1, none⟩ = some (.int .u64 v0) ∧ w.heap.size < W.heap.size ∧ Below w.heap.size w W) ?_ ?_
  · obtain ⟨q1, q2, q3⟩ := bcell hb1
    simp only [World.size_alloc] at q1 q2 q3
    refine ⟨?_, ?_, ?_, ?_⟩
    · first | (rw [q1 _ _ (by omega)]; simp [go_sem]; done)
    · first | (rw [q1 _ _ (by omega)]; simp [go_sem]; done)
    · omega
    · exact Below.trans (((Below.refl _ _).alloc (Nat.le_refl _) _)) (hb1.mono (by simp))
  rintro W ⟨p1, p0, zW, BW⟩
  have HW := hide (HB.out.later BW)
  have r1 := HW.out.k2
  have r0 := HW.out.k3
  have lW := HW.out.lt
  have K0 := Keeps.start (Nat.le_refl W.heap.size)
  have K1 := K0.drew
  clear hb1 kF
  by_cases f1 : F = 1
  · subst f1
    go_region_held3 (fun w' => w'.cell? ⟨w.heap.size, 0, none⟩ = some (.int .i64 v1) ∧ w'.cell? ⟨w.heap.size, 1, none⟩ = some (.int .u64 v0) ∧ w'.cell? ⟨b, 2, none⟩ = some (.int .i64 R.w1) ∧ w'.cell? ⟨b, 3, none⟩ = some (.int .u64 R.w0) ∧ Keeps W.heap.size W w') ((refine (fun K => ⟨Keeps.cell K p1 zW, Keeps.cell K p0 zW, Keeps.cell K r1 lW, Keeps.cell K r0 lW, K⟩) (?_ : Keeps W.heap.size W _); (repeat (first | assumption | refine Keeps.alloc ?_ _ | refine Keeps.drew ?_ | refine Keeps.setCell ?_ (by first | (simp; done) | omega | (simp; omega)) _)))) ((go_at_call 62; (with_reducible refine (kN _ (BW.trans ((by assumption : Keeps W.heap.size W _).below.mono BW.size))).mono ?_); rintro e v20 ⟨rfl, hbv20⟩; have K20 := Keeps.call (B := W.heap.size) (W := W) (by (repeat (first | assumption | refine Keeps.alloc ?_ _ | refine Keeps.drew ?_ | refine Keeps.setCell ?_ (by first | (simp; done) | omega | (simp; omega)) _))) hbv20))
    all_goals
      have BE := BW.trans (K20.below.mono BW.size)
      cases B1
      all_goals
        go_wp2_with fail
        go_returns
        exact ⟨by rw [hL.out]; rfl, BE⟩
  · have f2 : (F == 1) = false := by simpa using f1
    go_quiet (fail)
    go_wp2_with fail
    go_returns
    refine ⟨by rw [hL.out, if_neg (by omega)]; rfl, ?_⟩
    first | exact BW.drew | exact below_drewN BW _ | exact BW
set_option maxRecDepth 100000 in
set_option maxHeartbeats 4000000 in
theorem crit_spec {w : World} {b : Nat} {R : Ru} (h : RuAt w b R) (ok : RuOk R) (v1 v0 : Int) (iv : IsW (v1, v0)) :
    Calls Try.prog 57 #[.pointer (some ⟨b, 0, none⟩), .agg #[.int .i64 v1, .int .u64 v0]] w fun e w' => e = .returned (.int .i64 (levC R (V v1 v0))) ∧ Below w.heap.size w w' := by
  have HB := hide h
  have kF := fun (W : World) (k : Below w.heap.size w W) => warn_spec (h.later k) ok v1 v0 iv
  have kN := fun (W : World) (k : Below w.heap.size w W) => near_spec (h.later k) v1 v0 R.c1 R.c0 iv ok.ic ok.is (fits_ok ok).2.2.1 (fits_ok ok).2.2.2
  have hL : Hid (levC R (V v1 v0) = if bey R.ab (V v1 v0) (eas R.ab (V R.c1 R.c0) R.sl) = true then 3 else levW R (V v1 v0)) := rfl
  obtain ⟨L, eL⟩ : ∃ L, L = levC R (V v1 v0) := ⟨_, rfl⟩
  rw [← eL] at hL
  rw [← eL]
  obtain ⟨F, eF⟩ : ∃ F, F = levW R (V v1 v0) := ⟨_, rfl⟩
  obtain ⟨B1, e1⟩ : ∃ B1, B1 = bey R.ab (V v1 v0) (eas R.ab (V R.c1 R.c0) R.sl) := ⟨_, rfl⟩
  rw [← eF] at kF hL
  rw [← e1] at kN hL
  clear h ok iv eL e1 eF
  go_enter Try.func57, Try.ntmps57
  go_wp2_with fail
  refine abs_wp (fun W => W.cell? ⟨w.heap.size, 0, none⟩ = some (.int .i64 v1) ∧ W.cell? ⟨w.heap.size, 1, none⟩ = some (.int .u64 v0) ∧ w.heap.size < W.heap.size ∧ Below w.heap.size w W) ?_ ?_
  · refine ⟨?_, ?_, ?_, ?_⟩
    all_goals first | assumption | (go_grown; done) | (simp [go_sem]; done) | (simp; done) | (simp; omega)
  rintro W ⟨p1, p0, zW, BW⟩
  have HW := hide (HB.out.later BW)
  have r1 := HW.out.k4
  have r0 := HW.out.k5
  have lW := HW.out.lt
  have K0 := Keeps.start (Nat.le_refl W.heap.size)
  have K1 := K0.drew
  go_region_held3 (fun w' => w'.cell? ⟨w.heap.size, 0, none⟩ = some (.int .i64 v1) ∧ w'.cell? ⟨w.heap.size, 1, none⟩ = some (.int .u64 v0) ∧ w'.cell? ⟨b, 4, none⟩ = some (.int .i64 R.c1) ∧ w'.cell? ⟨b, 5, none⟩ = some (.int .u64 R.c0) ∧ Keeps W.heap.size W w') ((refine (fun K => ⟨Keeps.cell K p1 zW, Keeps.cell K p0 zW, Keeps.cell K r1 lW, Keeps.cell K r0 lW, K⟩) (?_ : Keeps W.heap.size W _); (repeat (first | assumption | refine Keeps.alloc ?_ _ | refine Keeps.drew ?_ | refine Keeps.setCell ?_ (by first | (simp; done) | omega | (simp; omega)) _)))) ((go_at_call 62; (with_reducible refine (kN _ (BW.trans ((by assumption : Keeps W.heap.size W _).below.mono BW.size))).mono ?_); rintro e v20 ⟨rfl, hbv20⟩; have K20 := Keeps.call (B := W.heap.size) (W := W) (by (repeat (first | assumption | refine Keeps.alloc ?_ _ | refine Keeps.drew ?_ | refine Keeps.setCell ?_ (by first | (simp; done) | omega | (simp; omega)) _))) hbv20))
  all_goals
    have pp1 := K20.cell p1 zW
    have pp0 := K20.cell p0 zW
    have BV := BW.trans (K20.below.mono BW.size)
    clear K0 K1
    cases B1
    · go_wp2_with (go_at_call 56; refine (kF _ BV).mono ?_; rintro e w1 ⟨rfl, hb1⟩)
      go_returns
      exact ⟨by rw [hL.out]; rfl, BV.trans (hb1.mono BV.size)⟩
    · go_wp2_with fail
      go_returns
      exact ⟨by rw [hL.out]; rfl, BV⟩
end Go.Proofs.Ytnlefakicjojdaa
