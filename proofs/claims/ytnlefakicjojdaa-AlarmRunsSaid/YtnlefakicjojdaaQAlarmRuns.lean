/- Texts that belong together: Alk1 Alk2 Alk3 Alk4 Alk5 Alk6 Alk7 Alk8 Alk9 Alrt Lawar FAlarmRuns. -/
import Derived.Test.YtnlefakicjojdaaG06
import Derived.Test.YtnlefakicjojdaaG03
import Derived.Deep.RegionLaw
import Derived.Deep.DeepCutAuto
import Derived.Maps.AppendAt
import Derived.Laws.AppendOwnNone
import Derived.Laws.OwnMore
import Derived.Test.YtnlefakicjojdaaG04
import Derived.Deep.Slices
import Derived.Test.YtnlefakicjojdaaRows
import Derived.WalkKit
import Derived.ProofKit
import Derived.OpenShut
import Derived.ShutString
import Derived.ChangeOld
import Derived.Below
import Derived.SizedLaws
import Derived.Deep.SlicePairs
set_option linter.unusedSimpArgs false
set_option linter.unusedVariables false
/- alarm: the reference's level of a value. -/
namespace Go.Proofs.Ytnlefakicjojdaa
set_option linter.unusedVariables false
set_option linter.unusedSimpArgs false
open Go.RowKit W Go.Maps
/-- The level as the definition says it. -/
def rlev (R : Ru) (st v : Int) : Int :=
  if bey R.ab v R.cr = true ∨ (st = 3 ∧ bey R.ab v (eas R.ab R.cr R.sl) = true) then 3
  else if bey R.ab v R.wa = true ∨ ((st = 2 ∨ st = 3) ∧ bey R.ab v (eas R.ab R.wa R.sl) = true) then 2 else 1
theorem bey_eas {R : Ru} (s0 : 0 ≤ R.sl) {v t : Int} (h : bey R.ab v t = true) : bey R.ab v (eas R.ab t R.sl) = true := by
  unfold bey eas at *
  cases hab : R.ab
  · rw [hab] at h
    simp only [Bool.false_eq_true, if_false, decide_eq_true_eq] at h ⊢
    omega
  · rw [hab] at h
    simp only [if_true, decide_eq_true_eq] at h ⊢
    omega
theorem rlev_lev {R : Ru} (s0 : 0 ≤ R.sl) (st v : Int) : rlev R st v = lev R st v := by
  have h1 : bey R.ab v R.cr = true → bey R.ab v (eas R.ab R.cr R.sl) = true := bey_eas s0
  have h2 : bey R.ab v R.wa = true → bey R.ab v (eas R.ab R.wa R.sl) = true := bey_eas s0
  unfold rlev lev levC levW levF
  generalize bey R.ab v R.cr = a at *
  generalize bey R.ab v (eas R.ab R.cr R.sl) = b at *
  generalize bey R.ab v R.wa = c at *
  generalize bey R.ab v (eas R.ab R.wa R.sl) = d at *
  by_cases s2 : st = 2
  · subst s2
    cases a <;> cases b <;> cases c <;> cases d <;> simp_all
  · by_cases s3 : st = 3
    · subst s3
      cases a <;> cases b <;> cases c <;> cases d <;> simp_all
    · cases a <;> cases b <;> cases c <;> cases d <;> simp_all
theorem eas_zero (ab : Bool) (t : Int) : eas ab t (V 0 0) = t := by
  unfold eas
  have : V 0 0 = 0 := by simp [V]
  rw [this]
  cases ab <;> simp
theorem cells11 {w : World} {b : Nat} {R : Ru} (h : Row w b 0 (ruL R)) : w.cell? ⟨b, 0, none⟩ = some (.string R.nm) ∧ w.cell? ⟨b, 1, none⟩ = some (.bool R.ab) ∧ w.cell? ⟨b, 2, none⟩ = some (.int .i64 R.w1) ∧ w.cell? ⟨b, 3, none⟩ = some (.int .u64 R.w0) ∧ w.cell? ⟨b, 4, none⟩ = some (.int .i64 R.c1) ∧ w.cell? ⟨b, 5, none⟩ = some (.int .u64 R.c0) ∧ w.cell? ⟨b, 6, none⟩ = some (.int .i64 R.s1) ∧ w.cell? ⟨b, 7, none⟩ = some (.int .u64 R.s0) ∧ w.cell? ⟨b, 8, none⟩ = some (.int .i64 R.fr) ∧ w.cell? ⟨b, 9, none⟩ = some (.int .i64 R.an) ∧ w.cell? ⟨b, 10, none⟩ = some (.int .i64 R.ag) ∧ b < w.heap.size :=
  ⟨h.at0 0 _ rfl, h.at0 1 _ rfl, h.at0 2 _ rfl, h.at0 3 _ rfl, h.at0 4 _ rfl, h.at0 5 _ rfl, h.at0 6 _ rfl, h.at0 7 _ rfl, h.at0 8 _ rfl, h.at0 9 _ rfl, h.at0 10 _ rfl, h.lt⟩
theorem cells2 {w : World} {b : Nat} {x y : Value} (h : Row w b 0 [x, y]) : w.cell? ⟨b, 0, none⟩ = some x ∧ w.cell? ⟨b, 1, none⟩ = some y ∧ b < w.heap.size := ⟨h.at0 0 _ rfl, h.at0 1 _ rfl, h.lt⟩
theorem below_next {A X Y : World} (q : Below A.heap.size A X) (r : Below X.heap.size X Y) : Below A.heap.size A Y := q.trans (r.mono q.size)
set_option maxRecDepth 100000 in
set_option maxHeartbeats 8000000 in
theorem rlevel_spec (R : Ru) (i : RuW R) (st v1 v0 : Int) (iv : IsW (v1, v0)) (w : World) :
    Calls Try.prog 49 #[ruV R, .int .i64 st, .agg #[.int .i64 v1, .int .u64 v0]] w fun e w' => e = .returned (.int .i64 (rlev R st (V v1 v0))) ∧ Below w.heap.size w w' := by
  have iz : IsW (0, 0) := ⟨isHi_0, isLo_0⟩
  have kA := fun W => rbeyond_spec R v1 v0 R.c1 R.c0 0 0 iv i.ic iz W
  have kB := fun W => rbeyond_spec R v1 v0 R.c1 R.c0 R.s1 R.s0 iv i.ic i.is W
  have kC := fun W => rbeyond_spec R v1 v0 R.w1 R.w0 0 0 iv i.iw iz W
  have kD := fun W => rbeyond_spec R v1 v0 R.w1 R.w0 R.s1 R.s0 iv i.iw i.is W
  simp only [eas_zero] at kA kC
  have HV : Hid (rlev R st (V v1 v0) = if bey R.ab (V v1 v0) (V R.c1 R.c0) = true ∨ (st = 3 ∧ bey R.ab (V v1 v0) (eas R.ab (V R.c1 R.c0) (V R.s1 R.s0)) = true) then 3
  else if bey R.ab (V v1 v0) (V R.w1 R.w0) = true ∨ ((st = 2 ∨ st = 3) ∧ bey R.ab (V v1 v0) (eas R.ab (V R.w1 R.w0) (V R.s1 R.s0)) = true) then 2 else 1) := rfl
  obtain ⟨X, hX⟩ : ∃ X, X = rlev R st (V v1 v0) := ⟨_, rfl⟩
  rw [← hX] at HV ⊢
  clear hX
  generalize bey R.ab (V v1 v0) (V R.c1 R.c0) = a at kA HV
  generalize bey R.ab (V v1 v0) (eas R.ab (V R.c1 R.c0) (V R.s1 R.s0)) = b at kB HV
  generalize bey R.ab (V v1 v0) (V R.w1 R.w0) = c at kC HV
  generalize bey R.ab (V v1 v0) (eas R.ab (V R.w1 R.w0) (V R.s1 R.s0)) = d at kD HV
  clear iv iz i
  have B0 : Below w.heap.size w ((w.alloc (.cells (ruL R).toArray 53)).alloc (.cells #[.int .i64 v1, .int .u64 v0] 36)) := ((Below.refl _ _).alloc (Nat.le_refl _) _).alloc (by simp) _
  have RB := hide ((Row.new w (ruL R) 53 _ rfl).later ((Below.refl _ _).alloc (Nat.le_refl _) (.cells #[.int .i64 v1, .int .u64 v0] 36)))
  have VB := hide (Row.new' (w.alloc (.cells (ruL R).toArray 53)) [.int .i64 v1, .int .u64 v0] 36 (w.heap.size + 1) (by simp))
  go_enter Try.func49, Try.ntmps49
  go_upto_region 1 with (fail)
  refine abs_wp (fun W => Hid (Row W w.heap.size 0 (ruL R)) ∧ Hid (Row W (w.heap.size + 1) 0 [.int .i64 v1, .int .u64 v0]) ∧ Hid (Below w.heap.size w W)) ⟨RB, VB, hide B0⟩ ?_
  rintro W1 ⟨R1, V1, B1⟩
  clear RB VB B0
  have H := fun (Y : World) (b : Below W1.heap.size W1 Y) => show Row Y w.heap.size 0 (ruL R) ∧ Row Y (w.heap.size + 1) 0 [.int .i64 v1, .int .u64 v0] from ⟨R1.out.later b, V1.out.later b⟩
  have HH := hide H
  clear H
  unfold ruV at kA kB kC kD
  have E := Below.refl W1.heap.size W1
  obtain ⟨q0, q1, q2, q3, q4, q5, q6, q7, q8, q9, q10, ql⟩ := cells11 (HH.out _ E).1
  obtain ⟨p0, p1, pl⟩ := cells2 (HH.out _ E).2
  by_cases s3 : st = 3
  · subst s3
    cases a
    · cases b
      · cases c
        · cases d
          · go_wp2_with (first | (go_at_call 20; (with_reducible refine Calls.mono (kA _) ?_); rintro e u ⟨rfl, hu⟩; have E := below_next E hu; clear hu; clear q0 q1 q2 q3 q4 q5 q6 q7 q8 q9 q10 ql p0 p1 pl; obtain ⟨q0, q1, q2, q3, q4, q5, q6, q7, q8, q9, q10, ql⟩ := cells11 (HH.out _ E).1; obtain ⟨p0, p1, pl⟩ := cells2 (HH.out _ E).2) | (go_at_call 20; (with_reducible refine Calls.mono (kB _) ?_); rintro e u ⟨rfl, hu⟩; have E := below_next E hu; clear hu; clear q0 q1 q2 q3 q4 q5 q6 q7 q8 q9 q10 ql p0 p1 pl; obtain ⟨q0, q1, q2, q3, q4, q5, q6, q7, q8, q9, q10, ql⟩ := cells11 (HH.out _ E).1; obtain ⟨p0, p1, pl⟩ := cells2 (HH.out _ E).2) | (go_at_call 20; (with_reducible refine Calls.mono (kC _) ?_); rintro e u ⟨rfl, hu⟩; have E := below_next E hu; clear hu; clear q0 q1 q2 q3 q4 q5 q6 q7 q8 q9 q10 ql p0 p1 pl; obtain ⟨q0, q1, q2, q3, q4, q5, q6, q7, q8, q9, q10, ql⟩ := cells11 (HH.out _ E).1; obtain ⟨p0, p1, pl⟩ := cells2 (HH.out _ E).2) | (go_at_call 20; (with_reducible refine Calls.mono (kD _) ?_); rintro e u ⟨rfl, hu⟩; have E := below_next E hu; clear hu; clear q0 q1 q2 q3 q4 q5 q6 q7 q8 q9 q10 ql p0 p1 pl; obtain ⟨q0, q1, q2, q3, q4, q5, q6, q7, q8, q9, q10, ql⟩ := cells11 (HH.out _ E).1; obtain ⟨p0, p1, pl⟩ := cells2 (HH.out _ E).2))
            go_returns
            exact ⟨by rw [HV.out]; simp [*], B1.out.trans (E.mono B1.out.size)⟩
          · go_wp2_with (first | (go_at_call 20; (with_reducible refine Calls.mono (kA _) ?_); rintro e u ⟨rfl, hu⟩; have E := below_next E hu; clear hu; clear q0 q1 q2 q3 q4 q5 q6 q7 q8 q9 q10 ql p0 p1 pl; obtain ⟨q0, q1, q2, q3, q4, q5, q6, q7, q8, q9, q10, ql⟩ := cells11 (HH.out _ E).1; obtain ⟨p0, p1, pl⟩ := cells2 (HH.out _ E).2) | (go_at_call 20; (with_reducible refine Calls.mono (kB _) ?_); rintro e u ⟨rfl, hu⟩; have E := below_next E hu; clear hu; clear q0 q1 q2 q3 q4 q5 q6 q7 q8 q9 q10 ql p0 p1 pl; obtain ⟨q0, q1, q2, q3, q4, q5, q6, q7, q8, q9, q10, ql⟩ := cells11 (HH.out _ E).1; obtain ⟨p0, p1, pl⟩ := cells2 (HH.out _ E).2) | (go_at_call 20; (with_reducible refine Calls.mono (kC _) ?_); rintro e u ⟨rfl, hu⟩; have E := below_next E hu; clear hu; clear q0 q1 q2 q3 q4 q5 q6 q7 q8 q9 q10 ql p0 p1 pl; obtain ⟨q0, q1, q2, q3, q4, q5, q6, q7, q8, q9, q10, ql⟩ := cells11 (HH.out _ E).1; obtain ⟨p0, p1, pl⟩ := cells2 (HH.out _ E).2) | (go_at_call 20; (with_reducible refine Calls.mono (kD _) ?_); rintro e u ⟨rfl, hu⟩; have E := below_next E hu; clear hu; clear q0 q1 q2 q3 q4 q5 q6 q7 q8 q9 q10 ql p0 p1 pl; obtain ⟨q0, q1, q2, q3, q4, q5, q6, q7, q8, q9, q10, ql⟩ := cells11 (HH.out _ E).1; obtain ⟨p0, p1, pl⟩ := cells2 (HH.out _ E).2))
            go_returns
            exact ⟨by rw [HV.out]; simp [*], B1.out.trans (E.mono B1.out.size)⟩
        · go_wp2_with (first | (go_at_call 20; (with_reducible refine Calls.mono (kA _) ?_); rintro e u ⟨rfl, hu⟩; have E := below_next E hu; clear hu; clear q0 q1 q2 q3 q4 q5 q6 q7 q8 q9 q10 ql p0 p1 pl; obtain ⟨q0, q1, q2, q3, q4, q5, q6, q7, q8, q9, q10, ql⟩ := cells11 (HH.out _ E).1; obtain ⟨p0, p1, pl⟩ := cells2 (HH.out _ E).2) | (go_at_call 20; (with_reducible refine Calls.mono (kB _) ?_); rintro e u ⟨rfl, hu⟩; have E := below_next E hu; clear hu; clear q0 q1 q2 q3 q4 q5 q6 q7 q8 q9 q10 ql p0 p1 pl; obtain ⟨q0, q1, q2, q3, q4, q5, q6, q7, q8, q9, q10, ql⟩ := cells11 (HH.out _ E).1; obtain ⟨p0, p1, pl⟩ := cells2 (HH.out _ E).2) | (go_at_call 20; (with_reducible refine Calls.mono (kC _) ?_); rintro e u ⟨rfl, hu⟩; have E := below_next E hu; clear hu; clear q0 q1 q2 q3 q4 q5 q6 q7 q8 q9 q10 ql p0 p1 pl; obtain ⟨q0, q1, q2, q3, q4, q5, q6, q7, q8, q9, q10, ql⟩ := cells11 (HH.out _ E).1; obtain ⟨p0, p1, pl⟩ := cells2 (HH.out _ E).2) | (go_at_call 20; (with_reducible refine Calls.mono (kD _) ?_); rintro e u ⟨rfl, hu⟩; have E := below_next E hu; clear hu; clear q0 q1 q2 q3 q4 q5 q6 q7 q8 q9 q10 ql p0 p1 pl; obtain ⟨q0, q1, q2, q3, q4, q5, q6, q7, q8, q9, q10, ql⟩ := cells11 (HH.out _ E).1; obtain ⟨p0, p1, pl⟩ := cells2 (HH.out _ E).2))
          go_returns
          exact ⟨by rw [HV.out]; simp [*], B1.out.trans (E.mono B1.out.size)⟩
      · go_wp2_with (first | (go_at_call 20; (with_reducible refine Calls.mono (kA _) ?_); rintro e u ⟨rfl, hu⟩; have E := below_next E hu; clear hu; clear q0 q1 q2 q3 q4 q5 q6 q7 q8 q9 q10 ql p0 p1 pl; obtain ⟨q0, q1, q2, q3, q4, q5, q6, q7, q8, q9, q10, ql⟩ := cells11 (HH.out _ E).1; obtain ⟨p0, p1, pl⟩ := cells2 (HH.out _ E).2) | (go_at_call 20; (with_reducible refine Calls.mono (kB _) ?_); rintro e u ⟨rfl, hu⟩; have E := below_next E hu; clear hu; clear q0 q1 q2 q3 q4 q5 q6 q7 q8 q9 q10 ql p0 p1 pl; obtain ⟨q0, q1, q2, q3, q4, q5, q6, q7, q8, q9, q10, ql⟩ := cells11 (HH.out _ E).1; obtain ⟨p0, p1, pl⟩ := cells2 (HH.out _ E).2) | (go_at_call 20; (with_reducible refine Calls.mono (kC _) ?_); rintro e u ⟨rfl, hu⟩; have E := below_next E hu; clear hu; clear q0 q1 q2 q3 q4 q5 q6 q7 q8 q9 q10 ql p0 p1 pl; obtain ⟨q0, q1, q2, q3, q4, q5, q6, q7, q8, q9, q10, ql⟩ := cells11 (HH.out _ E).1; obtain ⟨p0, p1, pl⟩ := cells2 (HH.out _ E).2) | (go_at_call 20; (with_reducible refine Calls.mono (kD _) ?_); rintro e u ⟨rfl, hu⟩; have E := below_next E hu; clear hu; clear q0 q1 q2 q3 q4 q5 q6 q7 q8 q9 q10 ql p0 p1 pl; obtain ⟨q0, q1, q2, q3, q4, q5, q6, q7, q8, q9, q10, ql⟩ := cells11 (HH.out _ E).1; obtain ⟨p0, p1, pl⟩ := cells2 (HH.out _ E).2))
        go_returns
        exact ⟨by rw [HV.out]; simp [*], B1.out.trans (E.mono B1.out.size)⟩
    · go_wp2_with (first | (go_at_call 20; (with_reducible refine Calls.mono (kA _) ?_); rintro e u ⟨rfl, hu⟩; have E := below_next E hu; clear hu; clear q0 q1 q2 q3 q4 q5 q6 q7 q8 q9 q10 ql p0 p1 pl; obtain ⟨q0, q1, q2, q3, q4, q5, q6, q7, q8, q9, q10, ql⟩ := cells11 (HH.out _ E).1; obtain ⟨p0, p1, pl⟩ := cells2 (HH.out _ E).2) | (go_at_call 20; (with_reducible refine Calls.mono (kB _) ?_); rintro e u ⟨rfl, hu⟩; have E := below_next E hu; clear hu; clear q0 q1 q2 q3 q4 q5 q6 q7 q8 q9 q10 ql p0 p1 pl; obtain ⟨q0, q1, q2, q3, q4, q5, q6, q7, q8, q9, q10, ql⟩ := cells11 (HH.out _ E).1; obtain ⟨p0, p1, pl⟩ := cells2 (HH.out _ E).2) | (go_at_call 20; (with_reducible refine Calls.mono (kC _) ?_); rintro e u ⟨rfl, hu⟩; have E := below_next E hu; clear hu; clear q0 q1 q2 q3 q4 q5 q6 q7 q8 q9 q10 ql p0 p1 pl; obtain ⟨q0, q1, q2, q3, q4, q5, q6, q7, q8, q9, q10, ql⟩ := cells11 (HH.out _ E).1; obtain ⟨p0, p1, pl⟩ := cells2 (HH.out _ E).2) | (go_at_call 20; (with_reducible refine Calls.mono (kD _) ?_); rintro e u ⟨rfl, hu⟩; have E := below_next E hu; clear hu; clear q0 q1 q2 q3 q4 q5 q6 q7 q8 q9 q10 ql p0 p1 pl; obtain ⟨q0, q1, q2, q3, q4, q5, q6, q7, q8, q9, q10, ql⟩ := cells11 (HH.out _ E).1; obtain ⟨p0, p1, pl⟩ := cells2 (HH.out _ E).2))
      go_returns
      exact ⟨by rw [HV.out]; simp [*], B1.out.trans (E.mono B1.out.size)⟩
  · have s3' : (st == 3) = false := by simpa using s3
    by_cases s2 : st = 2
    · subst s2
      cases a
      · cases c
        · cases d
          · go_wp2_with (first | (go_at_call 20; (with_reducible refine Calls.mono (kA _) ?_); rintro e u ⟨rfl, hu⟩; have E := below_next E hu; clear hu; clear q0 q1 q2 q3 q4 q5 q6 q7 q8 q9 q10 ql p0 p1 pl; obtain ⟨q0, q1, q2, q3, q4, q5, q6, q7, q8, q9, q10, ql⟩ := cells11 (HH.out _ E).1; obtain ⟨p0, p1, pl⟩ := cells2 (HH.out _ E).2) | (go_at_call 20; (with_reducible refine Calls.mono (kB _) ?_); rintro e u ⟨rfl, hu⟩; have E := below_next E hu; clear hu; clear q0 q1 q2 q3 q4 q5 q6 q7 q8 q9 q10 ql p0 p1 pl; obtain ⟨q0, q1, q2, q3, q4, q5, q6, q7, q8, q9, q10, ql⟩ := cells11 (HH.out _ E).1; obtain ⟨p0, p1, pl⟩ := cells2 (HH.out _ E).2) | (go_at_call 20; (with_reducible refine Calls.mono (kC _) ?_); rintro e u ⟨rfl, hu⟩; have E := below_next E hu; clear hu; clear q0 q1 q2 q3 q4 q5 q6 q7 q8 q9 q10 ql p0 p1 pl; obtain ⟨q0, q1, q2, q3, q4, q5, q6, q7, q8, q9, q10, ql⟩ := cells11 (HH.out _ E).1; obtain ⟨p0, p1, pl⟩ := cells2 (HH.out _ E).2) | (go_at_call 20; (with_reducible refine Calls.mono (kD _) ?_); rintro e u ⟨rfl, hu⟩; have E := below_next E hu; clear hu; clear q0 q1 q2 q3 q4 q5 q6 q7 q8 q9 q10 ql p0 p1 pl; obtain ⟨q0, q1, q2, q3, q4, q5, q6, q7, q8, q9, q10, ql⟩ := cells11 (HH.out _ E).1; obtain ⟨p0, p1, pl⟩ := cells2 (HH.out _ E).2))
            go_returns
            exact ⟨by rw [HV.out]; simp [*], B1.out.trans (E.mono B1.out.size)⟩
          · go_wp2_with (first | (go_at_call 20; (with_reducible refine Calls.mono (kA _) ?_); rintro e u ⟨rfl, hu⟩; have E := below_next E hu; clear hu; clear q0 q1 q2 q3 q4 q5 q6 q7 q8 q9 q10 ql p0 p1 pl; obtain ⟨q0, q1, q2, q3, q4, q5, q6, q7, q8, q9, q10, ql⟩ := cells11 (HH.out _ E).1; obtain ⟨p0, p1, pl⟩ := cells2 (HH.out _ E).2) | (go_at_call 20; (with_reducible refine Calls.mono (kB _) ?_); rintro e u ⟨rfl, hu⟩; have E := below_next E hu; clear hu; clear q0 q1 q2 q3 q4 q5 q6 q7 q8 q9 q10 ql p0 p1 pl; obtain ⟨q0, q1, q2, q3, q4, q5, q6, q7, q8, q9, q10, ql⟩ := cells11 (HH.out _ E).1; obtain ⟨p0, p1, pl⟩ := cells2 (HH.out _ E).2) | (go_at_call 20; (with_reducible refine Calls.mono (kC _) ?_); rintro e u ⟨rfl, hu⟩; have E := below_next E hu; clear hu; clear q0 q1 q2 q3 q4 q5 q6 q7 q8 q9 q10 ql p0 p1 pl; obtain ⟨q0, q1, q2, q3, q4, q5, q6, q7, q8, q9, q10, ql⟩ := cells11 (HH.out _ E).1; obtain ⟨p0, p1, pl⟩ := cells2 (HH.out _ E).2) | (go_at_call 20; (with_reducible refine Calls.mono (kD _) ?_); rintro e u ⟨rfl, hu⟩; have E := below_next E hu; clear hu; clear q0 q1 q2 q3 q4 q5 q6 q7 q8 q9 q10 ql p0 p1 pl; obtain ⟨q0, q1, q2, q3, q4, q5, q6, q7, q8, q9, q10, ql⟩ := cells11 (HH.out _ E).1; obtain ⟨p0, p1, pl⟩ := cells2 (HH.out _ E).2))
            go_returns
            exact ⟨by rw [HV.out]; simp [*], B1.out.trans (E.mono B1.out.size)⟩
        · go_wp2_with (first | (go_at_call 20; (with_reducible refine Calls.mono (kA _) ?_); rintro e u ⟨rfl, hu⟩; have E := below_next E hu; clear hu; clear q0 q1 q2 q3 q4 q5 q6 q7 q8 q9 q10 ql p0 p1 pl; obtain ⟨q0, q1, q2, q3, q4, q5, q6, q7, q8, q9, q10, ql⟩ := cells11 (HH.out _ E).1; obtain ⟨p0, p1, pl⟩ := cells2 (HH.out _ E).2) | (go_at_call 20; (with_reducible refine Calls.mono (kB _) ?_); rintro e u ⟨rfl, hu⟩; have E := below_next E hu; clear hu; clear q0 q1 q2 q3 q4 q5 q6 q7 q8 q9 q10 ql p0 p1 pl; obtain ⟨q0, q1, q2, q3, q4, q5, q6, q7, q8, q9, q10, ql⟩ := cells11 (HH.out _ E).1; obtain ⟨p0, p1, pl⟩ := cells2 (HH.out _ E).2) | (go_at_call 20; (with_reducible refine Calls.mono (kC _) ?_); rintro e u ⟨rfl, hu⟩; have E := below_next E hu; clear hu; clear q0 q1 q2 q3 q4 q5 q6 q7 q8 q9 q10 ql p0 p1 pl; obtain ⟨q0, q1, q2, q3, q4, q5, q6, q7, q8, q9, q10, ql⟩ := cells11 (HH.out _ E).1; obtain ⟨p0, p1, pl⟩ := cells2 (HH.out _ E).2) | (go_at_call 20; (with_reducible refine Calls.mono (kD _) ?_); rintro e u ⟨rfl, hu⟩; have E := below_next E hu; clear hu; clear q0 q1 q2 q3 q4 q5 q6 q7 q8 q9 q10 ql p0 p1 pl; obtain ⟨q0, q1, q2, q3, q4, q5, q6, q7, q8, q9, q10, ql⟩ := cells11 (HH.out _ E).1; obtain ⟨p0, p1, pl⟩ := cells2 (HH.out _ E).2))
          go_returns
          exact ⟨by rw [HV.out]; simp [*], B1.out.trans (E.mono B1.out.size)⟩
      · go_wp2_with (first | (go_at_call 20; (with_reducible refine Calls.mono (kA _) ?_); rintro e u ⟨rfl, hu⟩; have E := below_next E hu; clear hu; clear q0 q1 q2 q3 q4 q5 q6 q7 q8 q9 q10 ql p0 p1 pl; obtain ⟨q0, q1, q2, q3, q4, q5, q6, q7, q8, q9, q10, ql⟩ := cells11 (HH.out _ E).1; obtain ⟨p0, p1, pl⟩ := cells2 (HH.out _ E).2) | (go_at_call 20; (with_reducible refine Calls.mono (kB _) ?_); rintro e u ⟨rfl, hu⟩; have E := below_next E hu; clear hu; clear q0 q1 q2 q3 q4 q5 q6 q7 q8 q9 q10 ql p0 p1 pl; obtain ⟨q0, q1, q2, q3, q4, q5, q6, q7, q8, q9, q10, ql⟩ := cells11 (HH.out _ E).1; obtain ⟨p0, p1, pl⟩ := cells2 (HH.out _ E).2) | (go_at_call 20; (with_reducible refine Calls.mono (kC _) ?_); rintro e u ⟨rfl, hu⟩; have E := below_next E hu; clear hu; clear q0 q1 q2 q3 q4 q5 q6 q7 q8 q9 q10 ql p0 p1 pl; obtain ⟨q0, q1, q2, q3, q4, q5, q6, q7, q8, q9, q10, ql⟩ := cells11 (HH.out _ E).1; obtain ⟨p0, p1, pl⟩ := cells2 (HH.out _ E).2) | (go_at_call 20; (with_reducible refine Calls.mono (kD _) ?_); rintro e u ⟨rfl, hu⟩; have E := below_next E hu; clear hu; clear q0 q1 q2 q3 q4 q5 q6 q7 q8 q9 q10 ql p0 p1 pl; obtain ⟨q0, q1, q2, q3, q4, q5, q6, q7, q8, q9, q10, ql⟩ := cells11 (HH.out _ E).1; obtain ⟨p0, p1, pl⟩ := cells2 (HH.out _ E).2))
        go_returns
        exact ⟨by rw [HV.out]; simp [*], B1.out.trans (E.mono B1.out.size)⟩
    · have s2' : (st == 2) = false := by simpa using s2
      cases a
      · cases c
        · go_wp2_with (first | (go_at_call 20; (with_reducible refine Calls.mono (kA _) ?_); rintro e u ⟨rfl, hu⟩; have E := below_next E hu; clear hu; clear q0 q1 q2 q3 q4 q5 q6 q7 q8 q9 q10 ql p0 p1 pl; obtain ⟨q0, q1, q2, q3, q4, q5, q6, q7, q8, q9, q10, ql⟩ := cells11 (HH.out _ E).1; obtain ⟨p0, p1, pl⟩ := cells2 (HH.out _ E).2) | (go_at_call 20; (with_reducible refine Calls.mono (kB _) ?_); rintro e u ⟨rfl, hu⟩; have E := below_next E hu; clear hu; clear q0 q1 q2 q3 q4 q5 q6 q7 q8 q9 q10 ql p0 p1 pl; obtain ⟨q0, q1, q2, q3, q4, q5, q6, q7, q8, q9, q10, ql⟩ := cells11 (HH.out _ E).1; obtain ⟨p0, p1, pl⟩ := cells2 (HH.out _ E).2) | (go_at_call 20; (with_reducible refine Calls.mono (kC _) ?_); rintro e u ⟨rfl, hu⟩; have E := below_next E hu; clear hu; clear q0 q1 q2 q3 q4 q5 q6 q7 q8 q9 q10 ql p0 p1 pl; obtain ⟨q0, q1, q2, q3, q4, q5, q6, q7, q8, q9, q10, ql⟩ := cells11 (HH.out _ E).1; obtain ⟨p0, p1, pl⟩ := cells2 (HH.out _ E).2) | (go_at_call 20; (with_reducible refine Calls.mono (kD _) ?_); rintro e u ⟨rfl, hu⟩; have E := below_next E hu; clear hu; clear q0 q1 q2 q3 q4 q5 q6 q7 q8 q9 q10 ql p0 p1 pl; obtain ⟨q0, q1, q2, q3, q4, q5, q6, q7, q8, q9, q10, ql⟩ := cells11 (HH.out _ E).1; obtain ⟨p0, p1, pl⟩ := cells2 (HH.out _ E).2))
          go_returns
          exact ⟨by rw [HV.out]; simp [*], B1.out.trans (E.mono B1.out.size)⟩
        · go_wp2_with (first | (go_at_call 20; (with_reducible refine Calls.mono (kA _) ?_); rintro e u ⟨rfl, hu⟩; have E := below_next E hu; clear hu; clear q0 q1 q2 q3 q4 q5 q6 q7 q8 q9 q10 ql p0 p1 pl; obtain ⟨q0, q1, q2, q3, q4, q5, q6, q7, q8, q9, q10, ql⟩ := cells11 (HH.out _ E).1; obtain ⟨p0, p1, pl⟩ := cells2 (HH.out _ E).2) | (go_at_call 20; (with_reducible refine Calls.mono (kB _) ?_); rintro e u ⟨rfl, hu⟩; have E := below_next E hu; clear hu; clear q0 q1 q2 q3 q4 q5 q6 q7 q8 q9 q10 ql p0 p1 pl; obtain ⟨q0, q1, q2, q3, q4, q5, q6, q7, q8, q9, q10, ql⟩ := cells11 (HH.out _ E).1; obtain ⟨p0, p1, pl⟩ := cells2 (HH.out _ E).2) | (go_at_call 20; (with_reducible refine Calls.mono (kC _) ?_); rintro e u ⟨rfl, hu⟩; have E := below_next E hu; clear hu; clear q0 q1 q2 q3 q4 q5 q6 q7 q8 q9 q10 ql p0 p1 pl; obtain ⟨q0, q1, q2, q3, q4, q5, q6, q7, q8, q9, q10, ql⟩ := cells11 (HH.out _ E).1; obtain ⟨p0, p1, pl⟩ := cells2 (HH.out _ E).2) | (go_at_call 20; (with_reducible refine Calls.mono (kD _) ?_); rintro e u ⟨rfl, hu⟩; have E := below_next E hu; clear hu; clear q0 q1 q2 q3 q4 q5 q6 q7 q8 q9 q10 ql p0 p1 pl; obtain ⟨q0, q1, q2, q3, q4, q5, q6, q7, q8, q9, q10, ql⟩ := cells11 (HH.out _ E).1; obtain ⟨p0, p1, pl⟩ := cells2 (HH.out _ E).2))
          go_returns
          exact ⟨by rw [HV.out]; simp [*], B1.out.trans (E.mono B1.out.size)⟩
      · go_wp2_with (first | (go_at_call 20; (with_reducible refine Calls.mono (kA _) ?_); rintro e u ⟨rfl, hu⟩; have E := below_next E hu; clear hu; clear q0 q1 q2 q3 q4 q5 q6 q7 q8 q9 q10 ql p0 p1 pl; obtain ⟨q0, q1, q2, q3, q4, q5, q6, q7, q8, q9, q10, ql⟩ := cells11 (HH.out _ E).1; obtain ⟨p0, p1, pl⟩ := cells2 (HH.out _ E).2) | (go_at_call 20; (with_reducible refine Calls.mono (kB _) ?_); rintro e u ⟨rfl, hu⟩; have E := below_next E hu; clear hu; clear q0 q1 q2 q3 q4 q5 q6 q7 q8 q9 q10 ql p0 p1 pl; obtain ⟨q0, q1, q2, q3, q4, q5, q6, q7, q8, q9, q10, ql⟩ := cells11 (HH.out _ E).1; obtain ⟨p0, p1, pl⟩ := cells2 (HH.out _ E).2) | (go_at_call 20; (with_reducible refine Calls.mono (kC _) ?_); rintro e u ⟨rfl, hu⟩; have E := below_next E hu; clear hu; clear q0 q1 q2 q3 q4 q5 q6 q7 q8 q9 q10 ql p0 p1 pl; obtain ⟨q0, q1, q2, q3, q4, q5, q6, q7, q8, q9, q10, ql⟩ := cells11 (HH.out _ E).1; obtain ⟨p0, p1, pl⟩ := cells2 (HH.out _ E).2) | (go_at_call 20; (with_reducible refine Calls.mono (kD _) ?_); rintro e u ⟨rfl, hu⟩; have E := below_next E hu; clear hu; clear q0 q1 q2 q3 q4 q5 q6 q7 q8 q9 q10 ql p0 p1 pl; obtain ⟨q0, q1, q2, q3, q4, q5, q6, q7, q8, q9, q10, ql⟩ := cells11 (HH.out _ E).1; obtain ⟨p0, p1, pl⟩ := cells2 (HH.out _ E).2))
        go_returns
        exact ⟨by rw [HV.out]; simp [*], B1.out.trans (E.mono B1.out.size)⟩
end Go.Proofs.Ytnlefakicjojdaa
/- alarm: the reference's rule as it stands: gap, value. -/
namespace Go.Proofs.Ytnlefakicjojdaa
set_option linter.unusedVariables false
set_option linter.unusedSimpArgs false
open Go.RowKit W Go.Maps
/-- A rule as the definition keeps it. -/
def kpl (R : Ru) (s : St) : List Value := ruL R ++ [.int .i64 s.st, .int .i64 s.said, .int .i64 s.when, .int .i64 s.cand, .int .i64 s.runs, .int .i64 s.gaps, .int .i64 s.last, .int .i64 s.mute]
theorem kpl_len (R : Ru) (s : St) : (kpl R s).length = 19 := rfl
/-- Only cells of the row at o in the block g have changed. -/
structure KM (g o : Nat) (w w' : World) : Prop where
  mod : Mod [g] w w'
  out : ∀ k, k < o ∨ o + 19 ≤ k → w'.cell? ⟨g, k, none⟩ = w.cell? ⟨g, k, none⟩ ∧ w'.frozen? ⟨g, k, none⟩ = w.frozen? ⟨g, k, none⟩
theorem KM.refl (g o : Nat) (w : World) : KM g o w w := ⟨Mod.refl _ _, fun _ _ => ⟨rfl, rfl⟩⟩
theorem KM.trans {g o : Nat} {a b c : World} (h : KM g o a b) (k : KM g o b c) : KM g o a c := ⟨h.mod.trans k.mod, fun j q => ⟨(k.out j q).1.trans (h.out j q).1, (k.out j q).2.trans (h.out j q).2⟩⟩
theorem KM.later {g o : Nat} {a b c : World} (h : KM g o a b) (lt : g < a.heap.size) (k : Below b.heap.size b c) : KM g o a c :=
  h.trans ⟨Mod.of_below k, fun j q => ⟨k.cell (p := ⟨g, j, none⟩) (Nat.lt_of_lt_of_le lt h.mod.size), by unfold World.frozen?; rw [k.block g (Nat.lt_of_lt_of_le lt h.mod.size)]⟩⟩
theorem KM.set {g o : Nat} {a b : World} (h : KM g o a b) (k : Nat) (hk : k < 19) (v : Value) : KM g o a (b.setCell ⟨g, o + k, none⟩ v) :=
  h.trans ⟨(Mod.refl [g] b).setCell (by simp) _, fun j q => ⟨by rw [World.cell?_setCell_other (h := by intro e; injection e with _ e _; omega)], by rw [World.frozen?_setCell]⟩⟩
theorem KM.row {g o o2 : Nat} {a b : World} {l : List Value} (h : KM g o a b) (r : Row a g o2 l) (d : o2 + l.length ≤ o ∨ o + 19 ≤ o2) : Row b g o2 l :=
  ⟨Nat.lt_of_lt_of_le r.lt h.mod.size, fun k hk => (h.out (o2 + k) (by omega)).1.trans (r.cell k hk), fun k hk => (h.out (o2 + k) (by omega)).2.trans (r.free k hk)⟩
theorem KM.drewN {g o : Nat} {a b : World} (h : KM g o a b) (n : Nat) : KM g o a (b.drewN n) := ⟨h.mod.drewN n, h.out⟩
def KPost (g o : Nat) (R : Ru) (s : St) (w : World) (e : Ending) (w' : World) : Prop := e = .returned (.tuple #[]) ∧ Row w' g o (kpl R s) ∧ KM g o w w'
set_option maxRecDepth 100000 in
set_option maxHeartbeats 4000000 in
theorem rgap_spec {w : World} {g o : Nat} {R : Ru} {s : St} (h : Row w g o (kpl R s)) :
    Calls Try.prog 34 #[.pointer (some ⟨g, o, none⟩)] w (KPost g o R (gapS R s) w) := by
  have lt := h.lt
  have c9 := h.at 9 _ rfl
  have c11 := h.at 11 _ rfl
  have c14 := h.at 14 _ rfl
  have c15 := h.at 15 _ rfl
  have c16 := h.at 16 _ rfl
  have f11 := h.fr 11 (by simp [kpl, ruL])
  have f14 := h.fr 14 (by simp [kpl, ruL])
  have f15 := h.fr 15 (by simp [kpl, ruL])
  have f16 := h.fr 16 (by simp [kpl, ruL])
  obtain ⟨z, hz⟩ : ∃ z, IntKind.i64.wrap (s.gaps + 1) = z := ⟨_, rfl⟩
  have R1 : Hid (∀ n, Row ((((w.setCell ⟨g, o + 16, none⟩ (.int .i64 z)).setCell ⟨g, o + 14, none⟩ (.int .i64 0)).setCell ⟨g, o + 15, none⟩ (.int .i64 0)).drewN n) g o (kpl R (gap1 s))) := by
    intro n
    have r := (((h.set 16 (by simp [kpl, ruL]) (.int .i64 z)).set 14 (by simp [kpl, ruL]) (.int .i64 0)).set 15 (by simp [kpl, ruL]) (.int .i64 0)).drewN n
    rw [← hz] at r ⊢
    exact r
  have M1 : Hid (∀ n, KM g o w ((((w.setCell ⟨g, o + 16, none⟩ (.int .i64 z)).setCell ⟨g, o + 14, none⟩ (.int .i64 0)).setCell ⟨g, o + 15, none⟩ (.int .i64 0)).drewN n)) :=
    fun n => ((((KM.refl g o w).set 16 (by omega) _).set 14 (by omega) _).set 15 (by omega) _).drewN n
  have GG : Hid ((gap1 s).gaps = z) := hz
  obtain ⟨an, an0⟩ : ∃ an, an = R.an := ⟨_, rfl⟩
  rw [← an0] at c9
  clear h
  by_cases p : 0 < an
  · by_cases q : an ≤ z
    · have e : Hid (gapS R s = entS (gap1 s) 4) := by show _ = _; unfold gapS; rw [if_pos]; rw [GG.out, ← an0]; exact ⟨p, q⟩
      have p' : decide (0 < an) = true := decide_eq_true p
      have q' : decide (an ≤ z) = true := decide_eq_true q
      clear an0
      go_enter Try.func34, Try.ntmps34
      go_wp2_with fail
      go_quiet (fail)
      go_wp2_with fail
      go_end0
      rw [e.out]
      exact ⟨rfl, (R1.out _).set 11 (by simp [kpl, ruL]) (.int .i64 4), (M1.out _).set 11 (by omega) _⟩
    · have e : Hid (gapS R s = gap1 s) := by show _ = _; unfold gapS; rw [if_neg]; rw [GG.out, ← an0]; exact fun z => q z.2
      have q' : decide (an ≤ z) = false := decide_eq_false q
      clear an0
      go_enter Try.func34, Try.ntmps34
      go_wp2_with fail
      go_quiet (fail)
      go_wp2_with fail
      go_end0
      rw [e.out]
      exact ⟨rfl, R1.out _, M1.out _⟩
  · have e : Hid (gapS R s = gap1 s) := by show _ = _; unfold gapS; rw [if_neg]; rw [← an0]; exact fun z => p z.1
    have p' : decide (0 < an) = false := decide_eq_false p
    clear an0
    go_enter Try.func34, Try.ntmps34
    go_wp2_with fail
    go_quiet (fail)
    go_wp2_with fail
    go_end0
    rw [e.out]
    exact ⟨rfl, R1.out _, M1.out _⟩
set_option maxRecDepth 100000 in
set_option maxHeartbeats 8000000 in
theorem rvalue_spec {w : World} {g o : Nat} {R : Ru} (i : RuW R) (s0 : 0 ≤ R.sl) {s : St} (h : Row w g o (kpl R s)) (v1 v0 : Int) (iv : IsW (v1, v0)) :
    Calls Try.prog 33 #[.pointer (some ⟨g, o, none⟩), .agg #[.int .i64 v1, .int .u64 v0]] w (KPost g o R (valS R s (V v1 v0)) w) := by
  have lt := h.lt
  have c16 := h.at 16 _ rfl
  have f16 := h.fr 16 (by simp [kpl, ruL])
  have KL := fun W => rlevel_spec R i s.st v1 v0 iv W
  obtain ⟨l, hl⟩ : ∃ l, l = rlev R s.st (V v1 v0) := ⟨_, rfl⟩
  rw [← hl] at KL
  have HV : Hid (valS R s (V v1 v0) = movS R { s with gaps := 0 } l) := hide (by rw [hl, rlev_lev s0]; rfl)
  have H0 := hide h
  have W0 : World := w
  clear hl h
  obtain ⟨VS, hvs⟩ : ∃ VS, VS = valS R s (V v1 v0) := ⟨_, rfl⟩
  rw [← hvs] at HV ⊢
  clear hvs iv
  go_enter Try.func33, Try.ntmps33
  go_upto_region 2 with (fail)
  refine abs_wp (fun W => Hid (Row W g o (kpl R { s with gaps := 0 })) ∧ Hid (Row W w.heap.size 0 [.int .i64 v1, .int .u64 v0]) ∧ Hid (KM g o w W) ∧ g < w.heap.size) ⟨hide ?_, hide ?_, hide ?_, lt⟩ ?_
  · exact (H0.out.set 16 (by simp [kpl, ruL]) (.int .i64 0)).later ((Below.refl _ _).alloc (Nat.le_refl _) _)
  · exact Row.new' (w.setCell ⟨g, o + 16, none⟩ (.int .i64 0)) [.int .i64 v1, .int .u64 v0] 36 w.heap.size (by simp)
  · exact ((KM.refl g o w).set 16 (by omega) (.int .i64 0)).later lt ((Below.refl _ _).alloc (Nat.le_refl _) _)
  rintro W1 ⟨R1, V1, M1, lg⟩
  clear c16 f16 lt H0
  obtain ⟨p0, p1, pl⟩ := cells2 V1.out
  have q0 := R1.out.at 0 _ rfl
  have q1 := R1.out.at 1 _ rfl
  have q2 := R1.out.at 2 _ rfl
  have q3 := R1.out.at 3 _ rfl
  have q4 := R1.out.at 4 _ rfl
  have q5 := R1.out.at 5 _ rfl
  have q6 := R1.out.at 6 _ rfl
  have q7 := R1.out.at 7 _ rfl
  have q8 := R1.out.at 8 _ rfl
  have q9 := R1.out.at 9 _ rfl
  have q10 := R1.out.at 10 _ rfl
  have q11 := R1.out.at 11 _ rfl
  have ql := R1.out.lt
  unfold ruV at KL
  simp only [Nat.add_zero] at q0
  go_cut [4] from 8 to 17 (fun x W' => x = .int .i64 l ∧ Hid (Below W1.heap.size W1 W'))
  case first =>
    go_region_law (go_simp; go_at_call 49; go_loud (refine Calls.mono (KL _) ?_); go_loud (rintro e w3 ⟨rfl, b3⟩); have B3 := hide (below_next (show Below W1.heap.size W1 W1.drew from (Below.refl _ _).drew) b3); clear b3)
    all_goals
      go_wp2_with fail
      go_meet
      case rel => exact ⟨rfl, B3⟩
  case rest =>
    obtain ⟨rfl, B3⟩ := hcut
    clear q0 q1 q2 q3 q4 q5 q6 q7 q8 q9 q10 q11 ql p0 p1 pl KL
    have R2 := hide (R1.out.later B3.out)
    have M2 := hide (M1.out.later lg B3.out)
    clear R1 V1 M1 B3
    have c11 := R2.out.at 11 _ rfl
    have c14 := R2.out.at 14 _ rfl
    have c15 := R2.out.at 15 _ rfl
    have c8 := R2.out.at 8 _ rfl
    have f11 := R2.out.fr 11 (by simp [kpl, ruL])
    have f14 := R2.out.fr 14 (by simp [kpl, ruL])
    have f15 := R2.out.fr 15 (by simp [kpl, ruL])
    have ql := R2.out.lt
    simp only at c11 c14 c15
    by_cases hA : l = s.st
    · have hA' : (l == s.st) = true := by simpa using hA
      have E : Hid (VS = { s with gaps := 0, cand := 0, runs := 0 }) := hide (by rw [HV.out]; unfold movS; rw [if_pos hA])
      clear hA
      go_wp2_with fail
      go_end0
      rw [E.out]
      exact ⟨rfl, (R2.out.set 14 (by simp [kpl, ruL]) (.int .i64 0)).set 15 (by simp [kpl, ruL]) (.int .i64 0), (M2.out.set 14 (by omega) _).set 15 (by omega) _⟩
    · have hA' : (l == s.st) = false := by simpa using hA
      by_cases hB : s.st = 4 ∨ l < s.st
      · have E : Hid (VS = entS { s with gaps := 0 } l) := hide (by rw [HV.out]; unfold movS; rw [if_neg hA, if_pos hB])
        have HB := hide hB
        clear hA hB
        have fin : Hid (KPost g o R VS w (.returned (.tuple #[])) (((wc.setCell ⟨g, o + 11, none⟩ (.int .i64 l)).setCell ⟨g, o + 14, none⟩ (.int .i64 0)).setCell ⟨g, o + 15, none⟩ (.int .i64 0))) := by
          rw [E.out]
          exact hide ⟨rfl, ((R2.out.set 11 (by simp [kpl, ruL]) (.int .i64 l)).set 14 (by simp [kpl, ruL]) (.int .i64 0)).set 15 (by simp [kpl, ruL]) (.int .i64 0), ((M2.out.set 11 (by omega) _).set 14 (by omega) _).set 15 (by omega) _⟩
        by_cases h4 : s.st = 4
        · have h4' : (s.st == 4) = true := by simpa using h4
          have h4n : (s.st != 4) = false := by simpa using h4
          clear h4
          go_wp2_with fail
          go_end0
          exact fin.out
        · have h4' : (s.st == 4) = false := by simpa using h4
          have hlt : ¬ s.st < l := by have := HB.out; omega
          have h4n : (s.st != 4) = true := by simpa using h4
          clear h4
          go_wp2_with fail
          go_end0
          exact fin.out
      · have h4 : ¬ s.st = 4 := fun e => hB (.inl e)
        have h4' : (s.st == 4) = false := by simpa using h4
        have hlt : s.st < l := by omega
        have h4n : (s.st != 4) = true := by simpa using h4
        have HM : Hid (VS = if R.fr ≤ (mov1 { s with gaps := 0 } l).runs then entS (mov1 { s with gaps := 0 } l) l else mov1 { s with gaps := 0 } l) := hide (by rw [HV.out]; unfold movS; rw [if_neg hA, if_neg hB])
        clear hA hB h4
        by_cases hc : s.cand = l
        · have hc' : (s.cand == l) = true := by simpa using hc
          have hcn : (s.cand != l) = false := by simpa using hc
          have e1 : mov1 { s with gaps := 0 } l = { s with gaps := 0, runs := pl1 s.runs } := by unfold mov1; rw [if_pos hc]
          rw [e1] at HM
          obtain ⟨z, hz⟩ : ∃ z, z = IntKind.i64.wrap (s.runs + 1) := ⟨_, rfl⟩
          have hz2 : pl1 s.runs = z := hz.symm
          rw [hz2] at HM
          have hz3 : IntKind.i64.wrap (s.runs + 1) = z := hz.symm
          have R3 := hide (R2.out.set 15 (by simp [kpl, ruL]) (.int .i64 z))
          have M3 := hide (M2.out.set 15 (by omega) (.int .i64 z))
          clear hc hz hz2 e1
          go_upto_region 9 with (fail)
          generalize (wc.setCell ⟨g, o + 15, none⟩ (.int .i64 z)) = W3 at R3 M3 ⊢
          clear c11 c14 c15 c8 f11 f14 f15 ql
          have c11 := R3.out.at 11 _ rfl
          have c14 := R3.out.at 14 _ rfl
          have c15 := R3.out.at 15 _ rfl
          have c8 := R3.out.at 8 _ rfl
          have f11 := R3.out.fr 11 (by simp [kpl, ruL])
          have f14 := R3.out.fr 14 (by simp [kpl, ruL])
          have f15 := R3.out.fr 15 (by simp [kpl, ruL])
          have ql := R3.out.lt
          by_cases hr : z < R.fr
          · have hr' : decide (z < R.fr) = true := decide_eq_true hr
            have E := hide (HM.out.trans (if_neg (by (try simp only); omega)))
            clear hr
            go_quiet (fail)
            go_wp2_with fail
            go_end0
            rw [E.out]
            exact ⟨rfl, R3.out.drewN _, M3.out.drewN _⟩
          · have hr' : decide (z < R.fr) = false := decide_eq_false hr
            have E := hide (HM.out.trans (if_pos (by (try simp only); omega)))
            clear hr
            go_quiet (fail)
            go_wp2_with fail
            go_end0
            rw [E.out]
            exact ⟨rfl, (((R3.out.drewN nq).set 11 (by simp [kpl, ruL]) (.int .i64 l)).set 14 (by simp [kpl, ruL]) (.int .i64 0)).set 15 (by simp [kpl, ruL]) (.int .i64 0), (((M3.out.drewN nq).set 11 (by omega) _).set 14 (by omega) _).set 15 (by omega) _⟩
        · have hc' : (s.cand == l) = false := by simpa using hc
          have hcn : (s.cand != l) = true := by simpa using hc
          have e1 : mov1 { s with gaps := 0 } l = { s with gaps := 0, cand := l, runs := pl1 0 } := by unfold mov1; rw [if_neg hc]
          rw [e1] at HM
          have hz2 : pl1 0 = 1 := by decide
          rw [hz2] at HM
          have R3 := hide (((R2.out.set 14 (by simp [kpl, ruL]) (.int .i64 l)).set 15 (by simp [kpl, ruL]) (.int .i64 0)).set 15 (by simp [kpl, ruL]) (.int .i64 1))
          have M3 := hide (((M2.out.set 14 (by omega) (.int .i64 l)).set 15 (by omega) (.int .i64 0)).set 15 (by omega) (.int .i64 1))
          clear hc e1 hz2
          go_upto_region 9 with (fail)
          generalize (((wc.setCell ⟨g, o + 14, none⟩ (.int .i64 l)).setCell ⟨g, o + 15, none⟩ (.int .i64 0)).setCell ⟨g, o + 15, none⟩ (.int .i64 1)) = W3 at R3 M3 ⊢
          clear c11 c14 c15 c8 f11 f14 f15 ql
          have c11 := R3.out.at 11 _ rfl
          have c14 := R3.out.at 14 _ rfl
          have c15 := R3.out.at 15 _ rfl
          have c8 := R3.out.at 8 _ rfl
          have f11 := R3.out.fr 11 (by simp [kpl, ruL])
          have f14 := R3.out.fr 14 (by simp [kpl, ruL])
          have f15 := R3.out.fr 15 (by simp [kpl, ruL])
          have ql := R3.out.lt
          by_cases hr : 1 < R.fr
          · have hr' : decide (1 < R.fr) = true := decide_eq_true hr
            have E := hide (HM.out.trans (if_neg (by (try simp only); omega)))
            clear hr
            go_quiet (fail)
            go_wp2_with fail
            go_end0
            rw [E.out]
            exact ⟨rfl, R3.out.drewN _, M3.out.drewN _⟩
          · have hr' : decide (1 < R.fr) = false := decide_eq_false hr
            have E := hide (HM.out.trans (if_pos (by (try simp only); omega)))
            clear hr
            go_quiet (fail)
            go_wp2_with fail
            go_end0
            rw [E.out]
            exact ⟨rfl, (((R3.out.drewN nq).set 11 (by simp [kpl, ruL]) (.int .i64 l)).set 14 (by simp [kpl, ruL]) (.int .i64 0)).set 15 (by simp [kpl, ruL]) (.int .i64 0), (((M3.out.drewN nq).set 11 (by omega) _).set 14 (by omega) _).set 15 (by omega) _⟩
end Go.Proofs.Ytnlefakicjojdaa
/- alarm: the reference's book: find, State, Mute. -/
namespace Go.Proofs.Ytnlefakicjojdaa
set_option linter.unusedVariables false
set_option linter.unusedSimpArgs false
open Go.RowKit W Go.Maps
abbrev En := Ru × St
/-- The reference's book: its box gb, its rules' rows in the block g. -/
structure RbA (w : World) (gb g : Nat) (L : List En) : Prop where
  c0 : ∃ a cap, w.cell? ⟨gb, 0, none⟩ = some (.slice a L.length cap) ∧ (L ≠ [] → a = some ⟨g, 0, none⟩)
  lt : gb < w.heap.size
  ne : gb ≠ g
  row : ∀ i (h : i < L.length), Row w g (i * 19) (kpl L[i].1 L[i].2)
/-- The first rule of a name. -/
def fi (L : List En) (nm : ByteArray) : Option Nat := L.findIdx? fun x => decide (x.1.nm = nm)
def fiV (L : List En) (nm : ByteArray) : Int := match fi L nm with
  | some i => (i : Int)
  | none => -1
theorem fi_some {L : List En} {nm : ByteArray} {i : Nat} (h : i < L.length) (e : L[i].1.nm = nm) (n : ∀ j (q : j < i), L[j].1.nm ≠ nm) : fi L nm = some i := by
  unfold fi
  rw [List.findIdx?_eq_some_iff_getElem]
  exact ⟨h, by simpa using e, fun j hj => by simpa using n j hj⟩
theorem fi_none {L : List En} {nm : ByteArray} (n : ∀ j (q : j < L.length), L[j].1.nm ≠ nm) : fi L nm = none := by
  unfold fi
  rw [List.findIdx?_eq_none_iff]
  intro x hx
  obtain ⟨j, hj, rfl⟩ := List.getElem_of_mem hx
  simpa using n j hj
theorem RbA.later {w w' : World} {gb g : Nat} {L : List En} (h : RbA w gb g L) (b : Below w.heap.size w w') : RbA w' gb g L := by
  obtain ⟨a, cap, c, q⟩ := h.c0
  exact ⟨⟨a, cap, (b.cell (p := ⟨gb, 0, none⟩) h.lt).trans c, q⟩, Nat.lt_of_lt_of_le h.lt b.size, h.ne, fun i hi => (h.row i hi).later b⟩
set_option maxRecDepth 100000 in
set_option maxHeartbeats 4000000 in
theorem rfind_spec {w : World} {gb g : Nat} {L : List En} (h : RbA w gb g L) (nm : ByteArray) (hs : L.length ≤ 1000000) :
    CalcN 25 #[.pointer (some ⟨gb, 0, none⟩), .string nm] w (.int .i64 (fiV L nm)) := by
  obtain ⟨a, cap, c0, ha⟩ := h.c0
  have lt := h.lt
  have H := hide h
  have HA := hide ha
  obtain ⟨V, hV⟩ : ∃ V, V = fiV L nm := ⟨_, rfl⟩
  rw [← hV]
  have HV := hide hV
  obtain ⟨n, hn⟩ : ∃ n, n = L.length := ⟨_, rfl⟩
  rw [← hn] at c0 hs
  have NN := hide hn
  clear h ha hV hn
  go_enter Try.func25, Try.ntmps25
  go_wp2_with fail
  go_loopw [5] (fun i wr => ∃ k : Nat, k ≤ n ∧ i = .int .i64 k ∧ wr = w ∧ Hid (∀ j (h : j < L.length), j < k → L[j].1.nm ≠ nm)) (fun i _ => n - (intOf i).toNat)
  case atStart => exact ⟨0, by omega, rfl, rfl, fun j h q => by omega⟩
  case round =>
    obtain ⟨k, hk, rfl, rfl, NT⟩ := hrel
    by_cases hlt : k < n
    · have hkl : k < L.length := by rw [← NN.out]; exact hlt
      obtain rfl := HA.out (by intro e; rw [e] at hkl; simp at hkl)
      have x0 := (H.out.row k hkl).at 0 _ rfl
      have lg := (H.out.row k hkl).lt
      rw [Nat.add_zero] at x0
      have hlt' : (k : Int) < (n : Int) := by omega
      have hk0 : (0 : Int) ≤ (k : Int) := by omega
      obtain ⟨xn, hx⟩ : ∃ xn, xn = L[k].1.nm := ⟨_, rfl⟩
      rw [← hx] at x0
      by_cases e : xn = nm
      · have F : Hid (V = (k : Int)) := hide (by rw [HV.out]; unfold fiV; rw [fi_some hkl (by rw [← hx]; exact e) (fun j hj => NT.out j (by omega) hj)])
        subst e
        clear hx hkl
        go_wp2_with fail
        go_returns
        exact ⟨by rw [F.out]; rfl, rfl⟩
      · have ne2 := toL_ne e
        have ne3 := beq_eq_false_iff_ne.2 ne2
        have NX : Hid (∀ j (h : j < L.length), j < k + 1 → L[j].1.nm ≠ nm) := hide (fun j h q => by
          by_cases ej : j = k
          · subst ej; rw [← hx]; exact e
          · exact NT.out j h (by omega))
        clear hx hkl e
        go_wp2_with fail
        go_roundw
        case rel => exact ⟨k + 1, by omega, by go_num, by first | rfl | trivial, NX⟩
        case measure => simp [intOf]; omega
    · obtain rfl : k = n := by omega
      have hlt' : ¬ (k : Int) < (k : Int) := by omega
      have F : Hid (V = -1) := hide (by rw [HV.out]; unfold fiV; rw [fi_none (fun j q => NT.out j q (by rw [NN.out]; exact q))])
      go_wp2_with fail
      go_returns
      exact ⟨by rw [F.out]; rfl, rfl⟩
set_option maxRecDepth 100000 in
set_option maxHeartbeats 4000000 in
theorem rstate_spec {w : World} {gb g : Nat} {L : List En} (h : RbA w gb g L) (nm : ByteArray) (hs : L.length ≤ 1000000) :
    CalcN 18 #[.pointer (some ⟨gb, 0, none⟩), .string nm] w (match fi L nm with
      | some i => .tuple #[.int .i64 (L.getD i (⟨⟨#[]⟩, false, 0, 0, 0, 0, 0, 0, 0, 0, 0⟩, st0)).2.st, .bool true]
      | none => .tuple #[.int .i64 0, .bool false]) := by
  have KF := rfind_spec h nm hs
  unfold fiV at KF
  cases e : fi L nm with
  | none =>
    rw [e] at KF
    clear e
    go_enter Try.func18, Try.ntmps18
    go_wp2_with (go_at_call 25; go_loud (refine Calls.mono KF ?_); go_loud (rintro e w2 ⟨rfl, rfl⟩))
    go_returns
    exact ⟨rfl, rfl⟩
  | some i =>
    rw [e] at KF
    have hi : i < L.length := by
      unfold fi at e
      rw [List.findIdx?_eq_some_iff_getElem] at e
      exact e.1
    obtain ⟨a, cap, c0, ha⟩ := h.c0
    obtain rfl := ha (by intro q; rw [q] at hi; simp at hi)
    have x11 := (h.row i hi).at 11 _ rfl
    have lg := (h.row i hi).lt
    have lt := h.lt
    have e2 : L.getD i (⟨⟨#[]⟩, false, 0, 0, 0, 0, 0, 0, 0, 0, 0⟩, st0) = L[i] := by simp [hi]
    simp only [e2]
    generalize L[i].2.st = z at x11 ⊢
    have hi0 : (0 : Int) ≤ (i : Int) := by omega
    have hi1 : ¬ (i : Int) < 0 := by omega
    obtain ⟨n, hn⟩ : ∃ n, n = L.length := ⟨_, rfl⟩
    rw [← hn] at c0
    have hi2 : (i : Int) < (n : Int) := by omega
    clear e h ha hi e2 hn
    go_enter Try.func18, Try.ntmps18
    go_wp2_with (go_at_call 25; go_loud (refine Calls.mono KF ?_); go_loud (rintro e w2 ⟨rfl, rfl⟩))
    go_returns
    exact ⟨rfl, rfl⟩
theorem muR_yes {t : Int} (a : 0 ≤ t ∧ t ≤ 1099511627775) : muR t = 0 := by unfold muR; rw [if_pos a]
theorem muR_no {t : Int} (a : ¬ (0 ≤ t ∧ t ≤ 1099511627775)) : muR t = 1 := by unfold muR; rw [if_neg a]
theorem muS_yes {s : St} {t : Int} (a : 0 ≤ t ∧ t ≤ 1099511627775) : muS s t = { s with mute := t } := by unfold muS; rw [if_pos a]
theorem muS_no {s : St} {t : Int} (a : ¬ (0 ≤ t ∧ t ≤ 1099511627775)) : muS s t = s := by unfold muS; rw [if_neg a]
def enD : En := (⟨⟨#[]⟩, false, 0, 0, 0, 0, 0, 0, 0, 0, 0⟩, st0)
set_option maxRecDepth 100000 in
set_option maxHeartbeats 4000000 in
theorem rmute_none {w : World} {gb g : Nat} {L : List En} (h : RbA w gb g L) (nm : ByteArray) (hs : L.length ≤ 1000000) (t : Int) (e : fi L nm = none) :
    CalcN 16 #[.pointer (some ⟨gb, 0, none⟩), .string nm, .int .i64 t] w (.int .i64 231) := by
  have KF := rfind_spec h nm hs
  unfold fiV at KF
  rw [e] at KF
  clear e h
  go_enter Try.func16, Try.ntmps16
  go_wp2_with (go_at_call 25; go_loud (refine Calls.mono KF ?_); go_loud (rintro e w2 ⟨rfl, rfl⟩))
  go_returns
  exact ⟨rfl, rfl⟩
set_option maxRecDepth 100000 in
set_option maxHeartbeats 4000000 in
theorem rmute_some {w : World} {gb g : Nat} {L : List En} (h : RbA w gb g L) (nm : ByteArray) (hs : L.length ≤ 1000000) (t : Int) (i : Nat) (hi : i < L.length) (e : fi L nm = some i) :
    Calls Try.prog 16 #[.pointer (some ⟨gb, 0, none⟩), .string nm, .int .i64 t] w fun x w' => x = .returned (.int .i64 (muR t)) ∧ Row w' g (i * 19) (kpl L[i].1 (muS L[i].2 t)) ∧ KM g (i * 19) w w' := by
  have KF := rfind_spec h nm hs
  unfold fiV at KF
  rw [e] at KF
  obtain ⟨a, cap, c0, ha⟩ := h.c0
  obtain rfl := ha (by intro q; rw [q] at hi; simp at hi)
  have x18 := (h.row i hi).at 18 _ rfl
  have f18 := (h.row i hi).fr 18 (by simp [kpl, ruL])
  have lg := (h.row i hi).lt
  have lt := h.lt
  have R0 := hide (h.row i hi)
  have hi0 : (0 : Int) ≤ (i : Int) := by omega
  have hi1 : ¬ (i : Int) < 0 := by omega
  obtain ⟨n, hn⟩ : ∃ n, n = L.length := ⟨_, rfl⟩
  rw [← hn] at c0
  have hi2 : (i : Int) < (n : Int) := by omega
  generalize L[i] = x at x18 R0 ⊢
  obtain ⟨R, s⟩ := x
  simp only at x18 R0 ⊢
  clear e h ha hn
  by_cases ra : 0 ≤ t ∧ t ≤ 1099511627775
  · rw [muR_yes ra, muS_yes ra]
    have t1 : ¬ t < 0 := by omega
    have t2 : ¬ 1099511627775 < t := by omega
    go_enter Try.func16, Try.ntmps16
    go_wp2_with (go_at_call 25; go_loud (refine Calls.mono KF ?_); go_loud (rintro e w2 ⟨rfl, rfl⟩))
    go_returns
    exact ⟨rfl, R0.out.set 18 (by simp [kpl, ruL]) (.int .i64 t), (KM.refl _ _ _).set 18 (by omega) _⟩
  · rw [muR_no ra, muS_no ra]
    go_enter Try.func16, Try.ntmps16
    by_cases t1 : t < 0
    · go_wp2_with (go_at_call 25; go_loud (refine Calls.mono KF ?_); go_loud (rintro e w2 ⟨rfl, rfl⟩))
      go_returns
      exact ⟨rfl, R0.out, KM.refl _ _ _⟩
    · have t2 : 1099511627775 < t := by omega
      go_wp2_with (go_at_call 25; go_loud (refine Calls.mono KF ?_); go_loud (rintro e w2 ⟨rfl, rfl⟩))
      go_returns
      exact ⟨rfl, R0.out, KM.refl _ _ _⟩
end Go.Proofs.Ytnlefakicjojdaa
/- alarm: the reference's Feed. -/
namespace Go.Proofs.Ytnlefakicjojdaa
set_option linter.unusedVariables false
set_option linter.unusedSimpArgs false
open Go.RowKit W Go.Maps
def RFeedPost (w : World) (g o : Nat) (R : Ru) (s : St) (er : Int) (ot : Option (List Value)) (e : Ending) (w' : World) : Prop :=
  ∃ v, e = .returned (.tuple #[v, .int .i64 er]) ∧ AlOut w' v ot ∧ (∀ k, v.ownBlock = some k → w.heap.size ≤ k) ∧ Row w' g o (kpl R s) ∧ KM g o w w'
/-- A cell of a new block is written. -/
theorem KM.setN {g o : Nat} {a b : World} (h : KM g o a b) (lg : g < a.heap.size) {x : Addr} (hx : a.heap.size ≤ x.block) (v : Value) : KM g o a (b.setCell x v) := by
  have ne : x.block ≠ g := by omega
  obtain ⟨xb, xo, xs⟩ := x
  simp only at hx ne
  refine ⟨⟨h.mod.os, h.mod.tape, h.mod.output, by simpa using h.mod.size, fun k hk hn => (Below.heap_setCell b ⟨xb, xo, xs⟩ v k (by simp only; omega)).trans (h.mod.block k hk hn)⟩, fun k q => ⟨?_, ?_⟩⟩
  · rw [World.cell?_setCell_other (h := by intro e; injection e with e _ _; exact ne e)]; exact (h.out k q).1
  · rw [World.frozen?_setCell]; exact (h.out k q).2
theorem KM.drew {g o : Nat} {a b : World} (h : KM g o a b) : KM g o a b.drew := ⟨⟨h.mod.os, h.mod.tape, h.mod.output, h.mod.size, h.mod.block⟩, h.out⟩
set_option maxRecDepth 100000 in
set_option maxHeartbeats 4000000 in
theorem rfeed_none {w : World} {gb g : Nat} {L : List En} (h : RbA w gb g L) (nm : ByteArray) (hs : L.length ≤ 1000000) (t v1 v0 : Int) (is : Bool) (e : fi L nm = none) :
    Calls Try.prog 13 #[.pointer (some ⟨gb, 0, none⟩), .string nm, .int .i64 t, .agg #[.bool is, .int .i64 v1, .int .u64 v0]] w fun x w' => x = .returned (.tuple #[.slice none 0 0, .int .i64 231]) ∧ Below w.heap.size w w' := by
  have KF := fun X (b : Below w.heap.size w X) => rfind_spec (h.later b) nm hs
  unfold fiV at KF
  rw [e] at KF
  clear e h
  go_enter Try.func13, Try.ntmps13
  go_wp2_with (go_at_call 25; go_loud (refine Calls.mono (KF _ ((Below.refl _ _).alloc (Nat.le_refl _) _)) ?_); go_loud (rintro e w2 ⟨rfl, rfl⟩))
  go_returns
  exact ⟨rfl, (Below.refl _ _).alloc (Nat.le_refl _) _⟩
set_option maxRecDepth 100000 in
set_option maxHeartbeats 8000000 in
theorem rfeed_some {w : World} {gb g : Nat} {L : List En} (h : RbA w gb g L) (nm : ByteArray) (hs : L.length ≤ 1000000) (t v1 v0 : Int) (is : Bool) (iv : IsW (v1, v0)) (i : Nat) (hi : i < L.length) (e : fi L nm = some i) (R : Ru) (s : St) (hx : L[i] = (R, s)) (hnm : R.nm = nm) (ir : RuW R) (s0 : 0 ≤ R.sl) (ag0 : 0 ≤ R.ag) :
    Calls Try.prog 13 #[.pointer (some ⟨gb, 0, none⟩), .string nm, .int .i64 t, .agg #[.bool is, .int .i64 v1, .int .u64 v0]] w (RFeedPost w g (i * 19) R (feS R s t is (V v1 v0)) (feE s t) (feO R s t is v1 v0)) := by
  have KF := fun X (b : Below w.heap.size w X) => rfind_spec (h.later b) nm hs
  unfold fiV at KF
  rw [e] at KF
  obtain ⟨a, cap, c0, ha⟩ := h.c0
  obtain rfl := ha (by intro q; rw [q] at hi; simp at hi)
  have R0 := h.row i hi
  rw [hx] at R0
  simp only at R0
  have lg := R0.lt
  have lt := h.lt
  obtain ⟨o, ho⟩ : ∃ o, o = i * 19 := ⟨_, rfl⟩
  have hi0 : (0 : Int) ≤ (i : Int) := by omega
  have hi1 : ¬ (i : Int) < 0 := by omega
  obtain ⟨n, hn⟩ : ∃ n, n = L.length := ⟨_, rfl⟩
  rw [← hn] at c0
  have hi2 : (i : Int) < (n : Int) := by omega
  have x17 := R0.at 17 _ rfl
  have f17 := R0.fr 17 (by simp [kpl, ruL])

  have HR0 := hide R0
  have B0 : Below w.heap.size w (w.alloc (.cells #[.bool is, .int .i64 v1, .int .u64 v0] 38)) := (Below.refl _ _).alloc (Nat.le_refl _) _
  have HO := hide ho
  clear h ha e hx hn R0 ho
  by_cases ra : 0 ≤ t ∧ t ≤ 1099511627775
  · have t1 : ¬ t < 0 := by omega
    have t2 : ¬ 1099511627775 < t := by omega
    by_cases rp : t ≤ s.last
    · have E1 : feE s t = 232 := by unfold feE; rw [if_pos ra, if_pos rp]
      have E2 : feS R s t is (V v1 v0) = s := by unfold feS; rw [E1]; rfl
      have E3 : feO R s t is v1 v0 = none := by unfold feO; rw [E1]; rfl
      rw [E1, E2, E3]
      clear E1 E2 E3
      go_enter Try.func13, Try.ntmps13
      go_wp2_with (go_at_call 25; go_loud (refine Calls.mono (KF _ B0) ?_); go_loud (rintro e w2 ⟨rfl, rfl⟩))
      go_returns
      exact ⟨_, rfl, rfl, (fun k e => by cases e), HR0.out.later B0, (KM.refl _ _ _).later lg B0⟩
    · have E1 : feE s t = 0 := by unfold feE; rw [if_pos ra, if_neg rp]
      have E2 : feS R s t is (V v1 v0) = fedS R s t is (V v1 v0) := by unfold feS; rw [if_pos E1]
      have E3 : feO R s t is v1 v0 = fedO R s t is v1 v0 := by unfold feO; rw [if_pos E1]
      rw [E1, E2, E3]
      clear E1 E2 E3
      obtain ⟨s1, hs1⟩ : ∃ s1, s1 = stepS R s t is (V v1 v0) := ⟨_, rfl⟩
      have E2 : fedS R s t is (V v1 v0) = sayS R s1 t := by rw [hs1]; rfl
      have E3 : fedO R s t is v1 v0 = sayO R s1 t is (if is then v1 else 0) (if is then v0 else 0) := by rw [hs1]; rfl
      rw [E2, E3]
      have HS1 := hide hs1
      clear E2 E3 hs1
      have BW := hide B0
      go_enter Try.func13, Try.ntmps13
      go_upto_region 11 with (go_at_call 25; go_loud (refine Calls.mono (KF _ B0) ?_); go_loud (rintro e w2 ⟨rfl, rfl⟩))
      refine abs_wp (fun W => Hid (Row W g (i * 19) (kpl R { s with last := t })) ∧ Hid (Row W w.heap.size 0 [.bool is, .int .i64 v1, .int .u64 v0]) ∧ Hid (Row W (w.heap.size + 1) 0 [.string nm, .int .i64 t, .int .i64 0, .int .i64 0, .bool false, .bool false, .int .i64 0, .int .u64 0]) ∧ Hid (KM g (i * 19) w W)) ⟨hide ?_, hide ?_, hide ?_, hide ?_⟩ ?_
      · exact ((HR0.out.set 17 (by simp [kpl, ruL]) (.int .i64 t)).later ((Below.refl _ _).alloc (Nat.le_refl _) _)).later ((Below.refl _ _).alloc (Nat.le_refl _) _)
      · exact (Row.new' (w.setCell ⟨g, i * 19 + 17, none⟩ (.int .i64 t)) [.bool is, .int .i64 v1, .int .u64 v0] 38 w.heap.size (by simp)).later ((Below.refl _ _).alloc (Nat.le_refl _) _)
      · exact Row.new' ((w.setCell ⟨g, i * 19 + 17, none⟩ (.int .i64 t)).alloc (.cells #[.bool is, .int .i64 v1, .int .u64 v0] 38)) [.string nm, .int .i64 t, .int .i64 0, .int .i64 0, .bool false, .bool false, .int .i64 0, .int .u64 0] 58 (w.heap.size + 1) (by simp)
      · exact (((KM.refl g (i * 19) w).set 17 (by omega) (.int .i64 t)).later lg ((Below.refl _ _).alloc (Nat.le_refl _) _)).later lg ((Below.refl _ _).alloc (Nat.le_refl _) _)
      rintro W1 ⟨R1, C1, A1, M1⟩
      clear c0 x17 f17 lt KF B0 BW
      obtain ⟨q0, q1, q2⟩ : W1.cell? ⟨w.heap.size, 0, none⟩ = some (.bool is) ∧ W1.cell? ⟨w.heap.size, 1, none⟩ = some (.int .i64 v1) ∧ W1.cell? ⟨w.heap.size, 2, none⟩ = some (.int .u64 v0) := ⟨C1.out.at0 0 _ rfl, C1.out.at0 1 _ rfl, C1.out.at0 2 _ rfl⟩
      have lc := C1.out.lt
      cases is
      · have ST : stepS R s t false (V v1 v0) = gapS R { s with last := t } := rfl
        rw [ST] at HS1
        have KG := hide (rgap_spec R1.out)
        go_upto_region 15 with (go_at_call 34; go_loud (refine Calls.mono KG.out ?_); go_loud (rintro e w3 ⟨rfl, r3, m3⟩))
        refine abs_wp (fun W => Hid (Row W g (i * 19) (kpl R s1)) ∧ Hid (Row W (w.heap.size + 1) 0 [.string nm, .int .i64 t, .int .i64 0, .int .i64 0, .bool false, .bool false, .int .i64 0, .int .u64 0]) ∧ Hid (KM g (i * 19) w W)) ⟨hide (by rw [HS1.out]; exact r3), hide (A1.out.mod m3.mod (by simp; omega)), hide (M1.out.trans m3)⟩ ?_
        rintro W4 ⟨R4, A4, M4⟩
        clear q0 q1 q2 lc
        have lb := A4.out.lt
        have lg4 := R4.out.lt
        have x8 := R4.out.at 10 _ rfl
        have x11 := R4.out.at 11 _ rfl
        have x12 := R4.out.at 12 _ rfl
        have x13 := R4.out.at 13 _ rfl
        have x18 := R4.out.at 18 _ rfl
        have f12 := R4.out.fr 12 (by simp [kpl, ruL])
        have f13 := R4.out.fr 13 (by simp [kpl, ruL])
        have a2 := A4.out.at0 2 _ rfl
        have a3 := A4.out.at0 3 _ rfl
        have g2 := A4.out.fr0 2 (by simp)
        have g3 := A4.out.fr0 3 (by simp)
        by_cases hm : t < s1.mute
        · have SB : sayB R s1 t = false := by unfold sayB; rw [decide_eq_false_iff_not]; intro q; have := q.1; omega
          have E1 : sayS R s1 t = s1 := by unfold sayS; rw [SB]; rfl
          have E2 : ∀ x y, sayO R s1 t false x y = none := fun x y => by unfold sayO; rw [SB]; rfl
          go_wp2_with fail
          go_returns
          refine ⟨_, rfl, ?_, (fun k e => by cases e), ?_, M4.out⟩
          · first | rfl | (rw [E2]; rfl)
          · first | exact R4.out | (rw [E1]; exact R4.out)
        · go_upto_region 17 with (fail)
          go_region
          all_goals
            go_upto_region 18 with (fail)
            refine abs_wp (fun W => Hid (Row W g (i * 19) (kpl R s1)) ∧ Hid (Row W (w.heap.size + 1) 0 [.string nm, .int .i64 t, .int .i64 s1.said, .int .i64 s1.st, .bool false, .bool false, .int .i64 0, .int .u64 0]) ∧ Hid (KM g (i * 19) w W)) ⟨hide ?_, hide ?_, hide ?_⟩ ?_
            · exact ((R4.out.drew.apart (.inl (by simp only; omega)) _).apart (.inl (by simp only; omega)) _)
            · first
                | exact (A4.out.drew.set0 2 (by simp) (.int .i64 s1.said)).set0 3 (by simp) (.int .i64 s1.st)
                | exact (A4.out.drew.set0 3 (by simp) (.int .i64 s1.st)).set0 2 (by simp) (.int .i64 s1.said)
            · exact (M4.out.drew.setN lg (by simp only; omega) _).setN lg (by simp only; omega) _
            rintro W5 ⟨R5, A5, M5⟩
            clear lb lg4 x8 x11 x12 x13 x18 f12 f13 a2 a3 g2 g3
            have lb := A5.out.lt
            have lg4 := R5.out.lt
            have x8 := R5.out.at 10 _ rfl
            have x11 := R5.out.at 11 _ rfl
            have x12 := R5.out.at 12 _ rfl
            have x13 := R5.out.at 13 _ rfl
            have f12 := R5.out.fr 12 (by simp [kpl, ruL])
            have f13 := R5.out.fr 13 (by simp [kpl, ruL])
            have a4 := A5.out.at0 4 _ rfl
            have g4 := A5.out.fr0 4 (by simp)
            by_cases he : s1.st = s1.said
            · have he' : (s1.st == s1.said) = true := by simpa using he
              have HE := hide he
              clear he
              go_quiet (fail)
              have R6 := hide (R5.out.drewN nq)
              have A6 := hide (A5.out.drewN nq)
              have M6 := hide (M5.out.drewN nq)
              generalize W5.drewN nq = W6 at R6 A6 M6 ⊢
              clear lb lg4 x8 x11 x12 x13 f12 f13 a4 g4
              have lb := A6.out.lt
              have lg4 := R6.out.lt
              have x8 := R6.out.at 10 _ rfl
              have x11 := R6.out.at 11 _ rfl
              have x12 := R6.out.at 12 _ rfl
              have x13 := R6.out.at 13 _ rfl
              have f12 := R6.out.fr 12 (by simp [kpl, ruL])
              have f13 := R6.out.fr 13 (by simp [kpl, ruL])
              have a4 := A6.out.at0 4 _ rfl
              have g4 := A6.out.fr0 4 (by simp)
              go_upto_region 19 with (fail)
              by_cases h1 : s1.st = 1
              · have h1' : (s1.st == 1) = true := by simpa using h1
                have H1 := hide h1
                clear h1
                have SB : sayB R s1 t = false := by unfold sayB; rw [decide_eq_false_iff_not]; intro q; have := q.2 HE.out; unfold dueB at this; rw [decide_eq_true_eq] at this; exact this.1 H1.out
                have E1 : sayS R s1 t = s1 := by unfold sayS; rw [SB]; rfl
                have E2 : ∀ x y, sayO R s1 t false x y = none := fun x y => by unfold sayO; rw [SB]; rfl
                go_quiet (fail)
                have R7 := hide (R6.out.drewN nq)
                have A7 := hide (A6.out.drewN nq)
                have M7 := hide (M6.out.drewN nq)
                generalize W6.drewN nq = W7 at R7 A7 M7 ⊢
                clear lb lg4 x8 x11 x12 x13 f12 f13 a4 g4
                have lb := A7.out.lt
                have lg4 := R7.out.lt
                have x8 := R7.out.at 10 _ rfl
                have x11 := R7.out.at 11 _ rfl
                have x12 := R7.out.at 12 _ rfl
                have x13 := R7.out.at 13 _ rfl
                have f12 := R7.out.fr 12 (by simp [kpl, ruL])
                have f13 := R7.out.fr 13 (by simp [kpl, ruL])
                have a4 := A7.out.at0 4 _ rfl
                have g4 := A7.out.fr0 4 (by simp)
                go_wp2_with fail
                go_returns
                refine ⟨_, rfl, ?_, (fun k e => by cases e), ?_, M7.out⟩
                · first | rfl | (rw [E2]; rfl)
                · first | exact R7.out | (rw [E1]; exact R7.out)
              · have h1' : (s1.st == 1) = false := by simpa using h1
                by_cases h0 : R.ag = 0
                · have h0' : (R.ag == 0) = true := by simpa using h0
                  have H0 := hide h0
                  clear h0
                  have SB : sayB R s1 t = false := by unfold sayB; rw [decide_eq_false_iff_not]; intro q; have := q.2 HE.out; unfold dueB at this; rw [decide_eq_true_eq] at this; have := H0.out; omega
                  have E1 : sayS R s1 t = s1 := by unfold sayS; rw [SB]; rfl
                  have E2 : ∀ x y, sayO R s1 t false x y = none := fun x y => by unfold sayO; rw [SB]; rfl
                  go_quiet (fail)
                  have R7 := hide (R6.out.drewN nq)
                  have A7 := hide (A6.out.drewN nq)
                  have M7 := hide (M6.out.drewN nq)
                  generalize W6.drewN nq = W7 at R7 A7 M7 ⊢
                  clear lb lg4 x8 x11 x12 x13 f12 f13 a4 g4
                  have lb := A7.out.lt
                  have lg4 := R7.out.lt
                  have x8 := R7.out.at 10 _ rfl
                  have x11 := R7.out.at 11 _ rfl
                  have x12 := R7.out.at 12 _ rfl
                  have x13 := R7.out.at 13 _ rfl
                  have f12 := R7.out.fr 12 (by simp [kpl, ruL])
                  have f13 := R7.out.fr 13 (by simp [kpl, ruL])
                  have a4 := A7.out.at0 4 _ rfl
                  have g4 := A7.out.fr0 4 (by simp)
                  go_wp2_with fail
                  go_returns
                  refine ⟨_, rfl, ?_, (fun k e => by cases e), ?_, M7.out⟩
                  · first | rfl | (rw [E2]; rfl)
                  · first | exact R7.out | (rw [E1]; exact R7.out)
                · have h0' : (R.ag == 0) = false := by simpa using h0
                  obtain ⟨z, hz⟩ : ∃ z, IntKind.i64.wrap (t - s1.when) = z := ⟨_, rfl⟩
                  have HZ := hide hz
                  by_cases hw : z < R.ag
                  · have hw' : decide (z < R.ag) = true := decide_eq_true hw
                    have SB : sayB R s1 t = false := by unfold sayB; rw [decide_eq_false_iff_not]; intro q; have := q.2 HE.out; unfold dueB at this; rw [decide_eq_true_eq, HZ.out] at this; omega
                    have E1 : sayS R s1 t = s1 := by unfold sayS; rw [SB]; rfl
                    have E2 : ∀ x y, sayO R s1 t false x y = none := fun x y => by unfold sayO; rw [SB]; rfl
                    go_quiet (fail)
                    have R7 := hide (R6.out.drewN nq)
                    have A7 := hide (A6.out.drewN nq)
                    have M7 := hide (M6.out.drewN nq)
                    generalize W6.drewN nq = W7 at R7 A7 M7 ⊢
                    clear lb lg4 x8 x11 x12 x13 f12 f13 a4 g4
                    have lb := A7.out.lt
                    have lg4 := R7.out.lt
                    have x8 := R7.out.at 10 _ rfl
                    have x11 := R7.out.at 11 _ rfl
                    have x12 := R7.out.at 12 _ rfl
                    have x13 := R7.out.at 13 _ rfl
                    have f12 := R7.out.fr 12 (by simp [kpl, ruL])
                    have f13 := R7.out.fr 13 (by simp [kpl, ruL])
                    have a4 := A7.out.at0 4 _ rfl
                    have g4 := A7.out.fr0 4 (by simp)
                    go_wp2_with fail
                    go_returns
                    refine ⟨_, rfl, ?_, (fun k e => by cases e), ?_, M7.out⟩
                    · first | rfl | (rw [E2]; rfl)
                    · first | exact R7.out | (rw [E1]; exact R7.out)
                  · have hw' : decide (z < R.ag) = false := decide_eq_false hw
                    go_quiet (fail)
                    have R7 := hide (R6.out.drewN nq)
                    have A7 := hide (A6.out.drewN nq)
                    have M7 := hide (M6.out.drewN nq)
                    generalize W6.drewN nq = W7 at R7 A7 M7 ⊢
                    clear lb lg4 x8 x11 x12 x13 f12 f13 a4 g4
                    have lb := A7.out.lt
                    have lg4 := R7.out.lt
                    have x8 := R7.out.at 10 _ rfl
                    have x11 := R7.out.at 11 _ rfl
                    have x12 := R7.out.at 12 _ rfl
                    have x13 := R7.out.at 13 _ rfl
                    have f12 := R7.out.fr 12 (by simp [kpl, ruL])
                    have f13 := R7.out.fr 13 (by simp [kpl, ruL])
                    have a4 := A7.out.at0 4 _ rfl
                    have g4 := A7.out.fr0 4 (by simp)
                    have SB : sayB R s1 t = true := by unfold sayB; rw [decide_eq_true_eq]; exact ⟨by omega, fun _ => by unfold dueB; rw [decide_eq_true_eq, HZ.out]; exact ⟨h1, by omega, by omega⟩⟩
                    have E1 : Hid (sayS R s1 t = { s1 with said := s1.st, when := t }) := hide (by unfold sayS; rw [SB]; rfl)
                    have E2 : Hid (∀ x y, sayO R s1 t false x y = some [.string nm, .int .i64 t, .int .i64 s1.said, .int .i64 s1.st, .bool true, .bool false, .int .i64 x, .int .u64 y]) := hide (fun x y => by unfold sayO; rw [SB, if_pos rfl, hnm, decide_eq_true HE.out])
                    clear SB
                    go_upto_region 23 with (fail)
                    refine abs_wp (fun W => Hid (Row W g (i * 19) (kpl R { s1 with said := s1.st, when := t })) ∧ Hid (Row W (w.heap.size + 1) 0 [.string nm, .int .i64 t, .int .i64 s1.said, .int .i64 s1.st, .bool true, .bool false, .int .i64 0, .int .u64 0]) ∧ Hid (KM g (i * 19) w W)) ⟨hide ?_, hide ?_, hide ?_⟩ ?_
                    · exact ((R7.out.apart (.inl (by simp only; omega)) _).set 12 (by simp [kpl, ruL]) (.int .i64 s1.st)).set 13 (by simp [kpl, ruL]) (.int .i64 t)
                    · exact ((A7.out.set0 4 (by simp) (.bool true)).apart (.inl (by simp only; omega)) _).apart (.inl (by simp only; omega)) _
                    · exact ((M7.out.setN lg (by simp only; omega) _).set 12 (by omega) _).set 13 (by omega) _
                    rintro W9 ⟨R9, A9, M9⟩
                    clear lb lg4 x8 x11 x12 x13 f12 f13 a4 g4
                    have y0 := A9.out.at0 0 _ rfl
                    have y1 := A9.out.at0 1 _ rfl
                    have y2 := A9.out.at0 2 _ rfl
                    have y3 := A9.out.at0 3 _ rfl
                    have y4 := A9.out.at0 4 _ rfl
                    have y5 := A9.out.at0 5 _ rfl
                    have y6 := A9.out.at0 6 _ rfl
                    have y7 := A9.out.at0 7 _ rfl
                    have lb := A9.out.lt
                    go_wp2_with fail
                    go_returns
                    refine ⟨_, rfl, ?_, (fun k e => ?_), ?_, ?_⟩
                    · first | (rw [E2.out]; exact ⟨_, rfl, Row.new' W9 _ 58 _ rfl⟩) | exact ⟨_, rfl, Row.new' W9 _ 58 _ rfl⟩
                    · have e2 : W9.heap.size = k := by simpa [Value.ownBlock] using e
                      have := M9.out.mod.size
                      omega
                    · first | (rw [E1.out]; exact R9.out.later ((Below.refl _ _).alloc (Nat.le_refl _) _)) | exact R9.out.later ((Below.refl _ _).alloc (Nat.le_refl _) _)
                    · exact M9.out.later lg ((Below.refl _ _).alloc (Nat.le_refl _) _)
            · have he' : (s1.st == s1.said) = false := by simpa using he
              go_quiet (fail)
              have R6 := hide (R5.out.drewN nq)
              have A6 := hide (A5.out.drewN nq)
              have M6 := hide (M5.out.drewN nq)
              generalize W5.drewN nq = W6 at R6 A6 M6 ⊢
              clear lb lg4 x8 x11 x12 x13 f12 f13 a4 g4
              have lb := A6.out.lt
              have lg4 := R6.out.lt
              have x8 := R6.out.at 10 _ rfl
              have x11 := R6.out.at 11 _ rfl
              have x12 := R6.out.at 12 _ rfl
              have x13 := R6.out.at 13 _ rfl
              have f12 := R6.out.fr 12 (by simp [kpl, ruL])
              have f13 := R6.out.fr 13 (by simp [kpl, ruL])
              have a4 := A6.out.at0 4 _ rfl
              have g4 := A6.out.fr0 4 (by simp)
              have SB : sayB R s1 t = true := by unfold sayB; rw [decide_eq_true_eq]; exact ⟨by omega, fun q => absurd q he⟩
              have E1 : Hid (sayS R s1 t = { s1 with said := s1.st, when := t }) := hide (by unfold sayS; rw [SB]; rfl)
              have E2 : Hid (∀ x y, sayO R s1 t false x y = some [.string nm, .int .i64 t, .int .i64 s1.said, .int .i64 s1.st, .bool false, .bool false, .int .i64 x, .int .u64 y]) := hide (fun x y => by unfold sayO; rw [SB, if_pos rfl, hnm, decide_eq_false he])
              clear SB
              go_upto_region 23 with (fail)
              refine abs_wp (fun W => Hid (Row W g (i * 19) (kpl R { s1 with said := s1.st, when := t })) ∧ Hid (Row W (w.heap.size + 1) 0 [.string nm, .int .i64 t, .int .i64 s1.said, .int .i64 s1.st, .bool false, .bool false, .int .i64 0, .int .u64 0]) ∧ Hid (KM g (i * 19) w W)) ⟨hide ?_, hide ?_, hide ?_⟩ ?_
              · exact (R6.out.set 12 (by simp [kpl, ruL]) (.int .i64 s1.st)).set 13 (by simp [kpl, ruL]) (.int .i64 t)
              · exact (A6.out.apart (.inl (by simp only; omega)) _).apart (.inl (by simp only; omega)) _
              · exact (M6.out.set 12 (by omega) _).set 13 (by omega) _
              rintro W9 ⟨R9, A9, M9⟩
              clear lb lg4 x8 x11 x12 x13 f12 f13 a4 g4
              have y0 := A9.out.at0 0 _ rfl
              have y1 := A9.out.at0 1 _ rfl
              have y2 := A9.out.at0 2 _ rfl
              have y3 := A9.out.at0 3 _ rfl
              have y4 := A9.out.at0 4 _ rfl
              have y5 := A9.out.at0 5 _ rfl
              have y6 := A9.out.at0 6 _ rfl
              have y7 := A9.out.at0 7 _ rfl
              have lb := A9.out.lt
              go_wp2_with fail
              go_returns
              refine ⟨_, rfl, ?_, (fun k e => ?_), ?_, ?_⟩
              · first | (rw [E2.out]; exact ⟨_, rfl, Row.new' W9 _ 58 _ rfl⟩) | exact ⟨_, rfl, Row.new' W9 _ 58 _ rfl⟩
              · have e2 : W9.heap.size = k := by simpa [Value.ownBlock] using e
                have := M9.out.mod.size
                omega
              · first | (rw [E1.out]; exact R9.out.later ((Below.refl _ _).alloc (Nat.le_refl _) _)) | exact R9.out.later ((Below.refl _ _).alloc (Nat.le_refl _) _)
              · exact M9.out.later lg ((Below.refl _ _).alloc (Nat.le_refl _) _)
      · have ST : stepS R s t true (V v1 v0) = valS R { s with last := t } (V v1 v0) := rfl
        rw [ST] at HS1
        have KV := hide (rvalue_spec ir s0 R1.out v1 v0 iv)
        go_upto_region 15 with (go_at_call 33; go_loud (refine Calls.mono KV.out ?_); go_loud (rintro e w3 ⟨rfl, r3, m3⟩); have C3 := hide (C1.out.mod m3.mod (by simp; omega)); have A3 := hide (A1.out.mod m3.mod (by simp; omega)); have R3 := hide r3; have M3 := hide m3; clear q0 q1 q2 lc r3 m3; have q0 := C3.out.at0 0 _ rfl; have q1 := C3.out.at0 1 _ rfl; have q2 := C3.out.at0 2 _ rfl; have lc := C3.out.lt; have b5 := A3.out.at0 5 _ rfl; have b6 := A3.out.at0 6 _ rfl; have b7 := A3.out.at0 7 _ rfl; have e5 := A3.out.fr0 5 (by simp); have e6 := A3.out.fr0 6 (by simp); have e7 := A3.out.fr0 7 (by simp); have lb := A3.out.lt)
        refine abs_wp (fun W => Hid (Row W g (i * 19) (kpl R s1)) ∧ Hid (Row W (w.heap.size + 1) 0 [.string nm, .int .i64 t, .int .i64 0, .int .i64 0, .bool false, .bool true, .int .i64 v1, .int .u64 v0]) ∧ Hid (KM g (i * 19) w W)) ⟨hide (by rw [HS1.out]; exact ((R3.out.apart (.inl (by simp only; omega)) _).apart (.inl (by simp only; omega)) _).apart (.inl (by simp only; omega)) _), hide (((A3.out.set0 5 (by simp) (.bool true)).set0 6 (by simp) (.int .i64 v1)).set0 7 (by simp) (.int .u64 v0)), hide (((M1.out.trans M3.out).setN lg (by simp only; omega) _ |>.setN lg (by simp only; omega) _).setN lg (by simp only; omega) _)⟩ ?_
        rintro W4 ⟨R4, A4, M4⟩
        clear q0 q1 q2 lc b5 b6 b7 e5 e6 e7 lb
        have lb := A4.out.lt
        have lg4 := R4.out.lt
        have x8 := R4.out.at 10 _ rfl
        have x11 := R4.out.at 11 _ rfl
        have x12 := R4.out.at 12 _ rfl
        have x13 := R4.out.at 13 _ rfl
        have x18 := R4.out.at 18 _ rfl
        have f12 := R4.out.fr 12 (by simp [kpl, ruL])
        have f13 := R4.out.fr 13 (by simp [kpl, ruL])
        have a2 := A4.out.at0 2 _ rfl
        have a3 := A4.out.at0 3 _ rfl
        have g2 := A4.out.fr0 2 (by simp)
        have g3 := A4.out.fr0 3 (by simp)
        by_cases hm : t < s1.mute
        · have SB : sayB R s1 t = false := by unfold sayB; rw [decide_eq_false_iff_not]; intro q; have := q.1; omega
          have E1 : sayS R s1 t = s1 := by unfold sayS; rw [SB]; rfl
          have E2 : ∀ x y, sayO R s1 t true x y = none := fun x y => by unfold sayO; rw [SB]; rfl
          go_wp2_with fail
          go_returns
          refine ⟨_, rfl, ?_, (fun k e => by cases e), ?_, M4.out⟩
          · first | rfl | (rw [E2]; rfl)
          · first | exact R4.out | (rw [E1]; exact R4.out)
        · go_upto_region 17 with (fail)
          go_region
          all_goals
            go_upto_region 18 with (fail)
            refine abs_wp (fun W => Hid (Row W g (i * 19) (kpl R s1)) ∧ Hid (Row W (w.heap.size + 1) 0 [.string nm, .int .i64 t, .int .i64 s1.said, .int .i64 s1.st, .bool false, .bool true, .int .i64 v1, .int .u64 v0]) ∧ Hid (KM g (i * 19) w W)) ⟨hide ?_, hide ?_, hide ?_⟩ ?_
            · exact ((R4.out.drew.apart (.inl (by simp only; omega)) _).apart (.inl (by simp only; omega)) _)
            · first
                | exact (A4.out.drew.set0 2 (by simp) (.int .i64 s1.said)).set0 3 (by simp) (.int .i64 s1.st)
                | exact (A4.out.drew.set0 3 (by simp) (.int .i64 s1.st)).set0 2 (by simp) (.int .i64 s1.said)
            · exact (M4.out.drew.setN lg (by simp only; omega) _).setN lg (by simp only; omega) _
            rintro W5 ⟨R5, A5, M5⟩
            clear lb lg4 x8 x11 x12 x13 x18 f12 f13 a2 a3 g2 g3
            have lb := A5.out.lt
            have lg4 := R5.out.lt
            have x8 := R5.out.at 10 _ rfl
            have x11 := R5.out.at 11 _ rfl
            have x12 := R5.out.at 12 _ rfl
            have x13 := R5.out.at 13 _ rfl
            have f12 := R5.out.fr 12 (by simp [kpl, ruL])
            have f13 := R5.out.fr 13 (by simp [kpl, ruL])
            have a4 := A5.out.at0 4 _ rfl
            have g4 := A5.out.fr0 4 (by simp)
            by_cases he : s1.st = s1.said
            · have he' : (s1.st == s1.said) = true := by simpa using he
              have HE := hide he
              clear he
              go_quiet (fail)
              have R6 := hide (R5.out.drewN nq)
              have A6 := hide (A5.out.drewN nq)
              have M6 := hide (M5.out.drewN nq)
              generalize W5.drewN nq = W6 at R6 A6 M6 ⊢
              clear lb lg4 x8 x11 x12 x13 f12 f13 a4 g4
              have lb := A6.out.lt
              have lg4 := R6.out.lt
              have x8 := R6.out.at 10 _ rfl
              have x11 := R6.out.at 11 _ rfl
              have x12 := R6.out.at 12 _ rfl
              have x13 := R6.out.at 13 _ rfl
              have f12 := R6.out.fr 12 (by simp [kpl, ruL])
              have f13 := R6.out.fr 13 (by simp [kpl, ruL])
              have a4 := A6.out.at0 4 _ rfl
              have g4 := A6.out.fr0 4 (by simp)
              go_upto_region 19 with (fail)
              by_cases h1 : s1.st = 1
              · have h1' : (s1.st == 1) = true := by simpa using h1
                have H1 := hide h1
                clear h1
                have SB : sayB R s1 t = false := by unfold sayB; rw [decide_eq_false_iff_not]; intro q; have := q.2 HE.out; unfold dueB at this; rw [decide_eq_true_eq] at this; exact this.1 H1.out
                have E1 : sayS R s1 t = s1 := by unfold sayS; rw [SB]; rfl
                have E2 : ∀ x y, sayO R s1 t true x y = none := fun x y => by unfold sayO; rw [SB]; rfl
                go_quiet (fail)
                have R7 := hide (R6.out.drewN nq)
                have A7 := hide (A6.out.drewN nq)
                have M7 := hide (M6.out.drewN nq)
                generalize W6.drewN nq = W7 at R7 A7 M7 ⊢
                clear lb lg4 x8 x11 x12 x13 f12 f13 a4 g4
                have lb := A7.out.lt
                have lg4 := R7.out.lt
                have x8 := R7.out.at 10 _ rfl
                have x11 := R7.out.at 11 _ rfl
                have x12 := R7.out.at 12 _ rfl
                have x13 := R7.out.at 13 _ rfl
                have f12 := R7.out.fr 12 (by simp [kpl, ruL])
                have f13 := R7.out.fr 13 (by simp [kpl, ruL])
                have a4 := A7.out.at0 4 _ rfl
                have g4 := A7.out.fr0 4 (by simp)
                go_wp2_with fail
                go_returns
                refine ⟨_, rfl, ?_, (fun k e => by cases e), ?_, M7.out⟩
                · first | rfl | (rw [E2]; rfl)
                · first | exact R7.out | (rw [E1]; exact R7.out)
              · have h1' : (s1.st == 1) = false := by simpa using h1
                by_cases h0 : R.ag = 0
                · have h0' : (R.ag == 0) = true := by simpa using h0
                  have H0 := hide h0
                  clear h0
                  have SB : sayB R s1 t = false := by unfold sayB; rw [decide_eq_false_iff_not]; intro q; have := q.2 HE.out; unfold dueB at this; rw [decide_eq_true_eq] at this; have := H0.out; omega
                  have E1 : sayS R s1 t = s1 := by unfold sayS; rw [SB]; rfl
                  have E2 : ∀ x y, sayO R s1 t true x y = none := fun x y => by unfold sayO; rw [SB]; rfl
                  go_quiet (fail)
                  have R7 := hide (R6.out.drewN nq)
                  have A7 := hide (A6.out.drewN nq)
                  have M7 := hide (M6.out.drewN nq)
                  generalize W6.drewN nq = W7 at R7 A7 M7 ⊢
                  clear lb lg4 x8 x11 x12 x13 f12 f13 a4 g4
                  have lb := A7.out.lt
                  have lg4 := R7.out.lt
                  have x8 := R7.out.at 10 _ rfl
                  have x11 := R7.out.at 11 _ rfl
                  have x12 := R7.out.at 12 _ rfl
                  have x13 := R7.out.at 13 _ rfl
                  have f12 := R7.out.fr 12 (by simp [kpl, ruL])
                  have f13 := R7.out.fr 13 (by simp [kpl, ruL])
                  have a4 := A7.out.at0 4 _ rfl
                  have g4 := A7.out.fr0 4 (by simp)
                  go_wp2_with fail
                  go_returns
                  refine ⟨_, rfl, ?_, (fun k e => by cases e), ?_, M7.out⟩
                  · first | rfl | (rw [E2]; rfl)
                  · first | exact R7.out | (rw [E1]; exact R7.out)
                · have h0' : (R.ag == 0) = false := by simpa using h0
                  obtain ⟨z, hz⟩ : ∃ z, IntKind.i64.wrap (t - s1.when) = z := ⟨_, rfl⟩
                  have HZ := hide hz
                  by_cases hw : z < R.ag
                  · have hw' : decide (z < R.ag) = true := decide_eq_true hw
                    have SB : sayB R s1 t = false := by unfold sayB; rw [decide_eq_false_iff_not]; intro q; have := q.2 HE.out; unfold dueB at this; rw [decide_eq_true_eq, HZ.out] at this; omega
                    have E1 : sayS R s1 t = s1 := by unfold sayS; rw [SB]; rfl
                    have E2 : ∀ x y, sayO R s1 t true x y = none := fun x y => by unfold sayO; rw [SB]; rfl
                    go_quiet (fail)
                    have R7 := hide (R6.out.drewN nq)
                    have A7 := hide (A6.out.drewN nq)
                    have M7 := hide (M6.out.drewN nq)
                    generalize W6.drewN nq = W7 at R7 A7 M7 ⊢
                    clear lb lg4 x8 x11 x12 x13 f12 f13 a4 g4
                    have lb := A7.out.lt
                    have lg4 := R7.out.lt
                    have x8 := R7.out.at 10 _ rfl
                    have x11 := R7.out.at 11 _ rfl
                    have x12 := R7.out.at 12 _ rfl
                    have x13 := R7.out.at 13 _ rfl
                    have f12 := R7.out.fr 12 (by simp [kpl, ruL])
                    have f13 := R7.out.fr 13 (by simp [kpl, ruL])
                    have a4 := A7.out.at0 4 _ rfl
                    have g4 := A7.out.fr0 4 (by simp)
                    go_wp2_with fail
                    go_returns
                    refine ⟨_, rfl, ?_, (fun k e => by cases e), ?_, M7.out⟩
                    · first | rfl | (rw [E2]; rfl)
                    · first | exact R7.out | (rw [E1]; exact R7.out)
                  · have hw' : decide (z < R.ag) = false := decide_eq_false hw
                    go_quiet (fail)
                    have R7 := hide (R6.out.drewN nq)
                    have A7 := hide (A6.out.drewN nq)
                    have M7 := hide (M6.out.drewN nq)
                    generalize W6.drewN nq = W7 at R7 A7 M7 ⊢
                    clear lb lg4 x8 x11 x12 x13 f12 f13 a4 g4
                    have lb := A7.out.lt
                    have lg4 := R7.out.lt
                    have x8 := R7.out.at 10 _ rfl
                    have x11 := R7.out.at 11 _ rfl
                    have x12 := R7.out.at 12 _ rfl
                    have x13 := R7.out.at 13 _ rfl
                    have f12 := R7.out.fr 12 (by simp [kpl, ruL])
                    have f13 := R7.out.fr 13 (by simp [kpl, ruL])
                    have a4 := A7.out.at0 4 _ rfl
                    have g4 := A7.out.fr0 4 (by simp)
                    have SB : sayB R s1 t = true := by unfold sayB; rw [decide_eq_true_eq]; exact ⟨by omega, fun _ => by unfold dueB; rw [decide_eq_true_eq, HZ.out]; exact ⟨h1, by omega, by omega⟩⟩
                    have E1 : Hid (sayS R s1 t = { s1 with said := s1.st, when := t }) := hide (by unfold sayS; rw [SB]; rfl)
                    have E2 : Hid (∀ x y, sayO R s1 t true x y = some [.string nm, .int .i64 t, .int .i64 s1.said, .int .i64 s1.st, .bool true, .bool true, .int .i64 x, .int .u64 y]) := hide (fun x y => by unfold sayO; rw [SB, if_pos rfl, hnm, decide_eq_true HE.out])
                    clear SB
                    go_upto_region 23 with (fail)
                    refine abs_wp (fun W => Hid (Row W g (i * 19) (kpl R { s1 with said := s1.st, when := t })) ∧ Hid (Row W (w.heap.size + 1) 0 [.string nm, .int .i64 t, .int .i64 s1.said, .int .i64 s1.st, .bool true, .bool true, .int .i64 v1, .int .u64 v0]) ∧ Hid (KM g (i * 19) w W)) ⟨hide ?_, hide ?_, hide ?_⟩ ?_
                    · exact ((R7.out.apart (.inl (by simp only; omega)) _).set 12 (by simp [kpl, ruL]) (.int .i64 s1.st)).set 13 (by simp [kpl, ruL]) (.int .i64 t)
                    · exact ((A7.out.set0 4 (by simp) (.bool true)).apart (.inl (by simp only; omega)) _).apart (.inl (by simp only; omega)) _
                    · exact ((M7.out.setN lg (by simp only; omega) _).set 12 (by omega) _).set 13 (by omega) _
                    rintro W9 ⟨R9, A9, M9⟩
                    clear lb lg4 x8 x11 x12 x13 f12 f13 a4 g4
                    have y0 := A9.out.at0 0 _ rfl
                    have y1 := A9.out.at0 1 _ rfl
                    have y2 := A9.out.at0 2 _ rfl
                    have y3 := A9.out.at0 3 _ rfl
                    have y4 := A9.out.at0 4 _ rfl
                    have y5 := A9.out.at0 5 _ rfl
                    have y6 := A9.out.at0 6 _ rfl
                    have y7 := A9.out.at0 7 _ rfl
                    have lb := A9.out.lt
                    go_wp2_with fail
                    go_returns
                    refine ⟨_, rfl, ?_, (fun k e => ?_), ?_, ?_⟩
                    · first | (rw [E2.out]; exact ⟨_, rfl, Row.new' W9 _ 58 _ rfl⟩) | exact ⟨_, rfl, Row.new' W9 _ 58 _ rfl⟩
                    · have e2 : W9.heap.size = k := by simpa [Value.ownBlock] using e
                      have := M9.out.mod.size
                      omega
                    · first | (rw [E1.out]; exact R9.out.later ((Below.refl _ _).alloc (Nat.le_refl _) _)) | exact R9.out.later ((Below.refl _ _).alloc (Nat.le_refl _) _)
                    · exact M9.out.later lg ((Below.refl _ _).alloc (Nat.le_refl _) _)
            · have he' : (s1.st == s1.said) = false := by simpa using he
              go_quiet (fail)
              have R6 := hide (R5.out.drewN nq)
              have A6 := hide (A5.out.drewN nq)
              have M6 := hide (M5.out.drewN nq)
              generalize W5.drewN nq = W6 at R6 A6 M6 ⊢
              clear lb lg4 x8 x11 x12 x13 f12 f13 a4 g4
              have lb := A6.out.lt
              have lg4 := R6.out.lt
              have x8 := R6.out.at 10 _ rfl
              have x11 := R6.out.at 11 _ rfl
              have x12 := R6.out.at 12 _ rfl
              have x13 := R6.out.at 13 _ rfl
              have f12 := R6.out.fr 12 (by simp [kpl, ruL])
              have f13 := R6.out.fr 13 (by simp [kpl, ruL])
              have a4 := A6.out.at0 4 _ rfl
              have g4 := A6.out.fr0 4 (by simp)
              have SB : sayB R s1 t = true := by unfold sayB; rw [decide_eq_true_eq]; exact ⟨by omega, fun q => absurd q he⟩
              have E1 : Hid (sayS R s1 t = { s1 with said := s1.st, when := t }) := hide (by unfold sayS; rw [SB]; rfl)
              have E2 : Hid (∀ x y, sayO R s1 t true x y = some [.string nm, .int .i64 t, .int .i64 s1.said, .int .i64 s1.st, .bool false, .bool true, .int .i64 x, .int .u64 y]) := hide (fun x y => by unfold sayO; rw [SB, if_pos rfl, hnm, decide_eq_false he])
              clear SB
              go_upto_region 23 with (fail)
              refine abs_wp (fun W => Hid (Row W g (i * 19) (kpl R { s1 with said := s1.st, when := t })) ∧ Hid (Row W (w.heap.size + 1) 0 [.string nm, .int .i64 t, .int .i64 s1.said, .int .i64 s1.st, .bool false, .bool true, .int .i64 v1, .int .u64 v0]) ∧ Hid (KM g (i * 19) w W)) ⟨hide ?_, hide ?_, hide ?_⟩ ?_
              · exact (R6.out.set 12 (by simp [kpl, ruL]) (.int .i64 s1.st)).set 13 (by simp [kpl, ruL]) (.int .i64 t)
              · exact (A6.out.apart (.inl (by simp only; omega)) _).apart (.inl (by simp only; omega)) _
              · exact (M6.out.set 12 (by omega) _).set 13 (by omega) _
              rintro W9 ⟨R9, A9, M9⟩
              clear lb lg4 x8 x11 x12 x13 f12 f13 a4 g4
              have y0 := A9.out.at0 0 _ rfl
              have y1 := A9.out.at0 1 _ rfl
              have y2 := A9.out.at0 2 _ rfl
              have y3 := A9.out.at0 3 _ rfl
              have y4 := A9.out.at0 4 _ rfl
              have y5 := A9.out.at0 5 _ rfl
              have y6 := A9.out.at0 6 _ rfl
              have y7 := A9.out.at0 7 _ rfl
              have lb := A9.out.lt
              go_wp2_with fail
              go_returns
              refine ⟨_, rfl, ?_, (fun k e => ?_), ?_, ?_⟩
              · first | (rw [E2.out]; exact ⟨_, rfl, Row.new' W9 _ 58 _ rfl⟩) | exact ⟨_, rfl, Row.new' W9 _ 58 _ rfl⟩
              · have e2 : W9.heap.size = k := by simpa [Value.ownBlock] using e
                have := M9.out.mod.size
                omega
              · first | (rw [E1.out]; exact R9.out.later ((Below.refl _ _).alloc (Nat.le_refl _) _)) | exact R9.out.later ((Below.refl _ _).alloc (Nat.le_refl _) _)
              · exact M9.out.later lg ((Below.refl _ _).alloc (Nat.le_refl _) _)
  · have E1 : feE s t = 1 := by unfold feE; rw [if_neg ra]
    have E2 : feS R s t is (V v1 v0) = s := by unfold feS; rw [E1]; rfl
    have E3 : feO R s t is v1 v0 = none := by unfold feO; rw [E1]; rfl
    rw [E1, E2, E3]
    clear E1 E2 E3
    go_enter Try.func13, Try.ntmps13
    by_cases t1 : t < 0
    · go_wp2_with (go_at_call 25; go_loud (refine Calls.mono (KF _ B0) ?_); go_loud (rintro e w2 ⟨rfl, rfl⟩))
      go_returns
      exact ⟨_, rfl, rfl, (fun k e => by cases e), HR0.out.later B0, (KM.refl _ _ _).later lg B0⟩
    · have t2 : 1099511627775 < t := by omega
      go_wp2_with (go_at_call 25; go_loud (refine Calls.mono (KF _ B0) ?_); go_loud (rintro e w2 ⟨rfl, rfl⟩))
      go_returns
      exact ⟨_, rfl, rfl, (fun k e => by cases e), HR0.out.later B0, (KM.refl _ _ _).later lg B0⟩
end Go.Proofs.Ytnlefakicjojdaa
/- alarm: the reference's New. -/
namespace Go.Proofs.Ytnlefakicjojdaa
set_option linter.unusedVariables false
set_option linter.unusedSimpArgs false
open Go.RowKit W Go.Maps
theorem step_append_at {P : Program} {ops : Array Oper} {o : Oper} {a : Act} {w : World} {K : Act → World → Prop} {Q : Exit → Act → World → Prop} {E : Prop} (hgd : o.guard = none) (s x : Operand) (t : TypeId)
    (ho : o.op = .call { callee := .builtin .append, args := #[s, x], argTypes := #[t, t] })
    (base : Nat) (e : TypeId) (i : TypeInfo) (z : Value) (size bytes : Nat) (ht : P.underlying t = some (.slice e)) (hi : P.info? e = some i) (hz : i.zero = some z)
    (hsize : i.size = size) (hby : i.bytes = bytes) (hzs : z.cells.size = size) (hsz : 0 < size)
    (v : Value) (n : Nat) (xs : List Value) (hs : a.eval s = v) (hown : w.ownsRow base e size v n xs)
    (ad : Addr) (m c : Nat) (news : List Value) (hx : a.eval x = .slice (some ad) m c) (hl : news.length = m * size) (hnews : ∀ j u, news[j]? = some u → w.cell? (ad.add j) = some u) (h1 : ∀ u ∈ news, u.oneCell' = true)
    (h63 : n + m ≤ maxLen) (hbytes : (n + m) * bytes ≤ 140737488355328) (hbase : base ≤ w.heap.size)
    (h : ∀ v' w', w'.ownsRow base e size v' (n + m) (xs ++ news) → w.grownBy w' v.ownBlock → (v'.ownBlock = v.ownBlock ∨ v'.ownBlock = some w.heap.size) → K (a.put o.dst v') w') :
    if Region.wanted o (yielded ops a.tmps) = true then Oper.wp P o a w K Q else E := by
  have hw : Region.wanted o (yielded ops a.tmps) = true := by simp [Region.wanted, hgd]
  rw [if_pos hw]
  obtain ⟨v', w', hr, h2, h3, h4, h5⟩ := run_append_own_at (P := P) w base t o.type e i z size bytes ht hi hz hsize hby hzs hsz v n xs hown ad m c news hl hnews h1 h63 hbytes hbase
  unfold Oper.wp execOp
  simp only [ho, resolve, invoke, builtin, Sem.run_bind, Sem.run_pure, Result.andThen_ok, List.map_toArray, List.map_cons, List.map_nil, hs, hx, hr]
  exact h _ _ h2 h3 h5
theorem own_form {w : World} {base size n : Nat} {e : TypeId} {v : Value} {xs : List Value} (ho : w.ownsRow base e size v n xs) : ∃ A c, v = .slice A n c ∧ n ≤ c ∧ (A = none → n = 0 ∧ c = 0) := by
  rcases ho.2 with ⟨rfl, rfl⟩ | ⟨g, cap, cur, rfl, hb, hh, hn, _⟩
  · exact ⟨none, 0, rfl, Nat.le_refl _, fun _ => ⟨rfl, rfl⟩⟩
  · exact ⟨_, cap, rfl, hn, fun q => by cases q⟩
theorem own_move {a b : World} {base n e sz : Nat} {v : Value} {xs : List Value} (h : a.ownsRow base e sz v n xs) (f : ∀ k, v.ownBlock = some k → b.heap[k]? = a.heap[k]?) : b.ownsRow base e sz v n xs := by
  refine ⟨h.1, h.2.imp id ?_⟩
  rintro ⟨g, cap, cur, rfl, hb, hh, r⟩
  exact ⟨g, cap, cur, rfl, hb, (f g rfl).trans hh, r⟩
theorem own_later {a b : World} {base n e sz : Nat} {v : Value} {xs : List Value} (h : a.ownsRow base e sz v n xs) (k : Below a.heap.size a b) : b.ownsRow base e sz v n xs :=
  own_move h fun j q => k.block j (h.lt j q).2
/-- The kept rules' cells, one rule after the other. -/
def flat (L : List En) : List Value := L.flatMap fun x => kpl x.1 x.2
theorem flat_get (L : List En) : ∀ i (h : i < L.length) k, k < 19 → (flat L)[i * 19 + k]? = (kpl L[i].1 L[i].2)[k]? := by
  induction L with
  | nil => intro i h; simp at h
  | cons x L ih =>
    intro i h k hk
    unfold flat at ih ⊢
    rw [List.flatMap_cons]
    cases i with
    | zero => rw [List.getElem?_append_left (by rw [kpl_len]; omega), Nat.zero_mul, Nat.zero_add]; rfl
    | succ i =>
      rw [List.getElem?_append_right (by rw [kpl_len]; omega), kpl_len, show (i + 1) * 19 + k - 19 = i * 19 + k by omega]
      exact ih i (by simpa using h) k hk
theorem flat_len (L : List En) : (flat L).length = L.length * 19 := by
  induction L with
  | nil => rfl
  | cons x L ih => unfold flat at ih ⊢; rw [List.flatMap_cons, List.length_append, ih, kpl_len, List.length_cons]; omega
theorem flat_snoc (L : List En) (x : En) : flat (L ++ [x]) = flat L ++ kpl x.1 x.2 := by unfold flat; rw [List.flatMap_append]; simp
/-- Own rows are a book. -/
theorem own_rba {w : World} {gb B : Nat} {v : Value} {L : List En} (o : w.ownsRow B 74 19 v L.length (flat L)) (c : w.cell? ⟨gb, 0, none⟩ = some v) (lt : gb < w.heap.size) (hB : gb < B) : ∃ g, RbA w gb g L ∧ B ≤ g ∧ ∀ k, v.ownBlock = some k → k = g := by
  obtain ⟨A, c', rfl, hn, hz⟩ := own_form o
  cases A with
  | none =>
    obtain ⟨h0, rfl⟩ := hz rfl
    have h1 : L = [] := List.length_eq_zero_iff.1 h0
    subst h1
    exact ⟨B, ⟨⟨none, 0, c, fun q => absurd rfl q⟩, lt, by omega, fun i hi => by simp at hi⟩, Nat.le_refl _, fun k e => by cases e⟩
  | some a =>
    obtain ⟨g, ho, hs⟩ : ∃ g, a = ⟨g, 0, none⟩ ∧ B ≤ g := by
      rcases o.2 with ⟨q, _⟩ | ⟨g, cap, cur, q, hb, _⟩
      · cases q
      · injection q with q; injection q with q; exact ⟨g, q, hb⟩
    subst ho
    have lg := (World.ownsRow.lt o g rfl).2
    refine ⟨g, ⟨⟨_, c', c, fun _ => rfl⟩, lt, by omega, fun i hi => ⟨lg, fun k hk => ?_, fun k hk => o.frozenAt _⟩⟩, hs, fun k e => by injection e with e; exact e.symm⟩
    rw [kpl_len] at hk
    rw [o.cellAt (i * 19 + k) (by omega), flat_get L i hi k hk]
theorem info_kept : (Try.prog.info? 74).map (fun i => (i.zero, i.size, i.bytes)) = some (some (.agg (kpl ⟨ByteArray.empty, false, 0, 0, 0, 0, 0, 0, 0, 0, 0⟩ ⟨0, 0, 0, 0, 0, 0, 0, 0⟩).toArray), 19, 160) := by kernel_rfl
theorem kpl_one (R : Ru) (s : St) : ∀ u ∈ kpl R s, u.oneCell' = true := by simp [kpl, ruL, Value.oneCell']
/-- append of a kept rule, as a step of a region that draws. -/
theorem step_append_kept {ops : Array Oper} {o : Oper} {a : Act} {w : World} {K : Act → World → Prop} {Q : Exit → Act → World → Prop} {E : Prop} (hgd : o.guard = none) (s x : Operand)
    (ho : o.op = .call { callee := .builtin .append, args := #[s, x], argTypes := #[28, 28] }) (B : Nat) (v : Value) (L : List En) (hs : a.eval s = v) (hown : w.ownsRow B 74 19 v L.length (flat L)) (g : Nat) (R : Ru) (s0 : St) (hx : a.eval x = .slice (some ⟨g, 0, none⟩) 1 1) (hr : Row w g 0 (kpl R s0))
    (hl : L.length ≤ 4000000) (hB : B ≤ w.heap.size) (h : ∀ v' w', w'.ownsRow B 74 19 v' (L.length + 1) (flat (L ++ [(R, s0)])) → w.grownBy w' v.ownBlock → K (a.put o.dst v') w') : if Region.wanted o (yielded ops a.tmps) = true then Oper.wp Try.prog o a w K Q else E := by
  obtain ⟨i0, hi0, hz0, hz1, hz2⟩ := info_parts info_kept
  refine step_append_at hgd s x 28 ho B 74 i0 _ 19 160 Try.underlying28 hi0 hz0 hz1 hz2 rfl (by decide) v L.length (flat L) hs hown ⟨g, 0, none⟩ 1 1 (kpl R s0) hx rfl ?_ (kpl_one R s0) (by unfold maxLen; omega) (by omega) hB (fun v' w' q1 q2 _ => h v' w' (by rw [flat_snoc]; exact q1) q2)
  intro j u hu
  rw [Go.WideShapes.add_plain, Nat.zero_add]
  exact hr.at0 j u hu
/-- A rule's first row. -/
def firstE (L : List Ru) : List En := L.map fun R => (R, st0)
theorem firstE_len (L : List Ru) : (firstE L).length = L.length := by unfold firstE; rw [List.length_map]
structure RNI (w wr : World) (rb gb : Nat) (L : List Ru) (k : Nat) (v : Value) : Prop where
  lr : rb < wr.heap.size
  lg : gb < wr.heap.size
  ne : rb ≠ gb
  ol : w.heap.size ≤ rb ∧ w.heap.size ≤ gb
  rc : wr.cell? ⟨rb, 0, none⟩ = some (.slice none 0 0)
  rf : wr.frozen? ⟨rb, 0, none⟩ = false
  gc : wr.cell? ⟨gb, 0, none⟩ = some v
  gf : wr.frozen? ⟨gb, 0, none⟩ = false
  hB : rb < w.heap.size + 2 ∧ gb < w.heap.size + 2
  own : wr.ownsRow (w.heap.size + 2) 74 19 v (firstE (L.take k)).length (flat (firstE (L.take k)))
  below : Below w.heap.size w wr
  bad : badI (L.take k) (L.drop k) k = badI [] L 0
def RNewA (w : World) (L : List Ru) (e : Ending) (w' : World) : Prop :=
  if 64 < L.length then e = .returned (.tuple #[.agg #[.slice none 0 0], .int .i64 64, .int .i64 3]) ∧ Below w.heap.size w w'
  else match badI [] L 0 with
    | some i => e = .returned (.tuple #[.agg #[.slice none 0 0], .int .i64 i, .int .i64 230]) ∧ Below w.heap.size w w'
    | none => ∃ v, e = .returned (.tuple #[.agg #[v], .int .i64 0, .int .i64 0]) ∧ w'.ownsRow w.heap.size 74 19 v (firstE L).length (flat (firstE L)) ∧ Below w.heap.size w w'
theorem RNewA.bad {w w' : World} {L : List Ru} {i : Nat} {e : Ending} (n : L.length ≤ 64) (h : badI [] L 0 = some i) (he : e = .returned (.tuple #[.agg #[.slice none 0 0], .int .i64 i, .int .i64 230])) (hb : Below w.heap.size w w') : RNewA w L e w' := by
  unfold RNewA; rw [if_neg (by omega), h]; exact ⟨he, hb⟩
theorem RNewA.good {w w' : World} {L : List Ru} {v : Value} {e : Ending} (n : L.length ≤ 64) (h : badI [] L 0 = none) (he : e = .returned (.tuple #[.agg #[v], .int .i64 0, .int .i64 0])) (o : w'.ownsRow w.heap.size 74 19 v (firstE L).length (flat (firstE L))) (hb : Below w.heap.size w w') : RNewA w L e w' := by
  unfold RNewA; rw [if_neg (by omega), h]; exact ⟨v, he, o, hb⟩
theorem own_low {w : World} {B B' e sz n : Nat} {v : Value} {xs : List Value} (o : w.ownsRow B e sz v n xs) (h : B' ≤ B) : w.ownsRow B' e sz v n xs :=
  ⟨o.1, o.2.imp id fun ⟨g, cap, cur, a, hb, r⟩ => ⟨g, cap, cur, a, Nat.le_trans h hb, r⟩⟩
/-- One more rule. -/
theorem RNI.step {w wr w6 w7 : World} {rb gb k : Nat} {L : List Ru} {v v' : Value} {R : Ru} (h : RNI w wr rb gb L k v) (b6 : Below wr.heap.size wr w6) (tk : L.take (k + 1) = L.take k ++ [R])
    (own : w7.ownsRow (w.heap.size + 2) 74 19 v' ((firstE (L.take k)).length + 1) (flat (firstE (L.take k) ++ [(R, st0)]))) (gr : w6.grownBy w7 v.ownBlock) (bad : badI (L.take k ++ [R]) (L.drop (k + 1)) (k + 1) = badI [] L 0) :
    RNI w (w7.setCell ⟨gb, 0, none⟩ v') rb gb L (k + 1) v' := by
  have hh := h.hB
  have o6 := own_later h.own b6
  have q : ∀ j, v.ownBlock = some j → w.heap.size + 2 ≤ j := fun j e => (o6.lt j e).1
  have nr : some rb ≠ v.ownBlock := fun e => by have := q rb e.symm; omega
  have ng : some gb ≠ v.ownBlock := fun e => by have := q gb e.symm; omega
  have l6r : rb < w6.heap.size := Nat.lt_of_lt_of_le h.lr b6.size
  have l6g : gb < w6.heap.size := Nat.lt_of_lt_of_le h.lg b6.size
  have br := (gr.block rb l6r nr).trans (b6.block rb h.lr)
  have bg := (gr.block gb l6g ng).trans (b6.block gb h.lg)
  have e1 : firstE (L.take (k + 1)) = firstE (L.take k) ++ [(R, st0)] := by rw [tk]; unfold firstE; rw [List.map_append]; rfl
  have c7 : w7.cell? ⟨gb, 0, none⟩ = some v := (World.cell?_of_block bg).trans h.gc
  have f7 : w7.frozen? ⟨gb, 0, none⟩ = false := (World.frozen?_of_block bg).trans h.gf
  refine ⟨by simpa using Nat.lt_of_lt_of_le l6r gr.size, by simpa using Nat.lt_of_lt_of_le l6g gr.size, h.ne, h.ol, ?_, ?_, ?_, ?_, h.hB, ?_, ?_, by rw [tk]; exact bad⟩
  · rw [World.cell?_setCell_other (h := by intro e; injection e with e _ _; exact h.ne e.symm)]; exact (World.cell?_of_block br).trans h.rc
  · rw [World.frozen?_setCell]; exact (World.frozen?_of_block br).trans h.rf
  · exact World.cell?_setCell_same w7 ⟨gb, 0, none⟩ v' c7
  · rw [World.frozen?_setCell]; exact f7
  · rw [e1, List.length_append, List.length_singleton]
    exact own_move own fun j e => Below.heap_setCell w7 ⟨gb, 0, none⟩ v' j (by have := (own.lt j e).1; simp only; omega)
  · exact ((h.below.trans (b6.mono h.below.size)).grown gr (Nat.le_trans h.below.size b6.size) (fun j e => by have := q j e; omega)).setCell h.ol.2 _
set_option maxRecDepth 100000 in
set_option maxHeartbeats 4000000 in
theorem rnew_many (L : List Ru) (a : Option Addr) (cap : Nat) (w : World) (n : 64 < L.length) : Calls Try.prog 10 #[.slice a L.length cap] w (RNewA w L) := by
  have E : Hid (RNewA w L = fun e w' => e = .returned (.tuple #[.agg #[.slice none 0 0], .int .i64 64, .int .i64 3]) ∧ Below w.heap.size w w') := by
    show _ = _; funext e w'; unfold RNewA; rw [if_pos n]
  have n' : (64 : Int) < (L.length : Int) := by omega
  rw [E.out]
  clear E n
  generalize L.length = m at *
  go_enter Try.func10, Try.ntmps10
  go_wp2_with fail
  exact bodyPost_ret (by simp [results, Try.results10, go_sem, Value.cells]; try rfl) rfl ⟨rfl, (Below.refl _ _).alloc (Nat.le_refl _) _⟩
theorem fi_isSome (l : List Ru) (nm : ByteArray) : (fi (firstE l) nm).isSome = true ↔ ∃ x ∈ l, x.nm = nm := by
  unfold fi firstE
  rw [List.findIdx?_isSome]
  simp
set_option maxRecDepth 100000 in
set_option maxHeartbeats 4000000 in
theorem rnew_few (L : List Ru) (a : Option Addr) (cap : Nat) (w : World) (n : L.length ≤ 64) (hr : IsRules w a L) (hw : ∀ R ∈ L, RuW R ∧ R.nm.size ≤ maxLen) : Calls Try.prog 10 #[.slice a L.length cap] w (RNewA w L) := by
  have n' : ¬ (64 : Int) < (L.length : Int) := by omega
  have HR := hide hr
  have HW := hide hw
  obtain ⟨m, hm⟩ : ∃ m, m = L.length := ⟨_, rfl⟩
  rw [← hm] at n n' ⊢
  have HM := hide hm
  clear hr hw hm
  go_enter Try.func10, Try.ntmps10
  go_wp2_with fail
  refine abs_wp (fun W => Hid (RNI w W w.heap.size (w.heap.size + 1) L 0 (.slice none 0 0))) ?_ ?_
  · refine ⟨by simp; omega, by simp, by omega, ⟨by omega, by omega⟩, by simp [go_sem], by simp [go_sem], by simp [go_sem], by simp [go_sem], ⟨by omega, by omega⟩, World.ownsRow_nil _ _ _ _, (((Below.refl _ _).alloc (Nat.le_refl _) _).alloc (by simp) _), by simp⟩
  rintro W NW
  obtain ⟨gb, hgb⟩ : ∃ gb, gb = w.heap.size + 1 := ⟨_, rfl⟩
  obtain ⟨rb, hrb⟩ : ∃ rb, rb = w.heap.size := ⟨_, rfl⟩
  rw [← hgb] at NW ⊢
  rw [← hrb] at NW ⊢
  clear hgb hrb
  go_loopw [6] (fun i wr => ∃ (k : Nat) (v : Value), k ≤ m ∧ i = .int .i64 k ∧ Hid (RNI w wr rb gb L k v)) (fun i _ => m - (intOf i).toNat)
  case atStart => exact ⟨0, _, by omega, rfl, NW⟩
  case round =>
    obtain ⟨k, v, hk, rfl, NI⟩ := hrel
    by_cases hlt : k < m
    · have kL : k < L.length := by have := HM.out; omega
      obtain ⟨g, o, rfl, RA⟩ := HR.out.resolve_left (by intro e; rw [e] at kL; simp at kL)
      have RA1 := RA.later NI.out.below
      obtain ⟨R, hR⟩ : ∃ R, R = L[k] := ⟨_, rfl⟩
      have hin : R ∈ L := by rw [hR]; exact List.getElem_mem _
      have RC := fun j v => RA1.cell k kL j v
      rw [← hR] at RC
      have r0 : wr.cell? ⟨g, o + k * 11, none⟩ = some (.string R.nm) := RC 0 _ rfl
      have r1 := RC 1 _ rfl
      have r2 := RC 2 _ rfl
      have r3 := RC 3 _ rfl
      have r4 := RC 4 _ rfl
      have r5 := RC 5 _ rfl
      have r6 := RC 6 _ rfl
      have r7 := RC 7 _ rfl
      have r8 := RC 8 _ rfl
      have r9 := RC 9 _ rfl
      have r10 := RC 10 _ rfl
      have lgr := RA1.lt
      have hlt' : (k : Int) < (m : Int) := by omega
      have RCH := hide RC
      clear RC RA RA1
      have RW := HW.out R hin
      have OK := hide RW.1
      have dk : L.drop k = R :: L.drop (k + 1) := by rw [hR]; exact List.drop_eq_getElem_cons kL
      have tk : L.take (k + 1) = L.take k ++ [R] := by rw [List.take_add_one, List.getElem?_eq_getElem kL, ← hR]; rfl
      have BD := NI.out.bad
      rw [dk, badI_cons] at BD
      have TK := hide tk
      have l64 : (firstE (L.take k)).length ≤ 64 := by rw [firstE_len, List.length_take]; have := HM.out; omega
      obtain ⟨gk, RB, _⟩ := own_rba NI.out.own NI.out.gc NI.out.lg (by have := NI.out.hB; omega)
      have KF := fun X (b : Below wr.heap.size wr X) => rfind_spec (RB.later b) R.nm (by omega)
      have KM := rmay_spec R OK.out wr
      unfold ruV at KM
      have FD := fi_isSome (L.take k) R.nm
      clear hR hin dk tk kL RW RB
      unfold fiV at KF
      have TL : Hid (∀ W5, Below wr.heap.size wr W5 → (W5.cell? ⟨rb, 0, none⟩ = some (.slice none 0 0) ∧ W5.frozen? ⟨rb, 0, none⟩ = false ∧ rb < W5.heap.size) ∧ (W5.cell? ⟨gb, 0, none⟩ = some v ∧ W5.frozen? ⟨gb, 0, none⟩ = false ∧ gb < W5.heap.size)) := by
        show ∀ _, _
        intro W5 b5
        exact ⟨⟨(b5.cell (p := ⟨rb, 0, none⟩) NI.out.lr).trans NI.out.rc, (World.frozen?_of_block (b5.block rb NI.out.lr)).trans NI.out.rf, Nat.lt_of_lt_of_le NI.out.lr b5.size⟩, ⟨(b5.cell (p := ⟨gb, 0, none⟩) NI.out.lg).trans NI.out.gc, (World.frozen?_of_block (b5.block gb NI.out.lg)).trans NI.out.gf, Nat.lt_of_lt_of_le NI.out.lg b5.size⟩⟩
      have RL : Hid (∀ W5, Below wr.heap.size wr W5 → g < W5.heap.size ∧ ∀ j v, (ruL R)[j]? = some v → W5.cell? ⟨g, o + k * 11 + j, none⟩ = some v) := by
        show ∀ _, _
        intro W5 b5
        exact ⟨Nat.lt_of_lt_of_le lgr b5.size, fun j v e => (b5.cell (p := ⟨g, o + k * 11 + j, none⟩) lgr).trans (RCH.out j v e)⟩
      generalize hfi : fi (firstE (L.take k)) R.nm = fo at KF FD
      clear hfi
      by_cases hmy : mayB R = true
      · rw [hmy] at KM
        cases fo with
        | some j =>
          rw [if_pos (.inl (FD.1 rfl))] at BD
          have hj : (0 : Int) ≤ (j : Int) := by omega
          have hj2 : ¬ (j : Int) < 0 := by omega
          have BDH := hide BD
          clear BD FD hmy
          go_wp2_with first
            | (go_at_call 21; (with_reducible refine Calls.mono KM ?_); rintro e w5 ⟨rfl, k5⟩; obtain ⟨⟨d0, d1, d2⟩, e0, e1, e2⟩ := TL.out _ k5; obtain ⟨lg5, RC5⟩ := RL.out _ k5; have s0 : w5.cell? ⟨g, o + k * 11, none⟩ = some (.string R.nm) := RC5 0 _ rfl; have K5 := hide k5; clear k5 RC5 r0 r1 r2 r3 r4 r5 r6 r7 r8 r9 r10)
            | (go_at_call 25; (with_reducible refine Calls.mono (KF _ K5.out) ?_); rintro e w6 ⟨rfl, rfl⟩)
          refine bodyPost_ret (by simp [results, Try.results10, go_sem, Value.cells, d0, d1, d2]; try rfl) rfl ?_
          exact RNewA.bad (by have := HM.out; omega) BDH.out.symm rfl ((NI.out.below.trans (K5.out.mono NI.out.below.size)).setCell NI.out.ol.1 _)
        | none =>
          have FN : ¬ ∃ x ∈ L.take k, x.nm = R.nm := fun z => by have := FD.2 z; simp at this
          rw [if_neg (by rintro (q | q); exact FN q; rw [hmy] at q; cases q)] at BD
          have BDH := hide BD
          clear BD FD FN hmy
          have l4 : (firstE (L.take k)).length ≤ 4000000 := by omega
          go_wp2_with first
            | (go_at_call 21; (with_reducible refine Calls.mono KM ?_); rintro e w5 ⟨rfl, k5⟩; obtain ⟨⟨d0, d1, d2⟩, e0, e1, e2⟩ := TL.out _ k5; obtain ⟨lg5, RC5⟩ := RL.out _ k5; have s0 : w5.cell? ⟨g, o + k * 11, none⟩ = some (.string R.nm) := RC5 0 _ rfl; have s1 := RC5 1 _ rfl; have s2 := RC5 2 _ rfl; have s3 := RC5 3 _ rfl; have s4 := RC5 4 _ rfl; have s5 := RC5 5 _ rfl; have s6 := RC5 6 _ rfl; have s7 := RC5 7 _ rfl; have s8 := RC5 8 _ rfl; have s9 := RC5 9 _ rfl; have s10 := RC5 10 _ rfl; have K5 := hide k5; clear k5 RC5 r0 r1 r2 r3 r4 r5 r6 r7 r8 r9 r10)
            | (go_at_call 25; (with_reducible refine Calls.mono (KF _ K5.out) ?_); rintro e w6 ⟨rfl, rfl⟩)
          have OW := hide (own_later (own_later NI.out.own K5.out) ((Below.refl w5.heap.size w5).drew))
          have BW : w.heap.size + 2 ≤ w5.heap.size := by have := NI.out.lr; have := NI.out.lg; have := NI.out.ne; have := NI.out.ol; have := K5.out.size; omega
          have NG : Hid (some gb ≠ v.ownBlock) := by
            show _ ≠ _
            intro e; have h1 := (NI.out.own.lt gb e.symm).1; have := NI.out.hB; omega
          go_region_law (refine step_append_kept rfl _ _ rfl (w.heap.size + 2) v (firstE (L.take k)) ?_ ((OW.out).alloc _) w5.heap.size R st0 ?_ (Row.new' w5.drew [.string R.nm, .bool R.ab, .int .i64 R.w1, .int .u64 R.w0, .int .i64 R.c1, .int .u64 R.c0, .int .i64 R.s1, .int .u64 R.s0, .int .i64 R.fr, .int .i64 R.an, .int .i64 R.ag, .int .i64 1, .int .i64 1, .int .i64 0, .int .i64 0, .int .i64 0, .int .i64 0, .int .i64 (-1), .int .i64 0] 74 w5.heap.size rfl) l4 ?_ ?_; (rfl); (rfl); (simp; omega); (intro v' w7 o' gr; obtain ⟨A', c', rfl, _, _⟩ := own_form o'; have f7 : w7.frozen? ⟨gb, 0, none⟩ = false := (World.frozen?_of_block (gr.block gb (by simp; omega) NG.out)).trans (by simpa [go_sem, e2] using e1); have l7 : gb < w7.heap.size := Nat.lt_of_lt_of_le (by simp; omega) gr.size; have c7 := gr.cell (a := ⟨gb, 0, none⟩) (v := v) (by simpa [go_sem, e2] using e0) NG.out; have NX := hide (NI.out.step (K5.out.drew.alloc K5.out.size _) TK.out o' gr BDH.out); clear o' gr))
          all_goals
            clear OW KM KF BDH TL RL
            go_wp2_with fail
            go_roundw
            case rel => exact ⟨k + 1, _, by omega, by go_num, NX⟩
            case measure => simp [intOf]; omega
      · have hmy' : mayB R = false := by simpa using hmy
        rw [hmy'] at KM
        rw [if_pos (.inr hmy')] at BD
        have BDH := hide BD
        clear BD FD hmy hmy' KF
        go_wp2_with (go_at_call 21; (with_reducible refine Calls.mono KM ?_); rintro e w5 ⟨rfl, k5⟩; obtain ⟨⟨d0, d1, d2⟩, e0, e1, e2⟩ := TL.out _ k5; have K5 := hide k5; clear k5 r0 r1 r2 r3 r4 r5 r6 r7 r8 r9 r10)
        refine bodyPost_ret (by simp [results, Try.results10, go_sem, Value.cells, d0, d1, d2]; try rfl) rfl ?_
        exact RNewA.bad (by have := HM.out; omega) BDH.out.symm rfl ((NI.out.below.trans (K5.out.mono NI.out.below.size)).setCell NI.out.ol.1 _)
    · obtain rfl : k = m := by omega
      have F : Hid (firstE (L.take k) = firstE L) := by
        show _ = _
        rw [HM.out, List.take_length]
      have BN : Hid (badI [] L 0 = none) := by
        show _ = _
        rw [← NI.out.bad, HM.out, List.drop_length]; rfl
      have OW := hide NI.out.own
      have e0 := NI.out.gc
      obtain ⟨A', c', rfl, _, _⟩ := own_form NI.out.own
      have d0 := NI.out.rc
      have d1 := NI.out.rf
      have d2 := NI.out.lr
      have e2 := NI.out.lg
      go_wp2_with fail
      refine bodyPost_ret (by simp [results, Try.results10, go_sem, Value.cells, d0, d1, d2]; try rfl) rfl ?_
      have OW2 : wr.ownsRow (w.heap.size + 2) 74 19 (.slice A' (firstE (L.take k)).length c') (firstE L).length (flat (firstE L)) := by
        have h := OW.out
        rw [F.out] at h ⊢
        exact h
      exact RNewA.good (by have := HM.out; omega) BN.out rfl (own_low (own_move OW2 fun j e => Below.heap_setCell wr ⟨rb, 0, none⟩ _ j (by have := (OW2.lt j e).1; have := NI.out.hB; simp only; omega)) (by omega)) (NI.out.below.setCell NI.out.ol.1 _)
theorem rnew_spec (L : List Ru) (a : Option Addr) (cap : Nat) (w : World) (hr : IsRules w a L) (hw : ∀ R ∈ L, RuW R ∧ R.nm.size ≤ maxLen) : Calls Try.prog 10 #[.slice a L.length cap] w (RNewA w L) := by
  by_cases n : 64 < L.length
  · exact rnew_many L a cap w n
  · exact rnew_few L a cap w (by omega) hr hw
end Go.Proofs.Ytnlefakicjojdaa
/- alarm: the reference's Same. -/
namespace Go.Proofs.Ytnlefakicjojdaa
set_option linter.unusedVariables false
set_option linter.unusedSimpArgs false
open Go.RowKit W Go.Maps
set_option maxRecDepth 100000 in
set_option maxHeartbeats 4000000 in
theorem same_none (w : World) : CalcN 14 #[.slice none 0 0, .slice none 0 0] w (.bool true) := by
  go_enter Try.func14, Try.ntmps14
  go_wp2_with fail
  go_loopw [5] (fun i wr => i = .int .i64 0 ∧ wr = w) (fun i _ => 1 - (intOf i).toNat)
  case atStart => exact ⟨rfl, rfl⟩
  case round =>
    obtain ⟨rfl, rfl⟩ := hrel
    go_wp2_with fail
    go_returns
    exact ⟨rfl, rfl⟩
set_option maxRecDepth 100000 in
set_option maxHeartbeats 4000000 in
theorem same_one {w : World} {g1 g2 : Nat} (n : ByteArray) (t f g : Int) (x y : Bool) (b c : Int) (h1 : Row w g1 0 [.string n, .int .i64 t, .int .i64 f, .int .i64 g, .bool x, .bool y, .int .i64 b, .int .u64 c]) (h2 : Row w g2 0 [.string n, .int .i64 t, .int .i64 f, .int .i64 g, .bool x, .bool y, .int .i64 b, .int .u64 c]) :
    Calls Try.prog 14 #[.slice (some ⟨g1, 0, none⟩) 1 1, .slice (some ⟨g2, 0, none⟩) 1 1] w fun e w' => e = .returned (.bool true) ∧ Below w.heap.size w w' := by
  have NE := neq58 n t f g x y b c
  have p0 := h1.at0 0 _ rfl
  have q0 := h2.at0 0 _ rfl
  have p1 := h1.at0 1 _ rfl
  have q1 := h2.at0 1 _ rfl
  have p2 := h1.at0 2 _ rfl
  have q2 := h2.at0 2 _ rfl
  have p3 := h1.at0 3 _ rfl
  have q3 := h2.at0 3 _ rfl
  have p4 := h1.at0 4 _ rfl
  have q4 := h2.at0 4 _ rfl
  have p5 := h1.at0 5 _ rfl
  have q5 := h2.at0 5 _ rfl
  have p6 := h1.at0 6 _ rfl
  have q6 := h2.at0 6 _ rfl
  have p7 := h1.at0 7 _ rfl
  have q7 := h2.at0 7 _ rfl
  have l1 := h1.lt
  have l2 := h2.lt
  clear h1 h2
  go_enter Try.func14, Try.ntmps14
  go_wp2_with fail
  go_loopw [5] (fun i wr => (i = .int .i64 0 ∧ wr = w) ∨ (i = .int .i64 1 ∧ Hid (Below w.heap.size w wr))) (fun i _ => 1 - (intOf i).toNat)
  case atStart => exact .inl ⟨rfl, rfl⟩
  case round =>
    rcases hrel with ⟨rfl, rfl⟩ | ⟨rfl, KB⟩
    · go_wp2_with fail
      go_quiet (fail)
      go_wp2_with fail
      go_roundw
      case rel => exact .inr ⟨rfl, hide (below_drewN (Below.refl _ _) _)⟩
      case measure => simp [intOf]
    · go_wp2_with fail
      go_returns
      exact ⟨rfl, KB.out⟩
end Go.Proofs.Ytnlefakicjojdaa
/- alarm: the program's book beside the reference's. -/
namespace Go.Proofs.Ytnlefakicjojdaa
set_option linter.unusedVariables false
set_option linter.unusedSimpArgs false
open Go.RowKit W Go.Maps
theorem RbA.mod {w w' : World} {gb g : Nat} {L : List En} {l : List Nat} (h : RbA w gb g L) (m : Mod l w w') (n1 : gb ∉ l) (n2 : g ∉ l) : RbA w' gb g L := by
  obtain ⟨a, cap, c, q⟩ := h.c0
  exact ⟨⟨a, cap, (m.cell h.lt n1).trans c, q⟩, Nat.lt_of_lt_of_le h.lt m.size, h.ne, fun i hi => (h.row i hi).mod m n2⟩
theorem RbA.upd {w w' : World} {gb g : Nat} {L : List En} (h : RbA w gb g L) (i : Nat) (hi : i < L.length) (s' : St) (r : Row w' g (i * 19) (kpl L[i].1 s')) (k : KM g (i * 19) w w') : RbA w' gb g (L.set i (L[i].1, s')) := by
  obtain ⟨a, cap, c, q⟩ := h.c0
  refine ⟨⟨a, cap, ?_, fun e => q (by intro z; rw [z] at hi; simp at hi)⟩, Nat.lt_of_lt_of_le h.lt k.mod.size, h.ne, fun j hj => ?_⟩
  · rw [List.length_set]; exact (k.mod.cell h.lt (by simp; exact h.ne)).trans c
  · rw [List.length_set] at hj
    by_cases e : i = j
    · subst e
      rw [List.getElem_set_self]; exact r
    · rw [List.getElem_set_ne e]
      exact k.row (h.row j hj) (by rw [kpl_len]; omega)
def enE (E : List Ent) : List En := E.map fun x => (x.1, x.2.1)
theorem enE_len (E : List Ent) : (enE E).length = E.length := by unfold enE; rw [List.length_map]
theorem enE_get (E : List Ent) (i : Nat) (h : i < E.length) : (enE E)[i]'(by rw [enE_len]; exact h) = (E[i].1, E[i].2.1) := by simp [enE]
theorem enE_upd {E : List Ent} (p : E.Pairwise fun x y => x.1.nm ≠ y.1.nm ∧ x.2.2 ≠ y.2.2) (i : Nat) (h : i < E.length) (s' : St) : enE (updL E E[i].2.2 s') = (enE E).set i (E[i].1, s') := by
  apply List.ext_getElem
  · simp [enE, updL]
  · intro j h1 h2
    have hj : j < E.length := by simpa [enE, updL] using h1
    rw [List.pairwise_iff_getElem] at p
    by_cases e : i = j
    · subst e
      rw [List.getElem_set_self]
      simp [enE, updL]
    · rw [List.getElem_set_ne e]
      have n : E[j].2.2 ≠ E[i].2.2 := by
        rcases Nat.lt_or_gt_of_ne e with q | q
        · exact fun z => (p i j h hj q).2 z.symm
        · exact (p j i hj h q).2
      simp [enE, updL, n]
structure Jnt (w0 w : World) (bb mb gb g : Nat) (E : List Ent) : Prop where
  bk : BookA w bb mb E
  rb : RbA w gb g (enE E)
  nb : g ≠ bb ∧ g ≠ mb
  ng : ∀ x ∈ E, x.2.2 ≠ g ∧ x.2.2 ≠ gb
  lo : w0.heap.size ≤ bb ∧ w0.heap.size ≤ mb ∧ w0.heap.size ≤ gb ∧ w0.heap.size ≤ g ∧ ∀ x ∈ E, w0.heap.size ≤ x.2.2
  be : Below w0.heap.size w0 w
  ru : ∀ x ∈ E, RuW x.1 ∧ x.1.nm.size ≤ maxLen ∧ 0 ≤ x.1.ag
  sz : E.length ≤ 64
theorem Jnt.later {w0 w w' : World} {bb mb gb g : Nat} {E : List Ent} (h : Jnt w0 w bb mb gb g E) (b : Below w.heap.size w w') : Jnt w0 w' bb mb gb g E :=
  ⟨h.bk.later b, h.rb.later b, h.nb, h.ng, h.lo, h.be.trans (b.mono h.be.size), h.ru, h.sz⟩
theorem upd_mem {E : List Ent} {b : Nat} {s' : St} {y : Ent} (h : y ∈ updL E b s') : ∃ x ∈ E, y.2.2 = x.2.2 ∧ y.1 = x.1 := by
  unfold updL at h
  obtain ⟨x, hx, rfl⟩ := List.mem_map.1 h
  refine ⟨x, hx, ?_⟩
  by_cases q : x.2.2 = b <;> simp [q]
/-- Both have taken a step. -/
theorem Jnt.step {w0 w w1 w2 w3 : World} {bb mb gb g : Nat} {E : List Ent} (h : Jnt w0 w bb mb gb g E) (i : Nat) (hi : i < E.length) (s' : St) (bk : BookA w1 bb mb (updL E E[i].2.2 s')) (m : Mod [E[i].2.2] w w1) (b : Below w1.heap.size w1 w2)
    (r : Row w3 g (i * 19) (kpl E[i].1 s')) (k : KM g (i * 19) w2 w3) : Jnt w0 w3 bb mb gb g (updL E E[i].2.2 s') := by
  have hm : E[i] ∈ E := List.getElem_mem _
  have ni := h.ng _ hm
  have be1 := h.be.trans (m.below h.be.size (by have := h.lo.2.2.2.2 _ hm; intro x hx; simp at hx; omega))
  have be2 := be1.trans (b.mono be1.size)
  have gi : (enE E)[i]'(by rw [enE_len]; exact hi) = (E[i].1, E[i].2.1) := enE_get E i hi
  have rb2 := (h.rb.mod m (by simp; exact fun e => ni.2 e.symm) (by simp; exact fun e => ni.1 e.symm)).later b
  have rb3 := rb2.upd i (by rw [enE_len]; exact hi) s' (by rw [gi]; exact r) k
  rw [gi] at rb3
  refine ⟨(bk.later b).mod k.mod (by simp; exact fun e => h.nb.1 e.symm) (by simp; exact fun e => h.nb.2 e.symm) ?_, ?_, h.nb, ?_, ⟨h.lo.1, h.lo.2.1, h.lo.2.2.1, h.lo.2.2.2.1, ?_⟩, be2.trans (k.mod.below be2.size (by have := h.lo.2.2.2.1; intro x hx; simp at hx; omega)), ?_, by unfold updL; rw [List.length_map]; exact h.sz⟩
  · intro y hy
    obtain ⟨x, hx, e, _⟩ := upd_mem hy
    simp only [List.mem_singleton]
    rw [e]; exact (h.ng x hx).1
  · rw [enE_upd h.bk.names i hi s']; exact rb3
  · intro y hy
    obtain ⟨x, hx, e, _⟩ := upd_mem hy
    rw [e]; exact h.ng x hx
  · intro y hy
    obtain ⟨x, hx, e, _⟩ := upd_mem hy
    rw [e]; exact h.lo.2.2.2.2 x hx
  · intro y hy
    obtain ⟨x, hx, _, e⟩ := upd_mem hy
    rw [e]; exact h.ru x hx
/-- A name is in both or in neither. -/
theorem Jnt.name {w0 w : World} {bb mb gb g : Nat} {E : List Ent} (h : Jnt w0 w bb mb gb g E) (nm : ByteArray) :
    (blkOf E nm = none ∧ fi (enE E) nm = none) ∨ ∃ i, ∃ hi : i < E.length, E[i].1.nm = nm ∧ fi (enE E) nm = some i := by
  by_cases q : ∃ i, ∃ hi : i < E.length, E[i].1.nm = nm
  · obtain ⟨i, hi, e⟩ := q
    refine .inr ⟨i, hi, e, fi_some (by rw [enE_len]; exact hi) (by rw [enE_get E i hi]; exact e) fun j hj => ?_⟩
    rw [enE_get E j (by omega)]
    have p := h.bk.names
    rw [List.pairwise_iff_getElem] at p
    intro z
    exact (p j i (by omega) hi hj).1 (z.trans e.symm)
  · refine .inl ⟨?_, fi_none fun j hj => ?_⟩
    · unfold blkOf
      simp only [Option.map_eq_none_iff, List.find?_eq_none]
      intro x hx
      obtain ⟨i, hi, rfl⟩ := List.getElem_of_mem hx
      simpa using fun e => q ⟨i, hi, e⟩
    · rw [enE_get E j (by rw [enE_len] at hj; exact hj)]
      exact fun e => q ⟨j, by rw [enE_len] at hj; exact hj, e⟩
end Go.Proofs.Ytnlefakicjojdaa
/- alarm: both books asked the same. -/
namespace Go.Proofs.Ytnlefakicjojdaa
set_option linter.unusedVariables false
set_option linter.unusedSimpArgs false
open Go.RowKit W Go.Maps
theorem al_keep {w w' : World} {l : List Nat} {v : Value} {o : Option (List Value)} (h : AlOut w v o) (m : Mod l w w') (f : ∀ k, v.ownBlock = some k → k ∉ l) : AlOut w' v o := by
  cases o with
  | none => exact h
  | some x =>
    obtain ⟨g, rfl, r⟩ := h
    exact ⟨g, rfl, r.mod m (f g rfl)⟩
def Shp (o : Option (List Value)) : Prop := o = none ∨ ∃ n t f g x y b c, o = some [.string n, .int .i64 t, .int .i64 f, .int .i64 g, .bool x, .bool y, .int .i64 b, .int .u64 c]
theorem feO_shp (R : Ru) (s : St) (t : Int) (is : Bool) (v1 v0 : Int) : Shp (feO R s t is v1 v0) := by
  unfold feO fedO sayO
  split
  · split
    · exact .inr ⟨_, _, _, _, _, _, _, _, rfl⟩
    · exact .inl rfl
  · exact .inl rfl
theorem same_al {w : World} {v1 v2 : Value} {o : Option (List Value)} (sh : Shp o) (h1 : AlOut w v1 o) (h2 : AlOut w v2 o) : Calls Try.prog 14 #[v1, v2] w fun e w' => e = .returned (.bool true) ∧ Below w.heap.size w w' := by
  rcases sh with rfl | ⟨n, t, f, g, x, y, b, c, rfl⟩
  · obtain rfl := h1
    obtain rfl := h2
    refine Calls.mono (same_none w) ?_
    rintro e w' ⟨rfl, rfl⟩
    exact ⟨rfl, Below.refl _ _⟩
  · obtain ⟨g1, rfl, r1⟩ := h1
    obtain ⟨g2, rfl, r2⟩ := h2
    exact same_one n t f g x y b c r1 r2
/-- What the law sees of both Feeds. -/
def FeedR (w0 : World) (bb mb gb g : Nat) (E : List Ent) (nm : ByteArray) (t v1 v0 : Int) (is : Bool) (v : Value) (er : Int) (w1 : World) : Prop :=
  ∀ w2, Below w1.heap.size w1 w2 → Calls Try.prog 13 #[.pointer (some ⟨gb, 0, none⟩), .string nm, .int .i64 t, .agg #[.bool is, .int .i64 v1, .int .u64 v0]] w2 fun e w3 => ∃ v', e = .returned (.tuple #[v', .int .i64 er]) ∧
    (∀ W, Below w3.heap.size w3 W → Calls Try.prog 14 #[v, v'] W fun e W' => e = .returned (.bool true) ∧ Below W.heap.size W W') ∧ ∃ E', Jnt w0 w3 bb mb gb g E'
theorem jfeed {w0 w : World} {bb mb gb g : Nat} {E : List Ent} (h : Jnt w0 w bb mb gb g E) (nm : ByteArray) (hs : nm.size ≤ maxLen) (t v1 v0 : Int) (is : Bool) (iv : IsW (v1, v0)) :
    Calls Try.prog 12 #[.pointer (some ⟨bb, 0, none⟩), .string nm, .int .i64 t, .agg #[.bool is, .int .i64 v1, .int .u64 v0]] w fun e w1 => ∃ v er, e = .returned (.tuple #[v, .int .i64 er]) ∧ (∃ l, Mod l w w1 ∧ ∀ x ∈ l, ∃ y ∈ E, x = y.2.2) ∧ FeedR w0 bb mb gb g E nm t v1 v0 is v er w1 := by
  have sz := h.sz
  rcases h.name nm with ⟨n1, n2⟩ | ⟨i, hi, rfl, hf⟩
  · refine Calls.mono (feed_none h.bk nm hs n1 t v1 v0 is) ?_
    rintro e w1 ⟨rfl, k1⟩
    refine ⟨_, _, rfl, ⟨[], Mod.of_below k1, by simp⟩, fun w2 k2 => ?_⟩
    have h2 := (h.later k1).later k2
    refine Calls.mono (rfeed_none h2.rb nm (by rw [enE_len]; omega) t v1 v0 is n2) ?_
    rintro e w3 ⟨rfl, k3⟩
    exact ⟨_, rfl, fun W kW => same_al (.inl rfl) (show AlOut W (.slice none 0 0) none from rfl) rfl, E, h2.later k3⟩
  · have hm : E[i] ∈ E := List.getElem_mem _
    have ru := h.ru _ hm
    have ok := (h.bk.ok _ hm).1
    refine Calls.mono (feed_any h.bk E[i].1 E[i].2.1 hm hs t v1 v0 is iv) ?_
    rintro e w1 ⟨v, rfl, o1, f1, bk, m1⟩
    refine ⟨v, _, rfl, ⟨_, m1, fun x hx => ⟨E[i], hm, by simpa using hx⟩⟩, fun w2 k2 => ?_⟩
    have ni := h.ng _ hm
    have rb2 := (h.rb.mod m1 (by simp; exact fun e => ni.2 e.symm) (by simp; exact fun e => ni.1 e.symm)).later k2
    have gi := enE_get E i hi
    have lg := (h.rb.row i (by rw [enE_len]; exact hi)).lt
    refine Calls.mono (rfeed_some rb2 E[i].1.nm (by rw [enE_len]; omega) t v1 v0 is iv i (by rw [enE_len]; exact hi) hf E[i].1 E[i].2.1 gi rfl ru.1 ok.s0 ru.2.2) ?_
    rintro e w3 ⟨v', rfl, o2, f2, r3, k3⟩
    have kv : ∀ k, v.ownBlock = some k → k ∉ [g] := fun k e => by have := f1 k e; simp; omega
    refine ⟨v', rfl, fun W kW => same_al (feO_shp _ _ _ _ _ _) (al_keep (al_keep (al_keep o1 (Mod.of_below (l := []) k2) (by simp)) k3.mod kv) (Mod.of_below (l := []) kW) (by simp)) (al_keep o2 (Mod.of_below (l := []) kW) (by simp)), _, h.step i hi _ bk m1 k2 r3 k3⟩
def MuteR (w0 : World) (bb mb gb g : Nat) (E : List Ent) (nm : ByteArray) (t : Int) (er : Int) (w1 : World) : Prop :=
  ∀ w2, Below w1.heap.size w1 w2 → Calls Try.prog 16 #[.pointer (some ⟨gb, 0, none⟩), .string nm, .int .i64 t] w2 fun e w3 => e = .returned (.int .i64 er) ∧ (∃ l, Mod l w2 w3 ∧ ∀ x ∈ l, x = g ∧ E ≠ []) ∧ ∃ E', Jnt w0 w3 bb mb gb g E'
theorem jmute {w0 w : World} {bb mb gb g : Nat} {E : List Ent} (h : Jnt w0 w bb mb gb g E) (nm : ByteArray) (hs : nm.size ≤ maxLen) (t : Int) :
    Calls Try.prog 15 #[.pointer (some ⟨bb, 0, none⟩), .string nm, .int .i64 t] w fun e w1 => ∃ er, e = .returned (.int .i64 er) ∧ (∃ l, Mod l w w1 ∧ ∀ x ∈ l, ∃ y ∈ E, x = y.2.2) ∧ MuteR w0 bb mb gb g E nm t er w1 := by
  have sz := h.sz
  rcases h.name nm with ⟨n1, n2⟩ | ⟨i, hi, rfl, hf⟩
  · refine Calls.mono (mute_no h.bk nm hs t (.inl n1)) ?_
    rintro e w1 ⟨rfl, rfl⟩
    refine ⟨231, by rw [n1]; rfl, ⟨[], Mod.refl _ _, by simp⟩, fun w2 k2 => ?_⟩
    have h2 := h.later k2
    refine Calls.mono (rmute_none h2.rb nm (by rw [enE_len]; omega) t n2) ?_
    rintro e w3 ⟨rfl, rfl⟩
    exact ⟨rfl, ⟨[], Mod.refl _ _, by simp⟩, E, h2⟩
  · have hm : E[i] ∈ E := List.getElem_mem _
    refine Calls.mono (mute_any h.bk E[i].1 E[i].2.1 hm hs t) ?_
    rintro e w1 ⟨rfl, bk, m1⟩
    refine ⟨_, rfl, ⟨_, m1, fun x hx => ⟨E[i], hm, by simpa using hx⟩⟩, fun w2 k2 => ?_⟩
    have ni := h.ng _ hm
    have rb2 := (h.rb.mod m1 (by simp; exact fun e => ni.2 e.symm) (by simp; exact fun e => ni.1 e.symm)).later k2
    have gi := enE_get E i hi
    refine Calls.mono (rmute_some rb2 E[i].1.nm (by rw [enE_len]; omega) t i (by rw [enE_len]; exact hi) hf) ?_
    rintro e w3 ⟨rfl, r3, k3⟩
    rw [gi] at r3
    exact ⟨rfl, ⟨_, k3.mod, fun x hx => ⟨by simpa using hx, fun e => by rw [e] at hi; simp at hi⟩⟩, _, h.step i hi _ bk m1 k2 r3 k3⟩
theorem jstate {w0 w : World} {bb mb gb g : Nat} {E : List Ent} (h : Jnt w0 w bb mb gb g E) (nm : ByteArray) (hs : nm.size ≤ maxLen) :
    ∃ st ok, (∀ w', Below w.heap.size w w' → CalcN 17 #[.pointer (some ⟨bb, 0, none⟩), .string nm] w' (.tuple #[.int .i64 st, .bool ok])) ∧ ∀ w', Below w.heap.size w w' → CalcN 18 #[.pointer (some ⟨gb, 0, none⟩), .string nm] w' (.tuple #[.int .i64 st, .bool ok]) := by
  have sz := h.sz
  rcases h.name nm with ⟨n1, n2⟩ | ⟨i, hi, rfl, hf⟩
  · refine ⟨0, false, fun w' k => state_no (h.later k).bk nm hs n1, fun w' k => ?_⟩
    have q := rstate_spec (h.later k).rb nm (by rw [enE_len]; omega)
    rw [n2] at q
    exact q
  · have hm : E[i] ∈ E := List.getElem_mem _
    refine ⟨E[i].2.1.st, true, fun w' k => state_any (h.later k).bk E[i].1 E[i].2.1 hm hs, fun w' k => ?_⟩
    have q := rstate_spec (h.later k).rb E[i].1.nm (by rw [enE_len]; omega)
    rw [hf] at q
    have hi' : i < (enE E).length := by rw [enE_len]; exact hi
    have e2 : (enE E).getD i (⟨⟨#[]⟩, false, 0, 0, 0, 0, 0, 0, 0, 0, 0⟩, st0) = (enE E)[i] := by simp [hi']
    rw [enE_get E i hi] at e2
    simp only [e2] at q
    exact q
end Go.Proofs.Ytnlefakicjojdaa
/- alarm: both books at their start. -/
namespace Go.Proofs.Ytnlefakicjojdaa
set_option linter.unusedVariables false
set_option linter.unusedSimpArgs false
open Go.RowKit W Go.Maps
theorem own_rba2 {w : World} {gb B : Nat} {v : Value} {L : List En} (o : w.ownsRow B 74 19 v L.length (flat L)) (c : w.cell? ⟨gb, 0, none⟩ = some v) (lt : gb < w.heap.size) (hB : B ≤ gb) (ne : ∀ k, v.ownBlock = some k → k ≠ gb) : ∃ g, RbA w gb g L ∧ B ≤ g := by
  obtain ⟨A, c', rfl, hn, hz⟩ := own_form o
  cases A with
  | none =>
    obtain ⟨h0, rfl⟩ := hz rfl
    have h1 : L = [] := List.length_eq_zero_iff.1 h0
    subst h1
    exact ⟨gb + 1, ⟨⟨none, 0, c, fun q => absurd rfl q⟩, lt, by omega, fun i hi => by simp at hi⟩, by omega⟩
  | some a =>
    obtain ⟨g, ho, hs⟩ : ∃ g, a = ⟨g, 0, none⟩ ∧ B ≤ g := by
      rcases o.2 with ⟨q, _⟩ | ⟨g, cap, cur, q, hb, _⟩
      · cases q
      · injection q with q; injection q with q; exact ⟨g, q, hb⟩
    subst ho
    have lg := (World.ownsRow.lt o g rfl).2
    refine ⟨g, ⟨⟨_, c', c, fun _ => rfl⟩, lt, fun e => ne g rfl e.symm, fun i hi => ⟨lg, fun k hk => ?_, fun k hk => o.frozenAt _⟩⟩, hs⟩
    rw [kpl_len] at hk
    rw [o.cellAt (i * 19 + k) (by omega), flat_get L i hi k hk]
theorem bad_none : ∀ (L done : List Ru) (i : Nat), badI done L i = none → ∀ R ∈ L, mayB R = true := by
  intro L
  induction L with
  | nil => intro done i h R hR; cases hR
  | cons x L ih =>
    intro done i h R hR
    rw [badI_cons] at h
    split at h
    · cases h
    · rename_i n
      rcases List.mem_cons.1 hR with rfl | q
      · cases m : mayB R
        · exact absurd (.inr m) n
        · rfl
      · exact ih _ _ h R q
theorem may_ag {R : Ru} (m : mayB R = true) : 0 ≤ R.ag := by
  unfold mayB at m
  simp only [Bool.and_eq_true, decide_eq_true_eq] at m
  exact m.2.2.2.2.2.2.2.2.2.2.1
theorem jstart {w w1 w2 : World} {bb mb : Nat} {E : List Ent} {L : List Ru} {v : Value} {ty : TypeId} (bk : BookA w1 bb mb E) (f : E.map (fun x => x.1) = L) (each : ∀ x ∈ E, x.2.1 = st0 ∧ w.heap.size ≤ x.2.2) (l1 : w.heap.size ≤ bb) (l2 : w.heap.size ≤ mb) (k1 : Below w.heap.size w w1)
    (own : w2.ownsRow w1.heap.size 74 19 v (firstE L).length (flat (firstE L))) (k2 : Below w1.heap.size w1 w2) (n : L.length ≤ 64) (hw : ∀ R ∈ L, RuW R ∧ R.nm.size ≤ maxLen) (bn : badI [] L 0 = none) :
    ∃ g, Jnt w (w2.alloc (.cells #[v] ty)) bb mb w2.heap.size g E := by
  have ka : Below w2.heap.size w2 (w2.alloc (.cells #[v] ty)) := (Below.refl _ _).alloc (Nat.le_refl _) _
  have e1 : enE E = firstE L := by
    rw [← f]
    unfold enE firstE
    rw [List.map_map]
    refine List.map_congr_left fun x hx => ?_
    simp [(each x hx).1]
  have s1 := k1.size
  have s2 := k2.size
  obtain ⟨g, rb, hg⟩ := own_rba2 (gb := w2.heap.size) (own_later own ka) (by simp [go_sem]) (by simp) s2 (fun k e => by have := (own.lt k e).2; omega)
  have lw := fun x hx => (bk.wat x hx).lt
  have lm := bk.map.lt
  have lb := bk.lt
  refine ⟨g, (bk.later k2).later ka, by rw [e1]; exact rb, ⟨by omega, by omega⟩, fun x hx => by have := lw x hx; constructor <;> omega, ⟨l1, l2, by omega, by omega, fun x hx => (each x hx).2⟩, (k1.trans (k2.mono s1)).trans (ka.mono (by omega)), fun x hx => ?_, by have := congrArg List.length f; rw [List.length_map] at this; omega⟩
  have hx1 : x.1 ∈ L := by rw [← f]; exact List.mem_map_of_mem hx
  exact ⟨(hw _ hx1).1, (hw _ hx1).2, may_ag (bad_none L [] 0 bn _ hx1)⟩
def badV (L : List Ru) : Option (Int × Int) := if 64 < L.length then some (64, 3) else (badI [] L 0).map fun i => ((i : Int), 230)
theorem new_bad {L : List Ru} {i er : Int} (h : badV L = some (i, er)) (a : Option Addr) (cap : Nat) (w : World) (hr : IsRules w a L) (hw : ∀ R ∈ L, RuW R ∧ R.nm.size ≤ maxLen) :
    Calls Try.prog 9 #[.slice a L.length cap] w fun e w' => e = .returned (.tuple #[.pointer none, .int .i64 i, .int .i64 er]) ∧ Below w.heap.size w w' := by
  unfold badV at h
  by_cases n : 64 < L.length
  · rw [if_pos n] at h
    injection h with h
    injection h with h1 h2
    subst h1 h2
    refine Calls.mono (new_many L a cap w n) fun e w' q => ?_
    unfold NewA at q
    rw [if_pos n] at q
    exact q
  · rw [if_neg n] at h
    refine Calls.mono (new_few L a cap w (by omega) hr hw) fun e w' q => ?_
    unfold NewA at q
    rw [if_neg n] at q
    cases hb : badI [] L 0 with
    | none => rw [hb] at h; cases h
    | some j =>
      rw [hb] at h q
      injection h with h
      injection h with h1 h2
      subst h1 h2
      exact q
theorem rnew_bad {L : List Ru} {i er : Int} (h : badV L = some (i, er)) (a : Option Addr) (cap : Nat) (w : World) (hr : IsRules w a L) (hw : ∀ R ∈ L, RuW R ∧ R.nm.size ≤ maxLen) :
    Calls Try.prog 10 #[.slice a L.length cap] w fun e w' => e = .returned (.tuple #[.agg #[.slice none 0 0], .int .i64 i, .int .i64 er]) ∧ Below w.heap.size w w' := by
  refine Calls.mono (rnew_spec L a cap w hr hw) fun e w' q => ?_
  unfold badV at h
  unfold RNewA at q
  by_cases n : 64 < L.length
  · rw [if_pos n] at h q
    injection h with h
    injection h with h1 h2
    subst h1 h2
    exact q
  · rw [if_neg n] at h q
    cases hb : badI [] L 0 with
    | none => rw [hb] at h; cases h
    | some j =>
      rw [hb] at h q
      injection h with h
      injection h with h1 h2
      subst h1 h2
      exact q
theorem badV_ne {L : List Ru} {i er : Int} (h : badV L = some (i, er)) : er = 3 ∨ er = 230 := by
  unfold badV at h
  split at h
  · injection h with h; injection h with _ h; exact .inl h.symm
  · cases hb : badI [] L 0 with
    | none => rw [hb] at h; cases h
    | some j => rw [hb] at h; injection h with h; injection h with _ h; exact .inr h.symm
theorem badV_none {L : List Ru} (h : badV L = none) : L.length ≤ 64 ∧ badI [] L 0 = none := by
  unfold badV at h
  split at h
  · cases h
  · exact ⟨by omega, by cases hb : badI [] L 0 with
      | none => rfl
      | some j => rw [hb] at h; cases h⟩
end Go.Proofs.Ytnlefakicjojdaa
/- alarm: how rules read. -/
namespace Go.Proofs.Ytnlefakicjojdaa
set_option linter.unusedVariables false
set_option linter.unusedSimpArgs false
open Go.RowKit W Go.Maps Go.ChangeShapes Go.WideShapes Go.Deep
def IsRus (w : World) (a : Option Addr) (L : List Ru) : Prop := (∀ R ∈ L, RuW R ∧ R.nm.size ≤ maxLen) ∧ IsRules w a L
section
variable {H : Type} {enc : TypeId × Value → H} {w : World} {base : Nat} {sp : Nat → Bool} {held : Bool} {fuel : Nat} {x : DataW H × List MemPlace}
instance : Inhabited Ru := ⟨⟨ByteArray.empty, false, 0, 0, 0, 0, 0, 0, 0, 0, 0⟩⟩
theorem rd_rules {s : Option Addr} {n c : Nat} (h : DataW.trod enc Try.prog w base sp held fuel 22 [.slice s n c] = some x) :
    ∃ L : List Ru, L.length = n ∧ IsRus w s L ∧ (n = 0 ∨ ∃ el spd, x.1 = .slice el spd ∧ el.length = n) := by
  rcases open_slice Try.underlying22 h with ⟨hcs, _⟩ | ⟨a, len, cap, m, k, D, Pl, hcs, _, hl, hm, hmm, hx, hcell⟩
  · simp at hcs
    obtain ⟨rfl, rfl, rfl⟩ := hcs
    exact ⟨[], rfl, ⟨by simp, .inl rfl⟩, .inl rfl⟩
  · simp at hcs
    obtain ⟨rfl, rfl, rfl⟩ := hcs
    have lm : n ≤ m := by rw [hmm]; split <;> omega
    have each : ∀ i, i < n → ∃ q : Ru, (∀ k v, (ruL q)[k]? = some v → w.cell? (a.add (i * 11 + k)) = some v) ∧ RuW q ∧ q.nm.size ≤ maxLen := by
      intro i hi
      obtain ⟨cs', h1, h2⟩ := hcell i (by omega)
      obtain ⟨_, hlen, hc⟩ := World.cells?_some h1
      obtain ⟨R, rfl, iw, ws⟩ := rd_rule h2
      rw [cells53] at hc
      refine ⟨R, fun k v e => ?_, iw, ws⟩
      have hk : k < 11 := by
        obtain ⟨hk, _⟩ := List.getElem?_eq_some_iff.1 e
        simpa [ruL] using hk
      have g := hc k (by omega)
      rw [add_add] at g
      rw [g]
      exact e
    obtain ⟨q, hq⟩ := choose_lt each
    have hlen : ((List.range n).map q).length = n := by simp
    refine ⟨(List.range n).map q, hlen, ⟨fun y hy => ?_, ?_⟩, .inr ⟨_, _, by rw [hx], by simp⟩⟩
    · obtain ⟨i, hi, rfl⟩ := List.mem_map.1 hy
      exact (hq i (List.mem_range.1 hi)).2
    · rcases Nat.eq_zero_or_pos n with rfl | hpos
      · exact .inl (by simp)
      · have g0 := (hq 0 hpos).1 0 _ rfl
        obtain ⟨b, off, spot⟩ := a
        have hspot : spot = none := by simpa [Addr.add] using World.cell?_spot g0
        subst hspot
        refine .inr ⟨b, off, rfl, ?_, fun j hj k v e => ?_⟩
        · rw [add_plain] at g0
          rcases Nat.lt_or_ge b w.heap.size with hlt | hge
          · exact hlt
          · unfold World.cell? at g0; simp [Array.getElem?_eq_none hge] at g0
        · rw [hlen] at hj
          have e' : ((List.range n).map q)[j]'(by rw [hlen]; exact hj) = q j := by rw [List.getElem_map, List.getElem_range]
          rw [e'] at e
          have g := (hq j hj).1 k v e
          rw [add_plain, ← Nat.add_assoc] at g
          exact g
end
end Go.Proofs.Ytnlefakicjojdaa
/- AlarmRuns. -/
namespace Go.Proofs.Ytnlefakicjojdaa
set_option linter.unusedVariables false
set_option linter.unusedSimpArgs false
open Go.RowKit W Go.Maps
theorem IsRules.later {w w' : World} {a : Option Addr} {L : List Ru} (h : IsRules w a L) (k : Below w.heap.size w w') : IsRules w' a L :=
  h.imp id fun ⟨g, o, e, r⟩ => ⟨g, o, e, r.later k⟩
set_option maxRecDepth 100000 in
set_option maxHeartbeats 8000000 in
theorem runs_bad (L : List Ru) (a : Option Addr) (cap : Nat) (w : World) (hr : IsRules w a L) (hw : ∀ R ∈ L, RuW R ∧ R.nm.size ≤ maxLen) (i er : Int) (hb : badV L = some (i, er)) (sa : Option Addr) (n sc : Nat) :
    Calls Try.prog 3 #[.slice a L.length cap, .slice sa n sc] w fun e w' => e = .returned (.bool true) ∧ Below w.heap.size w w' := by
  have KP := new_bad hb a cap w hr hw
  have KR := fun w1 (k : Below w.heap.size w w1) => rnew_bad hb a cap w1 (hr.later k) hw
  have er0 : ¬ er = 0 := by rcases badV_ne hb with h | h <;> omega
  have er1 : (er != 0) = true := by simpa using er0
  have er2 : (er == 0) = false := by simpa using er0
  clear hb hr hw
  generalize L.length = m at *
  go_enter Try.func3, Try.ntmps3
  go_wp2_with fail
  refine Calls.mono KP ?_
  rintro e w1 ⟨rfl, k1⟩
  have K2 := KR w1 k1
  clear KP KR
  go_wp2_with fail
  refine Calls.mono K2 ?_
  rintro e w2 ⟨rfl, k2⟩
  have KK : Hid (Below w.heap.size w w2) := k1.trans (k2.mono k1.size)
  clear K2 k1 k2
  go_wp2_with fail
  refine (alive_spec _).mono ?_
  rintro e w3 ⟨rfl, k3⟩
  have K3 : Hid (Below w.heap.size w w3) := (KK.out.alloc KK.out.size _).trans (k3.mono (by have := KK.out.size; simp; omega))
  clear k3
  go_wp2_with fail
  go_returns
  exact ⟨rfl, K3.out⟩
set_option maxRecDepth 100000 in
set_option maxHeartbeats 16000000 in
theorem runs_good (L : List Ru) (a : Option Addr) (cap : Nat) (w : World) (hr : IsRules w a L) (hw : ∀ R ∈ L, RuW R ∧ R.nm.size ≤ maxLen) (hb : badV L = none) (sa : Option Addr) (n sc : Nat) (S : List Op6) (hs : S.length = n ∧ n ≤ 140737488355328) (hS : IsSc w sa S) :
    Calls Try.prog 3 #[.slice a L.length cap, .slice sa n sc] w fun e w' => e = .returned (.bool true) ∧ Below w.heap.size w w' := by
  obtain ⟨n64, bn⟩ := badV_none hb
  have KP := new_few L a cap w n64 hr hw
  have KR := fun w1 (k : Below w.heap.size w w1) => rnew_few L a cap w1 n64 (hr.later k) hw
  have HR := hide hr
  have HW := hide hw
  have HS := hide hs
  have HSS := hide hS
  have BN := hide bn
  have hn8 := hs.2
  clear hr hw hb hs hS bn
  obtain ⟨m, hm⟩ : ∃ m, m = L.length := ⟨_, rfl⟩
  rw [← hm] at KP KR n64 ⊢
  have HM := hide hm
  clear hm
  go_enter Try.func3, Try.ntmps3
  go_wp2_with fail
  refine Calls.mono KP ?_
  intro e w1 hN
  unfold NewA at hN
  rw [if_neg (by have := HM.out; omega), BN.out] at hN
  obtain ⟨bb, mb, E, rfl, bk, f, each, l1, l2, k1⟩ := hN
  have K2 := KR w1 k1
  have JS := hide (⟨bk, f, each, l1, l2, k1⟩ : BookA w1 bb mb E ∧ E.map (fun x => x.1) = L ∧ (∀ x ∈ E, x.2.1 = st0 ∧ w.heap.size ≤ x.2.2) ∧ w.heap.size ≤ bb ∧ w.heap.size ≤ mb ∧ Below w.heap.size w w1)
  clear KP KR bk f each l1 l2 k1
  go_wp2_with fail
  refine Calls.mono K2 ?_
  intro e w2 hN
  unfold RNewA at hN
  rw [if_neg (by have := HM.out; omega), BN.out] at hN
  obtain ⟨v, rfl, ow, k2⟩ := hN
  obtain ⟨g, J⟩ := jstart (ty := 30) JS.out.1 JS.out.2.1 JS.out.2.2.1 JS.out.2.2.2.1 JS.out.2.2.2.2.1 JS.out.2.2.2.2.2 ow k2 (by have := HM.out; omega) HW.out BN.out
  obtain ⟨A', c', rfl, _, _⟩ := own_form ow
  have JH := hide J
  clear J ow k2 K2 JS
  go_wp2_with fail
  refine (alive_spec _).mono ?_
  rintro e w3 ⟨rfl, k3⟩
  have J3 := hide (JH.out.later k3)
  clear JH k3
  obtain ⟨gb, hgb⟩ : ∃ gb, gb = w2.heap.size := ⟨_, rfl⟩
  rw [← hgb] at J3 ⊢
  clear hgb
  go_wp2_with fail
  go_loopw [11] (fun i wr => ∃ (k : Nat) (E : List Ent), k ≤ n ∧ i = .int .i64 k ∧ Hid (Jnt w wr bb mb gb g E)) (fun i _ => n - (intOf i).toNat)
  case atStart => exact ⟨0, E, by omega, rfl, J3⟩
  case round =>
    clear J3
    obtain ⟨k, E1, hk, rfl, JR⟩ := hrel
    by_cases hlt : k < n
    · have kL : k < S.length := by have := HS.out; omega
      obtain ⟨g5, o5, rfl, SA⟩ := HSS.out.2.resolve_left (by intro e; rw [e] at kL; simp at kL)
      have SC := SA.later JR.out.be
      obtain ⟨q, hq⟩ : ∃ q, q = S[k] := ⟨_, rfl⟩
      have IV := hide (HSS.out.1 q (by rw [hq]; exact List.getElem_mem _))
      have RC := fun j v => SC.cell k kL j v
      rw [← hq] at RC
      obtain ⟨kd, nm, t, is, v1, v0⟩ := q
      simp only at IV
      have r0 : wr.cell? ⟨g5, o5 + k * 6, none⟩ = some (.int .i64 kd) := RC 0 _ rfl
      have r1 := RC 1 _ rfl
      have r2 := RC 2 _ rfl
      have r3 := RC 3 _ rfl
      have r4 := RC 4 _ rfl
      have r5 := RC 5 _ rfl
      simp only at r1 r2 r3 r4 r5
      have hlt' : (k : Int) < (n : Int) := by omega
      have RO := hide (Row.new wr [.int .i64 kd, .string nm, .int .i64 t, .bool is, .int .i64 v1, .int .u64 v0] 40 _ rfl)
      have BO : Below wr.heap.size wr (wr.alloc (.cells [.int .i64 kd, .string nm, .int .i64 t, .bool is, .int .i64 v1, .int .u64 v0].toArray 40)) := (Below.refl _ _).alloc (Nat.le_refl _) _
      have J1 := hide (JR.out.later BO)
      have ML : Hid (∀ l : List Nat, (∀ x ∈ l, ∃ y ∈ E1, x = y.2.2) → wr.heap.size ∉ l) := by
        show ∀ l, _
        intro l hl hx
        obtain ⟨y, hy, e⟩ := hl _ hx
        have := (JR.out.bk.wat y hy).lt
        omega
      have GL : Hid (E1 ≠ [] → g < wr.heap.size) := hide (fun ne => (JR.out.rb.row 0 (by rw [enE_len]; exact List.length_pos_iff.2 ne)).lt)
      clear RC SC SA hq kL BO JR
      by_cases k1 : kd = 1
      · subst k1
        as_aux_lemma =>
          have KF := jfeed J1.out nm IV.out.2 t v1 v0 is IV.out.1
          go_wp2_with fail
          refine Calls.mono KF ?_
          rintro e w5 ⟨v, er, rfl, ⟨l, m5, hl⟩, FR⟩
          have RO5 := hide (RO.out.mod m5 (ML.out l hl))
          have z1 := RO5.out.at0 1 _ rfl
          have z2 := RO5.out.at0 2 _ rfl
          have z3 := RO5.out.at0 3 _ rfl
          have z4 := RO5.out.at0 4 _ rfl
          have z5 := RO5.out.at0 5 _ rfl
          have lz := RO5.out.lt
          have FK := FR w5 (Below.refl _ _)
          clear KF FR m5 hl r0 r1 r2 r3 r4 r5
          go_wp2_with fail
          refine Calls.mono FK ?_
          rintro e w6 ⟨v', rfl, SM, E2, J6⟩
          have SK := SM w6 (Below.refl _ _)
          have J6H := hide J6
          clear FK SM J6
          go_wp2_with fail
          refine Calls.mono SK ?_
          rintro e w7 ⟨rfl, k7⟩
          have J7 := hide (J6H.out.later k7)
          clear SK k7 J6H
          go_wp2_with fail
          go_roundw
          case rel => exact ⟨k + 1, E2, by omega, by go_num, J7⟩
          case measure => simp [intOf]; omega
      · have k1' : (kd == 1) = false := by simpa using k1
        by_cases k2 : kd = 2
        · subst k2
          as_aux_lemma =>
            have KM : ∀ W, Below (wr.alloc (.cells [.int .i64 2, .string nm, .int .i64 t, .bool is, .int .i64 v1, .int .u64 v0].toArray 40)).heap.size (wr.alloc (.cells [.int .i64 2, .string nm, .int .i64 t, .bool is, .int .i64 v1, .int .u64 v0].toArray 40)) W → Calls Try.prog 15 #[.pointer (some ⟨bb, 0, none⟩), .string nm, .int .i64 t] W fun e w5 => ∃ er, e = .returned (.int .i64 er) ∧ (w5.cell? ⟨wr.heap.size, 1, none⟩ = some (.string nm) ∧ w5.cell? ⟨wr.heap.size, 2, none⟩ = some (.int .i64 t)) ∧ ∀ w2, Below w5.heap.size w5 w2 → Calls Try.prog 16 #[.pointer (some ⟨gb, 0, none⟩), .string nm, .int .i64 t] w2 fun e w6 => e = .returned (.int .i64 er) ∧ (w6.cell? ⟨wr.heap.size, 1, none⟩ = some (.string nm) ∧ w6.cell? ⟨wr.heap.size, 2, none⟩ = some (.int .i64 t)) ∧ ∃ E', Hid (Jnt w w6 bb mb gb g E') := by
              intro W b
              refine Calls.mono (jmute (J1.out.later b) nm IV.out.2 t) ?_
              rintro e w5 ⟨er, rfl, ⟨l, m5, hl⟩, MR⟩
              have R5 := (RO.out.later b).mod m5 (ML.out l hl)
              refine ⟨er, rfl, ⟨R5.at0 1 _ rfl, R5.at0 2 _ rfl⟩, fun w2 k2 => ?_⟩
              refine Calls.mono (MR w2 k2) ?_
              rintro e w6 ⟨rfl, ⟨l2, m6, hl2⟩, E', J6⟩
              have R6 := (R5.later k2).mod m6 (fun hx => by have q := hl2 _ hx; have := GL.out q.2; omega)
              exact ⟨rfl, ⟨R6.at0 1 _ rfl, R6.at0 2 _ rfl⟩, E', hide J6⟩
            have B0 := Below.refl (wr.alloc (.cells [.int .i64 2, .string nm, .int .i64 t, .bool is, .int .i64 v1, .int .u64 v0].toArray 40)).heap.size (wr.alloc (.cells [.int .i64 2, .string nm, .int .i64 t, .bool is, .int .i64 v1, .int .u64 v0].toArray 40))
            have o1 := RO.out.at0 1 _ rfl
            have o2 := RO.out.at0 2 _ rfl
            have lo := RO.out.lt
            go_upto_region 18 with (fail)
            clear r0 r1 r2 r3 r4 r5
            generalize (wr.alloc (.cells [.int .i64 2, .string nm, .int .i64 t, .bool is, .int .i64 v1, .int .u64 v0].toArray 40)) = W9 at *
            go_region_held3 (fun w' => w'.cell? ⟨wr.heap.size, 1, none⟩ = some (.string nm) ∧ w'.cell? ⟨wr.heap.size, 2, none⟩ = some (.int .i64 t))
              (first | exact ⟨o1, o2⟩ | exact z5 | exact z6)
              (first
                | (go_at_call 15; (with_reducible refine Calls.mono (KM _ (by first | exact B0 | exact B0.drew | exact below_drewN B0 _)) ?_); rintro e w5 ⟨er, rfl, z5, MR⟩)
                | (go_at_call 16; (with_reducible refine Calls.mono (MR _ (Below.refl _ _)) ?_); rintro e w6 ⟨rfl, z6, E2, J6H⟩))
            all_goals
              clear KM
              go_wp2_with fail
              go_roundw
              case rel => exact ⟨k + 1, E2, by omega, by go_num, J6H⟩
              case measure => simp [intOf]; omega
        · have k2' : (kd == 2) = false := by simpa using k2
          by_cases k3 : kd = 3
          · subst k3
            as_aux_lemma =>
              obtain ⟨st, ok, S1, S2⟩ := jstate J1.out nm IV.out.2
              have S1' := S1 _ (Below.refl _ _)
              have S2' := S2 _ (Below.refl _ _)
              clear S1 S2
              go_wp2_with (first | (go_at_call 17; (with_reducible refine Calls.mono S1' ?_); rintro e w' ⟨rfl, rfl⟩) | (go_at_call 18; (with_reducible refine Calls.mono S2' ?_); rintro e w' ⟨rfl, rfl⟩))
              go_roundw
              case rel => exact ⟨k + 1, E1, by omega, by go_num, J1⟩
              case measure => simp [intOf]; omega
          · have k3' : (kd == 3) = false := by simpa using k3
            as_aux_lemma =>
              go_wp2_with fail
              go_roundw
              case rel => exact ⟨k + 1, E1, by omega, by go_num, J1⟩
              case measure => simp [intOf]; omega
    · obtain rfl : k = n := by omega
      clear hlt
      go_wp2_with fail
      go_loopw [21] (fun i wl => ∃ (j : Nat), j ≤ m ∧ i = .int .i64 j ∧ wl = wr) (fun i _ => m - (intOf i).toNat)
      case atStart => exact ⟨0, by omega, rfl, rfl⟩
      case round =>
        obtain ⟨j, hj, rfl, rfl⟩ := hrel
        by_cases hjt : j < m
        · have jL : j < L.length := by have := HM.out; omega
          obtain ⟨g6, o6, rfl, RA⟩ := HR.out.resolve_left (by intro e; rw [e] at jL; simp at jL)
          have RA1 := RA.later JR.out.be
          obtain ⟨R, hR⟩ : ∃ R, R = L[j] := ⟨_, rfl⟩
          have hin : R ∈ L := by rw [hR]; exact List.getElem_mem _
          have RC := fun i v => RA1.cell j jL i v
          rw [← hR] at RC
          have r0 := RC 0 _ rfl
          rw [Nat.add_zero] at r0
          have lgr := RA1.lt
          have hjt' : (j : Int) < (m : Int) := by omega
          obtain ⟨st, ok, S1, S2⟩ := jstate JR.out R.nm (HW.out R hin).2
          have S1' := S1 _ (Below.refl _ _)
          have S2' := S2 _ (Below.refl _ _)
          clear S1 S2 RC RA RA1 hR hin jL
          as_aux_lemma =>
            go_wp2_with (first | (go_at_call 17; (with_reducible refine Calls.mono S1' ?_); rintro e w' ⟨rfl, rfl⟩) | (go_at_call 18; (with_reducible refine Calls.mono S2' ?_); rintro e w' ⟨rfl, rfl⟩))
            go_roundw
            case rel => exact ⟨j + 1, by omega, by go_num, by first | rfl | trivial⟩
            case measure => simp [intOf]; omega
        · obtain rfl : j = m := by omega
          go_wp2_with fail
          go_returns
          exact ⟨rfl, JR.out.be⟩
theorem runs_all (L : List Ru) (a : Option Addr) (cap : Nat) (w : World) (hr : IsRules w a L) (hw : ∀ R ∈ L, RuW R ∧ R.nm.size ≤ maxLen) (sa : Option Addr) (n sc : Nat) (S : List Op6) (hs : S.length = n ∧ n ≤ 140737488355328) (hS : IsSc w sa S) :
    Calls Try.prog 3 #[.slice a L.length cap, .slice sa n sc] w fun e w' => e = .returned (.bool true) ∧ Below w.heap.size w w' := by
  cases hb : badV L with
  | none => exact runs_good L a cap w hr hw hb sa n sc S hs hS
  | some x => exact runs_bad L a cap w hr hw x.1 x.2 hb sa n sc
theorem law_AlarmRuns (a : Option Addr) (m cap : Nat) (L : List Ru) (sa : Option Addr) (n sc : Nat) (S : List Op6) (hm : L.length = m ∧ m ≤ 140737488355328) (hs : S.length = n ∧ n ≤ 140737488355328) (w : World) (hr : IsRus w a L) (hS : IsSc w sa S) :
    Calls Try.prog 3 #[.slice a m cap, .slice sa n sc] w fun e w' => e = .returned (.bool true) ∧ Below w.heap.size w w' := by
  obtain ⟨rfl, _⟩ := hm
  exact runs_all L a cap w hr.2 hr.1 sa n sc S hs hS
end Go.Proofs.Ytnlefakicjojdaa
/-
  AlarmRuns: for every input the law returns true, and each argument reads afterwards as it read before. No condition on the input.
-/
namespace Go.Proofs.Ytnlefakicjojdaa.alarmRuns
open Go.ChangeShapes Go.WideShapes Go.ChangeAt Go.RowKit Go.Deep W
set_option linter.unusedVariables false
theorem own : ownKnob Try.prog.godebug = none := by kernel_rfl
theorem laidOut : laidOutB Try.prog = true := by kernel_rfl
set_option maxRecDepth 100000 in
theorem lifted (os : Os) (started : os.Started) (H : Type) (enc : TypeId × Value → H) :
    ReturnsInHanded {} Try.checked os 3 .any (Rows.alarmRunsSpec.pre6 enc Try.prog Try.f3 Rows.alarmRunsRow.domain false) (Rows.alarmRunsSpec.post enc Try.prog Try.f3 false true false false) := by
  refine returnsInHanded_of_change_sized (C := Try.checked) own started (by kernel_rfl) Try.func3
    (ChangeSpec.witness6 (enc := enc) (C := Try.checked) false ⟨#[], #[.slice none 0 0, .slice none 0 0], []⟩ 8 (by kernel_rfl) (by kernel_rfl) (by kernel_rfl) (by kernel_rfl)) ?_
  intro W base args ds gs before hval0 hW hcnd hsz0 _
  have hsz : (DataW.weightsEach Try.prog (Try.f3.params.toList ++ Rows.alarmRunsSpec.plain.varTypes Try.prog) (ds ++ gs)).all (· ≤ reachBytes) = true := hsz0
  clear hsz0
  have hval : ∀ (j : Nat) t v, Try.f3.params[j]? = some t → args[j]? = some v → Value.okWide Try.prog W .any base t v := hval0
  have hW' := hW
  obtain ⟨p, q, hA0, hV, rfl, hfz, hnd⟩ := hW
  have hA : DataW.TrodAll enc Try.prog W 0 (fun _ => true) true Try.f3.params.toList args.toList ds p := hA0
  rw [Try.params3] at hA hval hsz
  obtain ⟨v0, vs0, d0, ds0, p0, q0, hargs, rfl, rfl, h0, r0⟩ := trodAll_cons hA
  obtain ⟨v1, vs1, d1, ds1, p1, q1, rfl, rfl, rfl, h1, r1⟩ := trodAll_cons r0
  obtain ⟨rfl, rfl, rfl⟩ := trodAll_nil r1
  obtain rfl : args = #[v0, v1] := by cases args; simp_all
  obtain ⟨rfl, rfl⟩ := trodVars_none hV
  have k0 := h0
  have lt0 : ∀ x ∈ p0, x.block < W.heap.size := by obtain ⟨m, hm⟩ := k0; exact DataW.trod_lt m _ _ _ hm
  obtain ⟨s0, n0, c0, rfl⟩ := okWide_slice Try.underlying22 (hval 0 22 v0 rfl rfl)
  obtain ⟨fuel0, hf0⟩ := h0
  obtain ⟨L0, hl0, hL0, hd0⟩ := Go.Proofs.Ytnlefakicjojdaa.rd_rules (by simpa [Value.cells] using hf0)
  have hn0 : L0.length = n0 ∧ n0 ≤ 140737488355328 := by
    refine ⟨hl0, ?_⟩
    rcases hd0 with e | ⟨el, spd, e, el2⟩
    · omega
    · have h1 := sized_slice hsz (j := 0) (t := 22) (e := 53) (elems := el) (spare := spd) rfl (by simp; exact e) Try.underlying22
      have rl := reachBytes_lt
      rw [(by kernel_rfl : Try.prog.bytesOf 53 = 96)] at h1
      omega
  have k1 := h1
  have lt1 : ∀ x ∈ p1, x.block < W.heap.size := by obtain ⟨m, hm⟩ := k1; exact DataW.trod_lt m _ _ _ hm
  obtain ⟨s1, n1, c1, rfl⟩ := okWide_slice Try.underlying23 (hval 1 23 v1 rfl rfl)
  obtain ⟨fuel1, hf1⟩ := h1
  obtain ⟨L1, hl1, hL1, hd1⟩ := Go.Proofs.Ytnlefakicjojdaa.rd_script (by simpa [Value.cells] using hf1)
  have hn1 : L1.length = n1 ∧ n1 ≤ 140737488355328 := by
    refine ⟨hl1, ?_⟩
    rcases hd1 with e | ⟨el, spd, e, el2⟩
    · omega
    · have h1 := sized_slice hsz (j := 1) (t := 23) (e := 40) (elems := el) (spare := spd) rfl (by simp; exact e) Try.underlying23
      have rl := reachBytes_lt
      rw [(by kernel_rfl : Try.prog.bytesOf 40 = 56)] at h1
      omega
  clear hA0 hval0
  refine (Go.Proofs.Ytnlefakicjojdaa.law_AlarmRuns s0 n0 c0 L0 s1 n1 c1 L1 hn0 hn1 W hL0 hL1).mono fun e W' ⟨he, bel⟩ => ?_
  subst he
  exact ⟨_, rfl, _, _, _, [], _, [], hW', trodAll_mk1 (shut_bool Try.underlying4 _), (trodAll_cons_mk (Below.trod laidOut (by kernel_rfl) (of_decide_eq_true (by kernel_rfl)) k0 bel lt0) (trodAll_cons_mk (Below.trod laidOut (by kernel_rfl) (of_decide_eq_true (by kernel_rfl)) k1 bel lt1) trodAll_mk0)), rfl, bel.frame _, fun h => by cases h⟩
theorem over : Rows.alarmRunsRow.holds Try.pinned (OpenSpec.ofChange Rows.alarmRunsSpec) :=
  OpenClaim.holds_of_wide 3 Try.f3 rfl rfl rfl rfl rfl rfl rfl ⟨rfl, rfl, rfl, rfl, rfl⟩ rfl rfl rfl rfl rfl (by kernel_rfl) Try.func3 (by kernel_rfl)
    (of_decide_eq_true (by kernel_rfl)) (by unfold Func.isWrapper; first | (rw [if_pos (by decide +kernel)]; kernel_rfl) | (rw [if_neg (by decide +kernel)]; exact ⟨rfl, rfl⟩))
    (fun os started H enc _ => lifted os started H enc)
end Go.Proofs.Ytnlefakicjojdaa.alarmRuns
namespace Go.Proofs.Ytnlefakicjojdaa
theorem alarmRuns_holds : Rows.AlarmRunsSaid := alarmRuns.over
#print axioms alarmRuns_holds
end Go.Proofs.Ytnlefakicjojdaa
