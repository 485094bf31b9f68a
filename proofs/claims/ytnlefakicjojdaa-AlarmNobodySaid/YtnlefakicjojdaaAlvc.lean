/- alarm: the level of a value. -/
import Derived.Test.YtnlefakicjojdaaAlvb
namespace Go.Proofs.Ytnlefakicjojdaa
set_option linter.unusedVariables false
set_option linter.unusedSimpArgs false
open Go.RowKit W
theorem fits_ok {R : Ru} (o : RuOk R) : Fits (V R.w1 R.w0 + V R.s1 R.s0) ∧ Fits (V R.w1 R.w0 - V R.s1 R.s0) ∧ Fits (V R.c1 R.c0 + V R.s1 R.s0) ∧ Fits (V R.c1 R.c0 - V R.s1 R.s0) := by
  obtain ⟨_, _, _, ⟨a1, a2⟩, ⟨b1, b2⟩, ⟨c1, c2⟩, _⟩ := o
  unfold Ru.wa at a1 a2
  unfold Ru.cr at b1 b2
  unfold Ru.sl at c1 c2
  refine ⟨⟨?_, ?_⟩, ⟨?_, ?_⟩, ⟨?_, ?_⟩, ⟨?_, ?_⟩⟩ <;> omega
theorem near_spec {w : World} {b : Nat} {R : Ru} (h : RuAt w b R) (v1 v0 t1 t0 : Int) (iv : IsW (v1, v0)) (it : IsW (t1, t0)) (isl : IsW (R.s1, R.s0)) (f : Fits (V t1 t0 + V R.s1 R.s0)) (f2 : Fits (V t1 t0 - V R.s1 R.s0)) :
    Calls Try.prog 62 #[.pointer (some ⟨b, 0, none⟩), .agg #[.int .i64 v1, .int .u64 v0], .agg #[.int .i64 t1, .int .u64 t0]] w fun e w' => e = .returned (.bool (bey R.ab (V v1 v0) (eas R.ab (V t1 t0) R.sl))) ∧ Below w.heap.size w w' := by
  cases e : R.ab
  · exact near_false h v1 v0 t1 t0 iv it isl f f2 e
  · exact near_true h v1 v0 t1 t0 iv it isl f f2 e
theorem beyond_at {w : World} {b : Nat} {R : Ru} (h : RuAt w b R) (v1 v0 t1 t0 : Int) (iv : IsW (v1, v0)) (it : IsW (t1, t0)) (W : World) (k : Below w.heap.size w W) :
    Calls Try.prog 63 #[.pointer (some ⟨b, 0, none⟩), .agg #[.int .i64 v1, .int .u64 v0], .agg #[.int .i64 t1, .int .u64 t0]] W fun e w' => e = .returned (.bool (bey R.ab (V v1 v0) (V t1 t0))) ∧ Below W.heap.size W w' := beyond_spec (h.later k).k1 (h.later k).lt v1 v0 t1 t0 iv it
set_option maxRecDepth 100000 in
set_option maxHeartbeats 4000000 in
theorem fine_spec {w : World} {b : Nat} {R : Ru} (h : RuAt w b R) (ok : RuOk R) (v1 v0 : Int) (iv : IsW (v1, v0)) :
    Calls Try.prog 58 #[.pointer (some ⟨b, 0, none⟩), .agg #[.int .i64 v1, .int .u64 v0]] w fun e w' => e = .returned (.int .i64 (levF R (V v1 v0))) ∧ Below w.heap.size w w' := by
  have HB := hide h
  have kC := fun W k => beyond_at h v1 v0 R.c1 R.c0 iv ok.ic W k
  have kW := fun W k => beyond_at h v1 v0 R.w1 R.w0 iv ok.iw W k
  have hL : Hid (levF R (V v1 v0) = if bey R.ab (V v1 v0) (V R.c1 R.c0) = true then 3 else if bey R.ab (V v1 v0) (V R.w1 R.w0) = true then 2 else 1) := rfl
  obtain ⟨L, eL⟩ : ∃ L, L = levF R (V v1 v0) := ⟨_, rfl⟩
  rw [← eL] at hL
  rw [← eL]
  obtain ⟨B1, e1⟩ : ∃ B1, B1 = bey R.ab (V v1 v0) (V R.c1 R.c0) := ⟨_, rfl⟩
  obtain ⟨B2, e2⟩ : ∃ B2, B2 = bey R.ab (V v1 v0) (V R.w1 R.w0) := ⟨_, rfl⟩
  rw [← e1] at kC hL
  rw [← e2] at kW hL
  clear h ok iv eL e1 e2
  go_enter Try.func58, Try.ntmps58
  go_wp2_with fail
  refine abs_wp (fun W => W.cell? ⟨w.heap.size, 0, none⟩ = some (.int .i64 v1) ∧ W.cell? ⟨w.heap.size, 1, none⟩ = some (.int .u64 v0) ∧ w.heap.size < W.heap.size ∧ Below w.heap.size w W) ?_ ?_
  · refine ⟨?_, ?_, ?_, ?_⟩
    all_goals first | assumption | (go_grown; done) | (simp [go_sem]; done) | (simp; done) | (simp; omega)
  rintro W ⟨p1, p0, zW, BW⟩
  have HW := hide (HB.out.later BW)
  have r1 := HW.out.k4
  have r0 := HW.out.k5
  have lW := HW.out.lt
  have K0 := Keeps.start (Nat.le_refl W.heap.size)
  have K1 := K0.drew
  go_region_held3 (fun w' => w'.cell? ⟨w.heap.size, 0, none⟩ = some (.int .i64 v1) ∧ w'.cell? ⟨w.heap.size, 1, none⟩ = some (.int .u64 v0) ∧ w'.cell? ⟨b, 4, none⟩ = some (.int .i64 R.c1) ∧ w'.cell? ⟨b, 5, none⟩ = some (.int .u64 R.c0) ∧ Keeps W.heap.size W w') ((refine (fun K => ⟨Keeps.cell K p1 zW, Keeps.cell K p0 zW, Keeps.cell K r1 lW, Keeps.cell K r0 lW, K⟩) (?_ : Keeps W.heap.size W _); (repeat (first | assumption | refine Keeps.alloc ?_ _ | refine Keeps.drew ?_ | refine Keeps.setCell ?_ (by first | (simp; done) | omega | (simp; omega)) _)))) ((go_at_call 63; (with_reducible refine (kC _ (BW.trans ((by assumption : Keeps W.heap.size W _).below.mono BW.size))).mono ?_); rintro e v20 ⟨rfl, hbv20⟩; have K20 := Keeps.call (B := W.heap.size) (W := W) (by (repeat (first | assumption | refine Keeps.alloc ?_ _ | refine Keeps.drew ?_ | refine Keeps.setCell ?_ (by first | (simp; done) | omega | (simp; omega)) _))) hbv20))
  all_goals
    cases B1
    · have pp1 := K20.cell p1 zW
      have pp0 := K20.cell p0 zW
      have sz := K20.size
      have HV := hide (HW.out.later K20.below)
      have BV := BW.trans (K20.below.mono BW.size)
      have r1 := HV.out.k2
      have r0 := HV.out.k3
      have lV := HV.out.lt
      have zV : w.heap.size < v20.heap.size := by omega
      go_wp2_with fail
      have J0 := Keeps.start (Nat.le_refl v20.heap.size)
      have J1 := J0.drew
      clear K0 K1 K20
      go_region_held3 (fun w' => w'.cell? ⟨w.heap.size, 0, none⟩ = some (.int .i64 v1) ∧ w'.cell? ⟨w.heap.size, 1, none⟩ = some (.int .u64 v0) ∧ w'.cell? ⟨b, 2, none⟩ = some (.int .i64 R.w1) ∧ w'.cell? ⟨b, 3, none⟩ = some (.int .u64 R.w0) ∧ Keeps v20.heap.size v20 w') ((refine (fun K => ⟨Keeps.cell K pp1 zV, Keeps.cell K pp0 zV, Keeps.cell K r1 lV, Keeps.cell K r0 lV, K⟩) (?_ : Keeps v20.heap.size v20 _); (repeat (first | assumption | refine Keeps.alloc ?_ _ | refine Keeps.drew ?_ | refine Keeps.setCell ?_ (by first | (simp; done) | omega | (simp; omega)) _)))) ((go_at_call 63; (with_reducible refine (kW _ (BV.trans ((by assumption : Keeps v20.heap.size v20 _).below.mono BV.size))).mono ?_); rintro e v21 ⟨rfl, hbv21⟩; have K21 := Keeps.call (B := v20.heap.size) (W := v20) (by (repeat (first | assumption | refine Keeps.alloc ?_ _ | refine Keeps.drew ?_ | refine Keeps.setCell ?_ (by first | (simp; done) | omega | (simp; omega)) _))) hbv21))
      all_goals
        have BE := BV.trans (K21.below.mono BV.size)
        cases B2
        all_goals
          go_wp2_with fail
          go_returns
          exact ⟨by rw [hL.out]; rfl, BE⟩
    · have BE := BW.trans (K20.below.mono BW.size)
      go_wp2_with fail
      go_returns
      exact ⟨by rw [hL.out]; rfl, BE⟩
end Go.Proofs.Ytnlefakicjojdaa
