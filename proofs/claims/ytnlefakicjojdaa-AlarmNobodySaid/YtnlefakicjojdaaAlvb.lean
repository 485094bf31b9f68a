/- alarm: near, fromFine, fromWarn, fromCrit. -/
import Derived.Test.YtnlefakicjojdaaAlv
import Derived.Deep.DeepCutAuto
import Derived.Deep.RegionWith
namespace Go.Proofs.Ytnlefakicjojdaa
set_option linter.unusedVariables false
set_option linter.unusedSimpArgs false
open Go.RowKit W
set_option maxRecDepth 100000 in
set_option maxHeartbeats 4000000 in
theorem near_false {w : World} {b : Nat} {R : Ru} (h : RuAt w b R) (v1 v0 t1 t0 : Int) (iv : IsW (v1, v0)) (it : IsW (t1, t0)) (isl : IsW (R.s1, R.s0)) (f : Fits (V t1 t0 + V R.s1 R.s0)) (f2 : Fits (V t1 t0 - V R.s1 R.s0)) (ab : R.ab = false) :
    Calls Try.prog 62 #[.pointer (some ⟨b, 0, none⟩), .agg #[.int .i64 v1, .int .u64 v0], .agg #[.int .i64 t1, .int .u64 t0]] w fun e w' => e = .returned (.bool (bey false (V v1 v0) (V t1 t0 + V R.s1 R.s0))) ∧ Below w.heap.size w w' := by
  have ka := add_fit t1 t0 R.s1 R.s0 it isl f
  have ks := sub_fit t1 t0 R.s1 R.s0 it isl f2
  have HB := hide h
  have hl := h.lt
  have IV := hide iv
  have AB := hide ab
  have k1 := h.k1
  rw [ab] at k1
  clear h it isl f f2 iv ab
  generalize V t1 t0 + V R.s1 R.s0 = ya at *
  generalize V t1 t0 - V R.s1 R.s0 = ys at *
  go_enter Try.func62, Try.ntmps62
  go_wp2_with fail
  refine abs_wp (fun W => W.cell? ⟨w.heap.size, 0, none⟩ = some (.int .i64 v1) ∧ W.cell? ⟨w.heap.size, 1, none⟩ = some (.int .u64 v0) ∧ W.cell? ⟨w.heap.size + 1, 0, none⟩ = some (.int .i64 t1) ∧ W.cell? ⟨w.heap.size + 1, 1, none⟩ = some (.int .u64 t0) ∧ w.heap.size + 1 < W.heap.size ∧ Below w.heap.size w W) ?_ ?_
  · refine ⟨?_, ?_, ?_, ?_, ?_, ?_⟩
    all_goals first | assumption | (go_grown; done) | (simp [go_sem]; done) | (simp; done) | (simp; omega)
  rintro W ⟨p1, p0, q1, q0, zW, BW⟩
  have HW := hide (HB.out.later BW)
  have r6 := HW.out.k6
  have r7 := HW.out.k7
  have lW := HW.out.lt
  have zV : w.heap.size < W.heap.size := by omega
  clear k1
  go_cut [7, 8] (fun p q W' => ∃ (X : Nat) (x1 x0 : Int), p = .pointer (some ⟨X, 0, none⟩) ∧ q = .int .i64 0 ∧ IsW (x1, x0) ∧ V x1 x0 = ya ∧ Box2 W' X (.int .i64 x1) (.int .u64 x0) ∧ W.heap.size ≤ X ∧ Keeps W.heap.size W W')
  case first =>
    have K0 := Keeps.start (Nat.le_refl W.heap.size)
    have K1 := K0.drew
    go_region_held3 (fun w' => w'.cell? ⟨w.heap.size + 1, 0, none⟩ = some (.int .i64 t1) ∧ w'.cell? ⟨w.heap.size + 1, 1, none⟩ = some (.int .u64 t0) ∧ w'.cell? ⟨b, 6, none⟩ = some (.int .i64 R.s1) ∧ w'.cell? ⟨b, 7, none⟩ = some (.int .u64 R.s0) ∧ Keeps W.heap.size W w') ((refine (fun K => ⟨Keeps.cell K q1 zW, Keeps.cell K q0 zW, Keeps.cell K r6 lW, Keeps.cell K r7 lW, K⟩) (?_ : Keeps W.heap.size W _); ((repeat (first | with_reducible assumption | with_reducible refine Keeps.alloc ?_ _ | with_reducible refine Keeps.drew ?_ | with_reducible refine Keeps.setCell ?_ ?_ _)); (all_goals (first | (simp; done) | omega | (simp; omega))))))
      (first
      | (go_at_call 64; (with_reducible refine (ka _).mono ?_); rintro e v20 ⟨x1, x0, rfl, ix, ex, hb20⟩; have IX := hide ix; have EX := hide ex; clear ix ex; have K20 := Keeps.call (B := W.heap.size) (W := W) (by (repeat (first | with_reducible assumption | with_reducible refine Keeps.alloc ?_ _ | with_reducible refine Keeps.drew ?_ | with_reducible refine Keeps.setCell ?_ ?_ _)); (all_goals (first | (simp; done) | omega | (simp; omega)))) hb20; obtain ⟨bc20, bf20, bs20⟩ := bcell hb20; (try simp only [World.size_alloc, World.size_drew] at bc20 bf20 bs20); (try (have ov200 : W.heap.size < v20.heap.size := by omega)); (try (have ov201 : W.heap.size ≤ v20.heap.size := by omega)); (try (have ov202 : ¬ W.heap.size = v20.heap.size := by omega)); (try (have ov203 : ¬ v20.heap.size = W.heap.size := by omega)); (try (have ov204 : W.heap.size + 1 < v20.heap.size := by omega)); (try (have ov205 : W.heap.size + 1 ≤ v20.heap.size := by omega)); (try (have ov206 : ¬ W.heap.size + 1 = v20.heap.size := by omega)); (try (have ov207 : ¬ v20.heap.size = W.heap.size + 1 := by omega))))
    all_goals
      go_wp2_with fail
      go_meet
      case rel =>
        refine ⟨_, _, _, rfl, rfl, IX.out, EX.out, ⟨?_, ?_, ?_, ?_, ?_⟩, ?_, ?_⟩
        · first | (go_simp; done) | (go_simp; refine World.cell?_setCell_same' _ _ _ ?_; go_simp; done)
        · first | (go_simp; done) | (go_simp; refine World.cell?_setCell_same' _ _ _ ?_; go_simp; done)
        · first | (go_simp; done) | (go_simp; refine World.cell?_setCell_same' _ _ _ ?_; go_simp; done)
        · first | (go_simp; done) | (go_simp; refine World.cell?_setCell_same' _ _ _ ?_; go_simp; done)
        · first | (simp; done) | omega | (simp; omega)
        · first | (simp; done) | omega | (simp; omega)
        · (repeat (first | with_reducible assumption | with_reducible refine Keeps.alloc ?_ _ | with_reducible refine Keeps.drew ?_ | with_reducible refine Keeps.setCell ?_ ?_ _)); (all_goals (first | (simp; done) | omega | (simp; omega)))
  case rest =>
    obtain ⟨X, x1, x0, rfl, rfl, ix, ex, bx, XW, KK⟩ := hcut
    rename World => W2
    have IX := hide ix
    have EX := hide ex
    have k1 : W2.cell? ⟨b, 1, none⟩ = some (.bool false) := by have q := KK.cell HW.out.k1 lW; rw [AB.out] at q; exact q
    have d1 := KK.cell p1 zV
    have d0 := KK.cell p0 zV
    have q1 := KK.cell q1 zW
    have q0 := KK.cell q0 zW
    have r6 := KK.cell r6 lW
    have r7 := KK.cell r7 lW
    obtain ⟨b1, b0, g1, g0, bz⟩ := bx
    have lb : b < W2.heap.size := Nat.lt_of_lt_of_le lW KK.size
    have B2 := BW.trans (KK.below.mono BW.size)
    have zW2 : w.heap.size + 1 < W2.heap.size := by have := KK.size; omega
    have zX : w.heap.size + 1 < X := by omega
    have zX0 : w.heap.size < X := by omega
    have zW20 : w.heap.size < W2.heap.size := by omega
    have bX : b < X := by omega
    clear ix ex KK p1 p0
    have kb := fun (w' : World) (k : w'.cell? ⟨b, 1, none⟩ = some (.bool false)) (l : b < w'.heap.size) => beyond_spec k l v1 v0 x1 x0 IV.out IX.out
    rw [EX.out] at kb
    go_wp2_with (go_at_call 63; refine (kb _ k1 lb).mono ?_; rintro e w' ⟨rfl, hb⟩)
    go_returns
    exact ⟨rfl, B2.trans (hb.mono B2.size)⟩
set_option maxRecDepth 100000 in
set_option maxHeartbeats 4000000 in
theorem near_true {w : World} {b : Nat} {R : Ru} (h : RuAt w b R) (v1 v0 t1 t0 : Int) (iv : IsW (v1, v0)) (it : IsW (t1, t0)) (isl : IsW (R.s1, R.s0)) (f : Fits (V t1 t0 + V R.s1 R.s0)) (f2 : Fits (V t1 t0 - V R.s1 R.s0)) (ab : R.ab = true) :
    Calls Try.prog 62 #[.pointer (some ⟨b, 0, none⟩), .agg #[.int .i64 v1, .int .u64 v0], .agg #[.int .i64 t1, .int .u64 t0]] w fun e w' => e = .returned (.bool (bey true (V v1 v0) (V t1 t0 - V R.s1 R.s0))) ∧ Below w.heap.size w w' := by
  have ka := add_fit t1 t0 R.s1 R.s0 it isl f
  have ks := sub_fit t1 t0 R.s1 R.s0 it isl f2
  have HB := hide h
  have hl := h.lt
  have IV := hide iv
  have AB := hide ab
  have k1 := h.k1
  rw [ab] at k1
  clear h it isl f f2 iv ab
  generalize V t1 t0 + V R.s1 R.s0 = ya at *
  generalize V t1 t0 - V R.s1 R.s0 = ys at *
  go_enter Try.func62, Try.ntmps62
  go_wp2_with fail
  refine abs_wp (fun W => W.cell? ⟨w.heap.size, 0, none⟩ = some (.int .i64 v1) ∧ W.cell? ⟨w.heap.size, 1, none⟩ = some (.int .u64 v0) ∧ W.cell? ⟨w.heap.size + 1, 0, none⟩ = some (.int .i64 t1) ∧ W.cell? ⟨w.heap.size + 1, 1, none⟩ = some (.int .u64 t0) ∧ w.heap.size + 1 < W.heap.size ∧ Below w.heap.size w W) ?_ ?_
  · refine ⟨?_, ?_, ?_, ?_, ?_, ?_⟩
    all_goals first | assumption | (go_grown; done) | (simp [go_sem]; done) | (simp; done) | (simp; omega)
  rintro W ⟨p1, p0, q1, q0, zW, BW⟩
  have HW := hide (HB.out.later BW)
  have r6 := HW.out.k6
  have r7 := HW.out.k7
  have lW := HW.out.lt
  have zV : w.heap.size < W.heap.size := by omega
  clear k1
  go_cut [7, 8] (fun p q W' => ∃ (X : Nat) (x1 x0 : Int), p = .pointer (some ⟨X, 0, none⟩) ∧ q = .int .i64 0 ∧ IsW (x1, x0) ∧ V x1 x0 = ya ∧ Box2 W' X (.int .i64 x1) (.int .u64 x0) ∧ W.heap.size ≤ X ∧ Keeps W.heap.size W W')
  case first =>
    have K0 := Keeps.start (Nat.le_refl W.heap.size)
    have K1 := K0.drew
    go_region_held3 (fun w' => w'.cell? ⟨w.heap.size + 1, 0, none⟩ = some (.int .i64 t1) ∧ w'.cell? ⟨w.heap.size + 1, 1, none⟩ = some (.int .u64 t0) ∧ w'.cell? ⟨b, 6, none⟩ = some (.int .i64 R.s1) ∧ w'.cell? ⟨b, 7, none⟩ = some (.int .u64 R.s0) ∧ Keeps W.heap.size W w') ((refine (fun K => ⟨Keeps.cell K q1 zW, Keeps.cell K q0 zW, Keeps.cell K r6 lW, Keeps.cell K r7 lW, K⟩) (?_ : Keeps W.heap.size W _); ((repeat (first | with_reducible assumption | with_reducible refine Keeps.alloc ?_ _ | with_reducible refine Keeps.drew ?_ | with_reducible refine Keeps.setCell ?_ ?_ _)); (all_goals (first | (simp; done) | omega | (simp; omega))))))
      (first
      | (go_at_call 64; (with_reducible refine (ka _).mono ?_); rintro e v20 ⟨x1, x0, rfl, ix, ex, hb20⟩; have IX := hide ix; have EX := hide ex; clear ix ex; have K20 := Keeps.call (B := W.heap.size) (W := W) (by (repeat (first | with_reducible assumption | with_reducible refine Keeps.alloc ?_ _ | with_reducible refine Keeps.drew ?_ | with_reducible refine Keeps.setCell ?_ ?_ _)); (all_goals (first | (simp; done) | omega | (simp; omega)))) hb20; obtain ⟨bc20, bf20, bs20⟩ := bcell hb20; (try simp only [World.size_alloc, World.size_drew] at bc20 bf20 bs20); (try (have ov200 : W.heap.size < v20.heap.size := by omega)); (try (have ov201 : W.heap.size ≤ v20.heap.size := by omega)); (try (have ov202 : ¬ W.heap.size = v20.heap.size := by omega)); (try (have ov203 : ¬ v20.heap.size = W.heap.size := by omega)); (try (have ov204 : W.heap.size + 1 < v20.heap.size := by omega)); (try (have ov205 : W.heap.size + 1 ≤ v20.heap.size := by omega)); (try (have ov206 : ¬ W.heap.size + 1 = v20.heap.size := by omega)); (try (have ov207 : ¬ v20.heap.size = W.heap.size + 1 := by omega))))
    all_goals
      go_wp2_with fail
      go_meet
      case rel =>
        refine ⟨_, _, _, rfl, rfl, IX.out, EX.out, ⟨?_, ?_, ?_, ?_, ?_⟩, ?_, ?_⟩
        · first | (go_simp; done) | (go_simp; refine World.cell?_setCell_same' _ _ _ ?_; go_simp; done)
        · first | (go_simp; done) | (go_simp; refine World.cell?_setCell_same' _ _ _ ?_; go_simp; done)
        · first | (go_simp; done) | (go_simp; refine World.cell?_setCell_same' _ _ _ ?_; go_simp; done)
        · first | (go_simp; done) | (go_simp; refine World.cell?_setCell_same' _ _ _ ?_; go_simp; done)
        · first | (simp; done) | omega | (simp; omega)
        · first | (simp; done) | omega | (simp; omega)
        · (repeat (first | with_reducible assumption | with_reducible refine Keeps.alloc ?_ _ | with_reducible refine Keeps.drew ?_ | with_reducible refine Keeps.setCell ?_ ?_ _)); (all_goals (first | (simp; done) | omega | (simp; omega)))
  case rest =>
    obtain ⟨X, x1, x0, rfl, rfl, ix, ex, bx, XW, KK⟩ := hcut
    rename World => W2
    have IX := hide ix
    have EX := hide ex
    have k1 : W2.cell? ⟨b, 1, none⟩ = some (.bool true) := by have q := KK.cell HW.out.k1 lW; rw [AB.out] at q; exact q
    have d1 := KK.cell p1 zV
    have d0 := KK.cell p0 zV
    have q1 := KK.cell q1 zW
    have q0 := KK.cell q0 zW
    have r6 := KK.cell r6 lW
    have r7 := KK.cell r7 lW
    obtain ⟨b1, b0, g1, g0, bz⟩ := bx
    have lb : b < W2.heap.size := Nat.lt_of_lt_of_le lW KK.size
    have B2 := BW.trans (KK.below.mono BW.size)
    have zW2 : w.heap.size + 1 < W2.heap.size := by have := KK.size; omega
    have zX : w.heap.size + 1 < X := by omega
    have zX0 : w.heap.size < X := by omega
    have zW20 : w.heap.size < W2.heap.size := by omega
    have bX : b < X := by omega
    clear ix ex KK p1 p0
    go_wp2_with fail
    go_cut [24] (fun p W3 => ∃ (y1 y0 : Int), IsW (y1, y0) ∧ V y1 y0 = ys ∧ Box2 W3 X (.int .i64 y1) (.int .u64 y0) ∧ W2.heap.size ≤ W3.heap.size ∧ W3.cell? ⟨b, 1, none⟩ = some (.bool true) ∧ W3.cell? ⟨w.heap.size, 0, none⟩ = some (.int .i64 v1) ∧ W3.cell? ⟨w.heap.size, 1, none⟩ = some (.int .u64 v0) ∧ Below w.heap.size w W3)
    case first =>
      have K0 : Keeps W.heap.size W2 W2 := Keeps.start (Nat.le_trans (by omega : W.heap.size ≤ X) (Nat.le_of_lt bz))
      have K1 := K0.drew
      go_region_held3 (fun w' => w'.cell? ⟨w.heap.size + 1, 0, none⟩ = some (.int .i64 t1) ∧ w'.cell? ⟨w.heap.size + 1, 1, none⟩ = some (.int .u64 t0) ∧ w'.cell? ⟨b, 6, none⟩ = some (.int .i64 R.s1) ∧ w'.cell? ⟨b, 7, none⟩ = some (.int .u64 R.s0) ∧ Keeps W.heap.size W2 w') ((refine (fun K => ⟨Keeps.cell K q1 zW, Keeps.cell K q0 zW, Keeps.cell K r6 lW, Keeps.cell K r7 lW, K⟩) (?_ : Keeps W.heap.size W2 _); ((repeat (first | with_reducible assumption | with_reducible refine Keeps.alloc ?_ _ | with_reducible refine Keeps.drew ?_ | with_reducible refine Keeps.setCell ?_ ?_ _)); (all_goals (first | (simp; done) | omega | (simp; omega))))))
        (first
        | (go_at_call 42; (with_reducible refine (ks _).mono ?_); rintro e v21 ⟨y1, y0, rfl, iy, ey, hb21⟩; have IY := hide iy; have EY := hide ey; clear iy ey; have K21 := Keeps.call (B := W.heap.size) (W := W2) (by (repeat (first | with_reducible assumption | with_reducible refine Keeps.alloc ?_ _ | with_reducible refine Keeps.drew ?_ | with_reducible refine Keeps.setCell ?_ ?_ _)); (all_goals (first | (simp; done) | omega | (simp; omega)))) hb21; obtain ⟨bc21, bf21, bs21⟩ := bcell hb21; (try simp only [World.size_alloc, World.size_drew] at bc21 bf21 bs21); (try (have ov210 : W2.heap.size < v21.heap.size := by omega)); (try (have ov211 : W2.heap.size ≤ v21.heap.size := by omega)); (try (have ov212 : ¬ W2.heap.size = v21.heap.size := by omega)); (try (have ov213 : ¬ v21.heap.size = W2.heap.size := by omega)); (try (have ov214 : W2.heap.size + 1 < v21.heap.size := by omega)); (try (have ov215 : W2.heap.size + 1 ≤ v21.heap.size := by omega)); (try (have ov216 : ¬ W2.heap.size + 1 = v21.heap.size := by omega)); (try (have ov217 : ¬ v21.heap.size = W2.heap.size + 1 := by omega))))
      all_goals
        have KE := K21
        go_wp2_with fail
        go_meet
        case rel =>
          refine ⟨_, _, IY.out, EY.out, ⟨?_, ?_, ?_, ?_, ?_⟩, ?_, ?_, ?_, ?_, ?_⟩
          · first | (go_simp; done) | (go_simp; refine World.cell?_setCell_same' _ _ _ ?_; go_simp; done)
          · first | (go_simp; done) | (go_simp; refine World.cell?_setCell_same' _ _ _ ?_; go_simp; done)
          · first | (go_simp; done) | (go_simp; refine World.cell?_setCell_same' _ _ _ ?_; go_simp; done)
          · first | (go_simp; done) | (go_simp; refine World.cell?_setCell_same' _ _ _ ?_; go_simp; done)
          · first | (simp; done) | omega | (simp; omega)
          · first | (simp; done) | omega | (simp; omega)
          · go_simp
          · go_simp
          · go_simp
          · have BE : Below w.heap.size w v21 := B2.trans (K21.below.mono BW.size)
            repeat (first | assumption | refine Below.setCell ?_ (by first | (simp; done) | omega | (simp; omega)) _ | refine Below.drew ?_)
    case rest =>
      obtain ⟨y1, y0, iy, ey, bx3, sz3, k1, d1, d0, B3⟩ := hcut
      rename World => W3
      have IY := hide iy
      have EY := hide ey
      obtain ⟨b1, b0, g1, g0, bz⟩ := bx3
      have lb3 : b < W3.heap.size := by omega
      clear iy ey r6 r7 q1 q0
      have kb := fun (w' : World) (k : w'.cell? ⟨b, 1, none⟩ = some (.bool true)) (l : b < w'.heap.size) => beyond_spec k l v1 v0 y1 y0 IV.out IY.out
      rw [EY.out] at kb
      go_wp2_with (go_at_call 63; refine (kb _ k1 lb3).mono ?_; rintro e w' ⟨rfl, hb⟩)
      go_returns
      exact ⟨rfl, B3.trans (hb.mono B3.size)⟩
end Go.Proofs.Ytnlefakicjojdaa
