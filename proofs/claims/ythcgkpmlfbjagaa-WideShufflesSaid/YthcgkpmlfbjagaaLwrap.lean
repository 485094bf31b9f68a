/- The reference of layer 1: its faces: over, Add, Sub, Neg, Abs, Cmp, Sign. -/
import Derived.Test.YthcgkpmlfbjagaaLto
import Derived.Test.YthcgkpmlfbjagaaWabs
namespace Go.Proofs.Ythcgkpmlfbjagaa
set_option linter.unusedVariables false
open Go.RowKit W Lb
theorem addN_spec (s s' : Bool) (pa pb : Option Addr) (ca cb : Nat) (la lb : List Int) (x y : Int) (w : World) (Ha : IsNum w s pa ca la x) (Hb : IsNum w s' pb cb lb y) (na : la.length ≤ 900) (nb : lb.length ≤ 900) :
    Calls Try.prog 47 #[.agg #[.bool s, .slice pa la.length ca], .agg #[.bool s', .slice pb lb.length cb]] w (NumPost w (x + y)) := by
  have va := Ha.mag.val
  have vb := Hb.mag.val
  have ea := Ha.neg
  have eb := Hb.neg
  have la9 : val la < pw 999 := val_lt' Ha.mag.ok (by omega)
  have lb9 : val lb < pw 999 := val_lt' Hb.mag.ok (by omega)
  have a0 := val_nonneg Ha.mag.ok
  have b0 := val_nonneg Hb.mag.ok
  have p9 : pw 1000 = 65536 * pw 999 := rfl
  have KM : ∀ (n : Bool) (m : Int), mkZ n m = x + y → m < pw 1000 → ∀ pv cv lv w', Limbs w' (.slice pv lv.length cv) lv → Mag lv m → Calls Try.prog 45 #[.bool n, .slice pv lv.length cv] w' (NumPost w' (x + y)) := by
    intro n m hm hp pv cv lv w' h1 h2
    have := make2_spec n pv cv lv w' h1 h2.ok (h2.len hp)
    rwa [h2.val, hm] at this
  have KC := fun (w' : World) (h : Below w.heap.size w w') => cmpL_spec _ _ la lb w' (Ha.lim.later h) (Hb.lim.later h) Ha.mag.ok Hb.mag.ok (by omega) (by omega)
  clear p9
  have p9 : 2 * pw 999 < pw 1000 := by show _ < 65536 * pw 999; have := pw_pos 999; omega
  by_cases ss : s = s'
  · have hz : mkZ s (val la + val lb) = x + y := by
      rw [va, vb]; subst ss; unfold mkZ Lb.ab; rw [ea] at eb
      have : (x < 0) ↔ (y < 0) := by simpa using eb
      subst ea; by_cases q : x < 0 <;> by_cases t : y < 0 <;> simp [q, t] <;> omega
    exact addN_same s s' pa pb ca cb la lb (x + y) (val la + val lb) w ss (fun w' K => addL_spec _ _ la lb w' (Ha.lim.later K.below) (Hb.lim.later K.below) Ha.mag.ok Hb.mag.ok (by omega) (by omega)) (KM s _ hz (by omega))
  · have sf : (s == s') = false := by simpa using ss
    have sx : ¬ ((x < 0) ↔ (y < 0)) := by
      intro q; apply ss; rw [ea, eb]; simp [q]
    by_cases h : 0 ≤ cmpI (val la) (val lb)
    · have le : val lb ≤ val la := by unfold cmpI at h; split at h <;> (try split at h) <;> omega
      have hz : mkZ s (val la - val lb) = x + y := by
        rw [va, vb]; unfold mkZ Lb.ab; subst ea; by_cases q : x < 0 <;> by_cases t : y < 0 <;> simp [q, t] at sx ⊢ <;> omega
      exact addN_ge s s' pa pb ca cb la lb (x + y) (val la - val lb) w _ _ sf h KC (fun w' K => subL_spec _ _ la lb w' (Ha.lim.later K.below) (Hb.lim.later K.below) Ha.mag.ok Hb.mag.ok (by omega) (length_le_of_val Hb.mag.ok Hb.mag.top Ha.mag.ok le) le) (KM s _ hz (by omega))
    · have le : val la ≤ val lb := by unfold cmpI at h; split at h <;> (try split at h) <;> omega
      have hz : mkZ s' (val lb - val la) = x + y := by
        rw [va, vb]; unfold mkZ Lb.ab; subst eb; by_cases q : x < 0 <;> by_cases t : y < 0 <;> simp [q, t] at sx ⊢ <;> omega
      exact addN_lt s s' pa pb ca cb la lb (x + y) (val lb - val la) w _ _ sf h KC (fun w' K => subL_spec _ _ lb la w' (Hb.lim.later K.below) (Ha.lim.later K.below) Hb.mag.ok Ha.mag.ok (by omega) (length_le_of_val Ha.mag.ok Ha.mag.top Hb.mag.ok le) le) (KM s' _ hz (by omega))
/-- A number's limbs are few. -/
theorem IsNum.few {w : World} {s : Bool} {p : Option Addr} {c : Nat} {l : List Int} {z : Int} (h : IsNum w s p c l z) (n : Nat) (hb : Lb.ab z < pw n) : l.length ≤ n := h.mag.len hb
theorem few_fits {z : Int} (f : Fits z) : Lb.ab z < pw 9 := by
  have : pw 9 = 22300745198530623141535718272648361505980416 := by decide
  obtain ⟨_, _⟩ := f; unfold Lb.ab; split <;> omega
theorem few_two {x y : Int} (f : Fits x) (g : Fits y) : Lb.ab (x + y) < pw 9 := by
  have : pw 9 = 22300745198530623141535718272648361505980416 := by decide
  obtain ⟨_, _⟩ := f; obtain ⟨_, _⟩ := g; unfold Lb.ab; split <;> omega
theorem few_sub {x y : Int} (f : Fits x) (g : Fits y) : Lb.ab (x - y) < pw 9 := by
  have : pw 9 = 22300745198530623141535718272648361505980416 := by decide
  obtain ⟨_, _⟩ := f; obtain ⟨_, _⟩ := g; unfold Lb.ab; split <;> omega
theorem few_abs {x : Int} (f : Fits x) : Lb.ab (mkZ false (Lb.ab x)) < pw 9 := by
  have : pw 9 = 22300745198530623141535718272648361505980416 := by decide
  obtain ⟨_, _⟩ := f; unfold mkZ Lb.ab; simp; split <;> (try split) <;> omega
theorem few_neg {x : Int} (f : Fits x) : Lb.ab (-x) < pw 9 := by
  have : pw 9 = 22300745198530623141535718272648361505980416 := by decide
  obtain ⟨_, _⟩ := f; unfold Lb.ab; split <;> omega
theorem isW_fits {a b : Int} (i : IsW (a, b)) : Fits (V a b) := fits_V i.a i.b
set_option maxHeartbeats 1000000 in
theorem over_spec (s : Bool) (p : Option Addr) (c : Nat) (l : List Int) (z : Int) (w : World) (H : IsNum w s p c l z) (hl : l.length ≤ 1000) :
    Calls Try.prog 42 #[.agg #[.bool s, .slice p l.length c]] w fun e w' => e = sumRes z ∧ Below w.heap.size w w' := by
  have KT := fun w' (h : Below w.heap.size w w') => to_spec s p c l z w' (H.later h) hl
  have v1 : ¬ Fits z → hi (resV z) = 0 := fun q => by rw [resV_not q]; rfl
  have v0 : ¬ Fits z → lo (resV z) = 0 := fun q => by rw [resV_not q]; rfl
  have ee : resE z = if Fits z then 0 else 10 := rfl
  unfold sumRes
  rw [ee]
  simp only [toRes] at KT
  clear H ee
  generalize hi (resV z) = x1 at *
  generalize lo (resV z) = x0 at *
  by_cases f : Fits z
  all_goals
    simp only [f, if_true, if_false, decide_true, decide_false] at KT ⊢
    have V1 := hide v1
    have V0 := hide v0
    clear v1 v0
    go_enter Try.func42, Try.ntmps42
    go_wp2_with fail
    refine (KT _ (by go_grown)).mono ?_
    rintro e w1 ⟨rfl, hb⟩
    obtain ⟨bc, bf, bs⟩ := bcell hb
    simp only [World.size_alloc] at bc bf bs
    have B : Below w.heap.size w w1 := Below.trans (by go_grown) (hb.mono (by first | (simp; done) | omega | (simp; omega)))
    have z1 : w.heap.size + 1 < w1.heap.size := by omega
    clear KT hb
    go_wp2_with fail
    refine bodyPost_ret (by simp [results, Try.results42, go_sem, bc, bf, z1]; try rfl) rfl ?_
    refine ⟨?_, ?_⟩
    · first | rfl | (rw [V1.out f, V0.out f]; rfl) | (rw [V1.out f, V0.out f])
    · repeat (first | exact Below.refl _ _ | assumption | refine Below.setCell ?_ (by first | (simp; done) | omega | (simp; omega)) _ | refine Below.drew ?_ | refine below_drewN ?_ _ | refine Below.alloc ?_ (by first | (simp; done) | omega | (simp; omega)) _)
set_option maxRecDepth 100000 in
set_option maxHeartbeats 4000000 in
theorem radd_spec (a b c d : Int) (ia : IsW (a, b)) (ic : IsW (c, d)) (w : World) :
    Calls Try.prog 27 #[.agg #[.int .i64 a, .int .u64 b], .agg #[.int .i64 c, .int .u64 d]] w fun e w' => e = sumRes (V a b + V c d) ∧ Below w.heap.size w w' := by
  have kfa := from_spec a b ia
  have kfc := from_spec c d ic
  have fa := isW_fits ia
  have fc := isW_fits ic
  go_enter Try.func27, Try.ntmps27
  go_wp2_with fail
  refine abs_wp (fun W => W.cell? ⟨w.heap.size, 0, none⟩ = some (.int .i64 a) ∧ W.cell? ⟨w.heap.size, 1, none⟩ = some (.int .u64 b) ∧ W.cell? ⟨w.heap.size + 1, 0, none⟩ = some (.int .i64 c) ∧ W.cell? ⟨w.heap.size + 1, 1, none⟩ = some (.int .u64 d) ∧ W.cell? ⟨w.heap.size + 1 + 1, 0, none⟩ = some (.int .i64 0) ∧ W.cell? ⟨w.heap.size + 1 + 1, 1, none⟩ = some (.int .u64 0) ∧ W.frozen? ⟨w.heap.size + 1 + 1, 0, none⟩ = false ∧ W.frozen? ⟨w.heap.size + 1 + 1, 1, none⟩ = false ∧ w.heap.size + 1 + 1 < W.heap.size ∧ Below w.heap.size w W) ?_ ?_
  · refine ⟨?_, ?_, ?_, ?_, ?_, ?_, ?_, ?_, ?_, ?_⟩
    all_goals first | assumption | (go_grown; done) | (simp [go_sem]; done) | (simp; done) | (simp; omega)
  rintro W ⟨c0, c1, c2, c3, r0, r1, g0, g1, zW, BW⟩
  have K0 := Keeps.start (Nat.le_refl W.heap.size)
  have K1 := K0.drew
  have J0 : Keeps (w.heap.size + 1 + 1) W W := Keeps.start (by omega)
  have J1 := J0.drew
  go_region_held3 (fun w' => w'.cell? ⟨w.heap.size, 0, none⟩ = some (.int .i64 a) ∧ w'.cell? ⟨w.heap.size, 1, none⟩ = some (.int .u64 b) ∧ w'.cell? ⟨w.heap.size + 1, 0, none⟩ = some (.int .i64 c) ∧ w'.cell? ⟨w.heap.size + 1, 1, none⟩ = some (.int .u64 d) ∧ Keeps (w.heap.size + 1 + 1) W w') ((refine (fun K => ⟨Keeps.cell K c0 (by omega), Keeps.cell K c1 (by omega), Keeps.cell K c2 (by omega), Keeps.cell K c3 (by omega), K⟩) (?_ : Keeps (w.heap.size + 1 + 1) W _); (repeat (first | assumption | refine Keeps.alloc ?_ _ | refine Keeps.drew ?_ | refine Keeps.setCell ?_ (by first | (simp; done) | omega | (simp; omega)) _))))
    (first
    | (go_at_call 44; (with_reducible refine (kfa _).mono ?_); rintro e v20 ⟨s0, p0, q0, l0, rfl, N0, hb20⟩; have K20 := Keeps.call (B := W.heap.size) (W := W) (by repeat (first | assumption | refine Keeps.alloc ?_ _ | refine Keeps.drew ?_ | refine Keeps.setCell ?_ (by first | (simp; done) | omega | (simp; omega)) _)) hb20; have J20 : Keeps (w.heap.size + 1 + 1) W v20 := ⟨K20.below.mono (by omega), by omega⟩; have L0 := N0.few 9 (few_fits fa))
    | (go_at_call 44; (with_reducible refine (kfc _).mono ?_); rintro e v21 ⟨s1, p1, q1, l1, rfl, N1, hb21⟩; have K21 := Keeps.call (B := W.heap.size) (W := W) (by repeat (first | assumption | refine Keeps.alloc ?_ _ | refine Keeps.drew ?_ | refine Keeps.setCell ?_ (by first | (simp; done) | omega | (simp; omega)) _)) hb21; have J21 : Keeps (w.heap.size + 1 + 1) W v21 := ⟨K21.below.mono (by omega), by omega⟩; have L1 := N1.few 9 (few_fits fc); have M0 := N0.later (w' := v21) (by have := hb21; first | exact this | exact (Below.drew (Below.refl _ _)).trans this))
    | (go_at_call 47; (with_reducible refine (addN_spec _ _ _ _ _ _ _ _ _ _ _ (M0.later (by repeat (first | exact Below.refl _ _ | assumption | refine Below.setCell ?_ (by first | (simp; done) | omega | (simp; omega)) _ | refine Below.drew ?_ | refine below_drewN ?_ _ | refine Below.alloc ?_ (by first | (simp; done) | omega | (simp; omega)) _))) (N1.later (by repeat (first | exact Below.refl _ _ | assumption | refine Below.setCell ?_ (by first | (simp; done) | omega | (simp; omega)) _ | refine Below.drew ?_ | refine below_drewN ?_ _ | refine Below.alloc ?_ (by first | (simp; done) | omega | (simp; omega)) _))) (by omega) (by omega)).mono ?_); rintro e v22 ⟨s2, p2, q2, l2, rfl, N2, hb22⟩; have K22 := Keeps.call (B := W.heap.size) (W := W) (by repeat (first | assumption | refine Keeps.alloc ?_ _ | refine Keeps.drew ?_ | refine Keeps.setCell ?_ (by first | (simp; done) | omega | (simp; omega)) _)) hb22; have J22 : Keeps (w.heap.size + 1 + 1) W v22 := ⟨K22.below.mono (by omega), by omega⟩; have L2 := N2.few 9 (few_two fa fc))
    | (go_at_call 42; (with_reducible refine (over_spec _ _ _ _ _ _ (N2.later (by repeat (first | exact Below.refl _ _ | assumption | refine Below.setCell ?_ (by first | (simp; done) | omega | (simp; omega)) _ | refine Below.drew ?_ | refine below_drewN ?_ _ | refine Below.alloc ?_ (by first | (simp; done) | omega | (simp; omega)) _))) (by omega)).mono ?_); rintro e v23 ⟨rfl, hb23⟩; have K23 := Keeps.call (B := W.heap.size) (W := W) (by repeat (first | assumption | refine Keeps.alloc ?_ _ | refine Keeps.drew ?_ | refine Keeps.setCell ?_ (by first | (simp; done) | omega | (simp; omega)) _)) hb23; have J23 : Keeps (w.heap.size + 1 + 1) W v23 := ⟨K23.below.mono (by omega), by omega⟩; have rr0 := K23.cell r0 (by omega); have gg0 := K23.free g0 (by omega); have rr1 := K23.cell r1 (by omega); have gg1 := K23.free g1 (by omega); have zz : w.heap.size + 1 + 1 < v23.heap.size := (by have := K23.size; omega)))
  all_goals
    have BE : Below w.heap.size w v23 := BW.trans (K23.below.mono BW.size)
    go_wp2_with fail
    refine bodyPost_ret (by simp [results, Try.results27, go_sem, rr0, gg0, rr1, gg1, zz]; try rfl) rfl ?_
    refine ⟨rfl, ?_⟩
    repeat (first | exact Below.refl _ _ | assumption | refine Below.setCell ?_ (by first | (simp; done) | omega | (simp; omega)) _ | refine Below.drew ?_ | refine below_drewN ?_ _ | refine Below.alloc ?_ (by first | (simp; done) | omega | (simp; omega)) _)
set_option maxRecDepth 100000 in
set_option maxHeartbeats 4000000 in
theorem rsub_spec (a b c d : Int) (ia : IsW (a, b)) (ic : IsW (c, d)) (w : World) :
    Calls Try.prog 29 #[.agg #[.int .i64 a, .int .u64 b], .agg #[.int .i64 c, .int .u64 d]] w fun e w' => e = sumRes (V a b - V c d) ∧ Below w.heap.size w w' := by
  rw [Int.sub_eq_add_neg]
  have kfa := from_spec a b ia
  have kfc := from_spec c d ic
  have fa := isW_fits ia
  have fc := isW_fits ic
  go_enter Try.func29, Try.ntmps29
  go_wp2_with fail
  refine abs_wp (fun W => W.cell? ⟨w.heap.size, 0, none⟩ = some (.int .i64 a) ∧ W.cell? ⟨w.heap.size, 1, none⟩ = some (.int .u64 b) ∧ W.cell? ⟨w.heap.size + 1, 0, none⟩ = some (.int .i64 c) ∧ W.cell? ⟨w.heap.size + 1, 1, none⟩ = some (.int .u64 d) ∧ W.cell? ⟨w.heap.size + 1 + 1, 0, none⟩ = some (.int .i64 0) ∧ W.cell? ⟨w.heap.size + 1 + 1, 1, none⟩ = some (.int .u64 0) ∧ W.frozen? ⟨w.heap.size + 1 + 1, 0, none⟩ = false ∧ W.frozen? ⟨w.heap.size + 1 + 1, 1, none⟩ = false ∧ w.heap.size + 1 + 1 < W.heap.size ∧ Below w.heap.size w W) ?_ ?_
  · refine ⟨?_, ?_, ?_, ?_, ?_, ?_, ?_, ?_, ?_, ?_⟩
    all_goals first | assumption | (go_grown; done) | (simp [go_sem]; done) | (simp; done) | (simp; omega)
  rintro W ⟨c0, c1, c2, c3, r0, r1, g0, g1, zW, BW⟩
  have K0 := Keeps.start (Nat.le_refl W.heap.size)
  have K1 := K0.drew
  have J0 : Keeps (w.heap.size + 1 + 1) W W := Keeps.start (by omega)
  have J1 := J0.drew
  go_region_held3 (fun w' => w'.cell? ⟨w.heap.size, 0, none⟩ = some (.int .i64 a) ∧ w'.cell? ⟨w.heap.size, 1, none⟩ = some (.int .u64 b) ∧ w'.cell? ⟨w.heap.size + 1, 0, none⟩ = some (.int .i64 c) ∧ w'.cell? ⟨w.heap.size + 1, 1, none⟩ = some (.int .u64 d) ∧ Keeps (w.heap.size + 1 + 1) W w') ((refine (fun K => ⟨Keeps.cell K c0 (by omega), Keeps.cell K c1 (by omega), Keeps.cell K c2 (by omega), Keeps.cell K c3 (by omega), K⟩) (?_ : Keeps (w.heap.size + 1 + 1) W _); (repeat (first | assumption | refine Keeps.alloc ?_ _ | refine Keeps.drew ?_ | refine Keeps.setCell ?_ (by first | (simp; done) | omega | (simp; omega)) _))))
    (first
    | (go_at_call 44; (with_reducible refine (kfa _).mono ?_); rintro e v20 ⟨s0, p0, q0, l0, rfl, N0, hb20⟩; have K20 := Keeps.call (B := W.heap.size) (W := W) (by repeat (first | assumption | refine Keeps.alloc ?_ _ | refine Keeps.drew ?_ | refine Keeps.setCell ?_ (by first | (simp; done) | omega | (simp; omega)) _)) hb20; have J20 : Keeps (w.heap.size + 1 + 1) W v20 := ⟨K20.below.mono (by omega), by omega⟩; have L0 := N0.few 9 (few_fits fa))
    | (go_at_call 44; (with_reducible refine (kfc _).mono ?_); rintro e v21 ⟨s1, p1, q1, l1, rfl, N1, hb21⟩; have K21 := Keeps.call (B := W.heap.size) (W := W) (by repeat (first | assumption | refine Keeps.alloc ?_ _ | refine Keeps.drew ?_ | refine Keeps.setCell ?_ (by first | (simp; done) | omega | (simp; omega)) _)) hb21; have J21 : Keeps (w.heap.size + 1 + 1) W v21 := ⟨K21.below.mono (by omega), by omega⟩; have L1 := N1.few 9 (few_fits fc); have M0 := N0.later (w' := v21) (by have := hb21; first | exact this | exact (Below.drew (Below.refl _ _)).trans this))
    | (go_at_call 43; (with_reducible refine (negN_spec _ _ _ _ _ _ (N1.later (by repeat (first | exact Below.refl _ _ | assumption | refine Below.setCell ?_ (by first | (simp; done) | omega | (simp; omega)) _ | refine Below.drew ?_ | refine below_drewN ?_ _ | refine Below.alloc ?_ (by first | (simp; done) | omega | (simp; omega)) _))) (by omega)).mono ?_); rintro e v22 ⟨s2, p2, q2, l2, rfl, N2, hb22⟩; have K22 := Keeps.call (B := W.heap.size) (W := W) (by repeat (first | assumption | refine Keeps.alloc ?_ _ | refine Keeps.drew ?_ | refine Keeps.setCell ?_ (by first | (simp; done) | omega | (simp; omega)) _)) hb22; have J22 : Keeps (w.heap.size + 1 + 1) W v22 := ⟨K22.below.mono (by omega), by omega⟩; have L2 := N2.few 9 (few_neg fc); have M1 := M0.later (w' := v22) (by have := hb22; first | exact this | exact (Below.drew (Below.refl _ _)).trans this))
    | (go_at_call 47; (with_reducible refine (addN_spec _ _ _ _ _ _ _ _ _ _ _ (M1.later (by repeat (first | exact Below.refl _ _ | assumption | refine Below.setCell ?_ (by first | (simp; done) | omega | (simp; omega)) _ | refine Below.drew ?_ | refine below_drewN ?_ _ | refine Below.alloc ?_ (by first | (simp; done) | omega | (simp; omega)) _))) (N2.later (by repeat (first | exact Below.refl _ _ | assumption | refine Below.setCell ?_ (by first | (simp; done) | omega | (simp; omega)) _ | refine Below.drew ?_ | refine below_drewN ?_ _ | refine Below.alloc ?_ (by first | (simp; done) | omega | (simp; omega)) _))) (by omega) (by omega)).mono ?_); rintro e v23 ⟨s3, p3, q3, l3, rfl, N3, hb23⟩; have K23 := Keeps.call (B := W.heap.size) (W := W) (by repeat (first | assumption | refine Keeps.alloc ?_ _ | refine Keeps.drew ?_ | refine Keeps.setCell ?_ (by first | (simp; done) | omega | (simp; omega)) _)) hb23; have J23 : Keeps (w.heap.size + 1 + 1) W v23 := ⟨K23.below.mono (by omega), by omega⟩; have L3 := N3.few 9 (by have := few_sub fa fc; rwa [Int.sub_eq_add_neg] at this))
    | (go_at_call 42; (with_reducible refine (over_spec _ _ _ _ _ _ (N3.later (by repeat (first | exact Below.refl _ _ | assumption | refine Below.setCell ?_ (by first | (simp; done) | omega | (simp; omega)) _ | refine Below.drew ?_ | refine below_drewN ?_ _ | refine Below.alloc ?_ (by first | (simp; done) | omega | (simp; omega)) _))) (by omega)).mono ?_); rintro e v24 ⟨rfl, hb24⟩; have K24 := Keeps.call (B := W.heap.size) (W := W) (by repeat (first | assumption | refine Keeps.alloc ?_ _ | refine Keeps.drew ?_ | refine Keeps.setCell ?_ (by first | (simp; done) | omega | (simp; omega)) _)) hb24; have J24 : Keeps (w.heap.size + 1 + 1) W v24 := ⟨K24.below.mono (by omega), by omega⟩; have rr0 := K24.cell r0 (by omega); have gg0 := K24.free g0 (by omega); have rr1 := K24.cell r1 (by omega); have gg1 := K24.free g1 (by omega); have zz : w.heap.size + 1 + 1 < v24.heap.size := (by have := K24.size; omega)))
  all_goals
    have BE : Below w.heap.size w v24 := BW.trans (K24.below.mono BW.size)
    go_wp2_with fail
    refine bodyPost_ret (by simp [results, Try.results29, go_sem, rr0, gg0, rr1, gg1, zz]; try rfl) rfl ?_
    refine ⟨rfl, ?_⟩
    repeat (first | exact Below.refl _ _ | assumption | refine Below.setCell ?_ (by first | (simp; done) | omega | (simp; omega)) _ | refine Below.drew ?_ | refine below_drewN ?_ _ | refine Below.alloc ?_ (by first | (simp; done) | omega | (simp; omega)) _)
set_option maxRecDepth 100000 in
set_option maxHeartbeats 4000000 in
theorem rcmp_spec (a b c d : Int) (ia : IsW (a, b)) (ic : IsW (c, d)) (w : World) :
    Calls Try.prog 22 #[.agg #[.int .i64 a, .int .u64 b], .agg #[.int .i64 c, .int .u64 d]] w fun e w' => e = .returned (.int .i64 (cmpI (V a b) (V c d))) ∧ Below w.heap.size w w' := by
  have kfa := from_spec a b ia
  have kfc := from_spec c d ic
  have fa := isW_fits ia
  have fc := isW_fits ic
  go_enter Try.func22, Try.ntmps22
  go_wp2_with fail
  refine abs_wp (fun W => W.cell? ⟨w.heap.size, 0, none⟩ = some (.int .i64 a) ∧ W.cell? ⟨w.heap.size, 1, none⟩ = some (.int .u64 b) ∧ W.cell? ⟨w.heap.size + 1, 0, none⟩ = some (.int .i64 c) ∧ W.cell? ⟨w.heap.size + 1, 1, none⟩ = some (.int .u64 d) ∧ w.heap.size + 1 < W.heap.size ∧ Below w.heap.size w W) ?_ ?_
  · refine ⟨?_, ?_, ?_, ?_, ?_, ?_⟩
    all_goals first | assumption | (go_grown; done) | (simp [go_sem]; done) | (simp; done) | (simp; omega)
  rintro W ⟨c0, c1, c2, c3, zW, BW⟩
  have K0 := Keeps.start (Nat.le_refl W.heap.size)
  have K1 := K0.drew
  have J0 : Keeps (W.heap.size) W W := Keeps.start (by omega)
  have J1 := J0.drew
  go_region_held3 (fun w' => w'.cell? ⟨w.heap.size, 0, none⟩ = some (.int .i64 a) ∧ w'.cell? ⟨w.heap.size, 1, none⟩ = some (.int .u64 b) ∧ w'.cell? ⟨w.heap.size + 1, 0, none⟩ = some (.int .i64 c) ∧ w'.cell? ⟨w.heap.size + 1, 1, none⟩ = some (.int .u64 d) ∧ Keeps (W.heap.size) W w') ((refine (fun K => ⟨Keeps.cell K c0 (by omega), Keeps.cell K c1 (by omega), Keeps.cell K c2 (by omega), Keeps.cell K c3 (by omega), K⟩) (?_ : Keeps (W.heap.size) W _); (repeat (first | assumption | refine Keeps.alloc ?_ _ | refine Keeps.drew ?_ | refine Keeps.setCell ?_ (by first | (simp; done) | omega | (simp; omega)) _))))
    (first
    | (go_at_call 44; (with_reducible refine (kfa _).mono ?_); rintro e v20 ⟨s0, p0, q0, l0, rfl, N0, hb20⟩; have K20 := Keeps.call (B := W.heap.size) (W := W) (by repeat (first | assumption | refine Keeps.alloc ?_ _ | refine Keeps.drew ?_ | refine Keeps.setCell ?_ (by first | (simp; done) | omega | (simp; omega)) _)) hb20; have J20 : Keeps (W.heap.size) W v20 := ⟨K20.below.mono (by omega), by omega⟩; have L0 := N0.few 9 (few_fits fa))
    | (go_at_call 44; (with_reducible refine (kfc _).mono ?_); rintro e v21 ⟨s1, p1, q1, l1, rfl, N1, hb21⟩; have K21 := Keeps.call (B := W.heap.size) (W := W) (by repeat (first | assumption | refine Keeps.alloc ?_ _ | refine Keeps.drew ?_ | refine Keeps.setCell ?_ (by first | (simp; done) | omega | (simp; omega)) _)) hb21; have J21 : Keeps (W.heap.size) W v21 := ⟨K21.below.mono (by omega), by omega⟩; have L1 := N1.few 9 (few_fits fc); have M0 := N0.later (w' := v21) (by have := hb21; first | exact this | exact (Below.drew (Below.refl _ _)).trans this))
    | (go_at_call 46; (with_reducible refine (cmpN_spec _ _ _ _ _ _ _ _ _ _ _ (M0.later (by repeat (first | exact Below.refl _ _ | assumption | refine Below.setCell ?_ (by first | (simp; done) | omega | (simp; omega)) _ | refine Below.drew ?_ | refine below_drewN ?_ _ | refine Below.alloc ?_ (by first | (simp; done) | omega | (simp; omega)) _))) (N1.later (by repeat (first | exact Below.refl _ _ | assumption | refine Below.setCell ?_ (by first | (simp; done) | omega | (simp; omega)) _ | refine Below.drew ?_ | refine below_drewN ?_ _ | refine Below.alloc ?_ (by first | (simp; done) | omega | (simp; omega)) _))) (by omega) (by omega)).mono ?_); rintro e v22 ⟨rfl, hb22⟩; have K22 := Keeps.call (B := W.heap.size) (W := W) (by repeat (first | assumption | refine Keeps.alloc ?_ _ | refine Keeps.drew ?_ | refine Keeps.setCell ?_ (by first | (simp; done) | omega | (simp; omega)) _)) hb22; have J22 : Keeps (W.heap.size) W v22 := ⟨K22.below.mono (by omega), by omega⟩; have zz : w.heap.size < v22.heap.size := (by have := K22.size; omega)))
  all_goals
    have BE : Below w.heap.size w v22 := BW.trans (K22.below.mono BW.size)
    go_wp2_with fail
    go_returns
    refine ⟨rfl, ?_⟩
    repeat (first | exact Below.refl _ _ | assumption | refine Below.setCell ?_ (by first | (simp; done) | omega | (simp; omega)) _ | refine Below.drew ?_ | refine below_drewN ?_ _ | refine Below.alloc ?_ (by first | (simp; done) | omega | (simp; omega)) _)
set_option maxRecDepth 100000 in
set_option maxHeartbeats 4000000 in
theorem rneg_spec (a b : Int) (ia : IsW (a, b)) (w : World) :
    Calls Try.prog 16 #[.agg #[.int .i64 a, .int .u64 b]] w fun e w' => e = sumRes (-(V a b)) ∧ Below w.heap.size w w' := by
  have kfa := from_spec a b ia
  have fa := isW_fits ia
  go_enter Try.func16, Try.ntmps16
  go_wp2_with fail
  refine (kfa _).mono ?_
  rintro e w1 ⟨s0, p0, q0, l0, rfl, N0, hb1⟩
  have B1 : Below w.heap.size w w1 := Below.trans (by repeat (first | exact Below.refl _ _ | assumption | refine Below.setCell ?_ (by first | (simp; done) | omega | (simp; omega)) _ | refine Below.drew ?_ | refine below_drewN ?_ _ | refine Below.alloc ?_ (by first | (simp; done) | omega | (simp; omega)) _)) (hb1.mono (by first | (simp; done) | omega | (simp; omega)))
  obtain ⟨r0, g0, zr⟩ := live (.int .i64 0) hb1 (w.heap.size + 1) 0 (by first | (simp; done) | omega | (simp; omega)) (by simp [go_sem]) (by simp [go_sem])
  obtain ⟨r1, g1, zr⟩ := live (.int .u64 0) hb1 (w.heap.size + 1) 1 (by first | (simp; done) | omega | (simp; omega)) (by simp [go_sem]) (by simp [go_sem])
  have zR := Nat.lt_of_lt_of_le (Nat.lt_succ_self w.heap.size) (show w.heap.size + 1 ≤ w1.heap.size by omega)
  have K1 := Keeps.start (Nat.le_refl w1.heap.size)
  have L0 := N0.few 9 (few_fits fa)
  go_wp2_with fail
  refine (negN_spec _ _ _ _ _ _ N0 (by omega)).mono ?_
  rintro e w2 ⟨s1, p1, q1, l1, rfl, N1, hb2⟩
  have K2 := Keeps.call (B := w1.heap.size) (W := w1) (by repeat (first | assumption | refine Keeps.alloc ?_ _ | refine Keeps.drew ?_ | refine Keeps.setCell ?_ (by first | (simp; done) | omega | (simp; omega)) _)) hb2
  have L1 := N1.few 9 (few_neg fa)
  go_wp2_with fail
  refine (over_spec _ _ _ _ _ _ N1 (by omega)).mono ?_
  rintro e w3 ⟨rfl, hb3⟩
  have K3 := Keeps.call (B := w1.heap.size) (W := w1) (by repeat (first | assumption | refine Keeps.alloc ?_ _ | refine Keeps.drew ?_ | refine Keeps.setCell ?_ (by first | (simp; done) | omega | (simp; omega)) _)) hb3
  have rr0 := K3.cell r0 zr
  have gg0 := K3.free g0 zr
  have rr1 := K3.cell r1 zr
  have gg1 := K3.free g1 zr
  have zz : w.heap.size + 1 < w3.heap.size := by have := K3.size; omega
  have BE : Below w.heap.size w w3 := B1.trans (K3.below.mono B1.size)
  clear hb1 hb2 hb3
  go_wp2_with fail
  refine bodyPost_ret (by simp [results, Try.results16, go_sem, rr0, gg0, rr1, gg1, zz]; try rfl) rfl ?_
  refine ⟨rfl, ?_⟩
  repeat (first | exact Below.refl _ _ | assumption | refine Below.setCell ?_ (by first | (simp; done) | omega | (simp; omega)) _ | refine Below.drew ?_ | refine below_drewN ?_ _ | refine Below.alloc ?_ (by first | (simp; done) | omega | (simp; omega)) _)
set_option maxRecDepth 100000 in
set_option maxHeartbeats 4000000 in
theorem rabs_spec (a b : Int) (ia : IsW (a, b)) (w : World) :
    Calls Try.prog 18 #[.agg #[.int .i64 a, .int .u64 b]] w fun e w' => e = sumRes (Lb.ab (V a b)) ∧ Below w.heap.size w w' := by
  have kfa := from_spec a b ia
  have fa := isW_fits ia
  have fld : ∀ (x y : Value) (w : World), (Instr.field 57 (.agg #[x, y]) 1).run Try.prog w = .ok y w := fun _ _ _ => by kernel_rfl
  go_enter Try.func18, Try.ntmps18
  go_wp2_with fail
  refine (kfa _).mono ?_
  rintro e w1 ⟨s0, p0, q0, l0, rfl, N0, hb1⟩
  have B1 : Below w.heap.size w w1 := Below.trans (by repeat (first | exact Below.refl _ _ | assumption | refine Below.setCell ?_ (by first | (simp; done) | omega | (simp; omega)) _ | refine Below.drew ?_ | refine below_drewN ?_ _ | refine Below.alloc ?_ (by first | (simp; done) | omega | (simp; omega)) _)) (hb1.mono (by first | (simp; done) | omega | (simp; omega)))
  obtain ⟨r0, g0, zr⟩ := live (.int .i64 0) hb1 (w.heap.size + 1) 0 (by first | (simp; done) | omega | (simp; omega)) (by simp [go_sem]) (by simp [go_sem])
  obtain ⟨r1, g1, zr⟩ := live (.int .u64 0) hb1 (w.heap.size + 1) 1 (by first | (simp; done) | omega | (simp; omega)) (by simp [go_sem]) (by simp [go_sem])
  have zR := Nat.lt_of_lt_of_le (Nat.lt_succ_self w.heap.size) (show w.heap.size + 1 ≤ w1.heap.size by omega)
  have K1 := Keeps.start (Nat.le_refl w1.heap.size)
  have L0 := N0.few 9 (few_fits fa)
  go_wp2_with fail
  refine (make2_spec false _ _ _ _ N0.lim N0.mag.ok (by omega)).mono ?_
  rintro e w2 ⟨s1, p1, q1, l1, rfl, N1, hb2⟩
  have K2 := Keeps.call (B := w1.heap.size) (W := w1) (by repeat (first | assumption | refine Keeps.alloc ?_ _ | refine Keeps.drew ?_ | refine Keeps.setCell ?_ (by first | (simp; done) | omega | (simp; omega)) _)) hb2
  rw [N0.mag.val] at N1
  have L1 := N1.few 9 (few_abs fa)
  go_wp2_with fail
  refine (over_spec _ _ _ _ _ _ N1 (by omega)).mono ?_
  rintro e w3 ⟨rfl, hb3⟩
  have K3 := Keeps.call (B := w1.heap.size) (W := w1) (by repeat (first | assumption | refine Keeps.alloc ?_ _ | refine Keeps.drew ?_ | refine Keeps.setCell ?_ (by first | (simp; done) | omega | (simp; omega)) _)) hb3
  have rr0 := K3.cell r0 zr
  have gg0 := K3.free g0 zr
  have rr1 := K3.cell r1 zr
  have gg1 := K3.free g1 zr
  have zz : w.heap.size + 1 < w3.heap.size := by have := K3.size; omega
  have BE : Below w.heap.size w w3 := B1.trans (K3.below.mono B1.size)
  clear hb1 hb2 hb3
  go_wp2_with fail
  refine bodyPost_ret (by simp [results, Try.results18, go_sem, rr0, gg0, rr1, gg1, zz]; try rfl) rfl ?_
  refine ⟨rfl, ?_⟩
  repeat (first | exact Below.refl _ _ | assumption | refine Below.setCell ?_ (by first | (simp; done) | omega | (simp; omega)) _ | refine Below.drew ?_ | refine below_drewN ?_ _ | refine Below.alloc ?_ (by first | (simp; done) | omega | (simp; omega)) _)
theorem isNum_zero (w : World) : IsNum w false none 0 [] 0 := ⟨rfl, Limbs.nil w, ⟨ok_nil, .inl rfl, rfl⟩⟩
set_option maxRecDepth 100000 in
set_option maxHeartbeats 4000000 in
theorem rsign_spec (a b : Int) (ia : IsW (a, b)) (w : World) :
    Calls Try.prog 24 #[.agg #[.int .i64 a, .int .u64 b]] w fun e w' => e = .returned (.int .i64 (cmpI (V a b) 0)) ∧ Below w.heap.size w w' := by
  have kfa := from_spec a b ia
  have fa := isW_fits ia
  go_enter Try.func24, Try.ntmps24
  go_wp2_with fail
  refine (kfa _).mono ?_
  rintro e w1 ⟨s0, p0, q0, l0, rfl, N0, hb1⟩
  have B1 : Below w.heap.size w w1 := Below.trans (by repeat (first | exact Below.refl _ _ | assumption | refine Below.setCell ?_ (by first | (simp; done) | omega | (simp; omega)) _ | refine Below.drew ?_ | refine below_drewN ?_ _ | refine Below.alloc ?_ (by first | (simp; done) | omega | (simp; omega)) _)) (hb1.mono (by first | (simp; done) | omega | (simp; omega)))
  have zr : w.heap.size ≤ w1.heap.size := B1.size
  skip
  have K1 := Keeps.start (Nat.le_refl w1.heap.size)
  have L0 := N0.few 9 (few_fits fa)
  go_wp2_with fail
  refine (cmpN_spec _ _ _ _ _ _ _ _ _ _ _ N0 (isNum_zero _) (by omega) (by simp)).mono ?_
  rintro e w2 ⟨rfl, hb2⟩
  have K2 := Keeps.call (B := w1.heap.size) (W := w1) (by repeat (first | assumption | refine Keeps.alloc ?_ _ | refine Keeps.drew ?_ | refine Keeps.setCell ?_ (by first | (simp; done) | omega | (simp; omega)) _)) hb2
  have BE : Below w.heap.size w w2 := B1.trans (K2.below.mono B1.size)
  clear hb1 hb2
  go_wp2_with fail
  go_returns
  refine ⟨rfl, ?_⟩
  repeat (first | exact Below.refl _ _ | assumption | refine Below.setCell ?_ (by first | (simp; done) | omega | (simp; omega)) _ | refine Below.drew ?_ | refine below_drewN ?_ _ | refine Below.alloc ?_ (by first | (simp; done) | omega | (simp; omega)) _)
end Go.Proofs.Ythcgkpmlfbjagaa
