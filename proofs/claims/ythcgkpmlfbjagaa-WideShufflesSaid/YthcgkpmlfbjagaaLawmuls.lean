/- The reference of layer 1: its faces: MulN, Mul. -/
import Derived.Test.YthcgkpmlfbjagaaLmul
import Derived.Test.YthcgkpmlfbjagaaLwrap
import Derived.Test.YthcgkpmlfbjagaaWalive
import Derived.Test.YthcgkpmlfbjagaaWmul
namespace Go.Proofs.Ythcgkpmlfbjagaa
set_option linter.unusedVariables false
open Go.RowKit W Lb
set_option maxHeartbeats 4000000 in
theorem mulN_walk (s s' : Bool) (pa pb : Option Addr) (ca cb : Nat) (la lb : List Int) (z m : Int) (w : World)
    (KA0 : ∀ w', Keeps w.heap.size w w' → Calls Try.prog 70 #[.slice pa la.length ca, .slice pb lb.length cb] w' (MagPost w' m))
    (KM : ∀ (sg : Bool), sg = (s != s') → ∀ pv cv lv w', Limbs w' (.slice pv lv.length cv) lv → Mag lv m → Calls Try.prog 45 #[.bool sg, .slice pv lv.length cv] w' (NumPost w' z)) :
    Calls Try.prog 51 #[.agg #[.bool s, .slice pa la.length ca], .agg #[.bool s', .slice pb lb.length cb]] w (NumPost w z) := by
  have KA1 := hide KA0
  clear KA0
  go_enter Try.func51, Try.ntmps51
  go_wp2_with fail
  refine abs_wp (fun W => W.cell? ⟨w.heap.size, 0, none⟩ = some (.bool s) ∧ W.cell? ⟨w.heap.size, 1, none⟩ = some (.slice pa la.length ca) ∧ W.cell? ⟨w.heap.size + 1, 0, none⟩ = some (.bool s') ∧ W.cell? ⟨w.heap.size + 1, 1, none⟩ = some (.slice pb lb.length cb) ∧ W.cell? ⟨w.heap.size + 1 + 1, 0, none⟩ = some (.bool false) ∧ W.cell? ⟨w.heap.size + 1 + 1, 1, none⟩ = some (.slice none 0 0) ∧ W.frozen? ⟨w.heap.size + 1 + 1, 0, none⟩ = false ∧ W.frozen? ⟨w.heap.size + 1 + 1, 1, none⟩ = false ∧ W.shape? (w.heap.size + 1 + 1) = some (57, 2) ∧ w.heap.size + 1 + 1 < W.heap.size ∧ Below w.heap.size w W) ?_ ?_
  · refine ⟨?_, ?_, ?_, ?_, ?_, ?_, ?_, ?_, ?_, ?_, ?_⟩
    all_goals first | (exact shape_top _ _ _ _ (by simp)) | (go_grown; done) | (simp [go_sem]; done) | (simp; done) | (simp; omega)
  rintro W ⟨c00, c01, c10, c11, r0, r1, g0, g1, hr, zW, BW⟩
  have KA : ∀ w', Keeps W.heap.size W w' → Calls Try.prog 70 #[.slice pa la.length ca, .slice pb lb.length cb] w' (MagPost w' m) := fun w' K => KA1.out w' ⟨BW.trans (K.below.mono BW.size), Nat.le_refl _⟩
  have K0 := Keeps.start (Nat.le_refl W.heap.size)
  have K1 := K0.drew
  have J0 : Keeps (w.heap.size + 1 + 1) W W := Keeps.start (by omega)
  have J1 := J0.drew
  have z0 : w.heap.size < W.heap.size := by omega
  have z1 : w.heap.size + 1 < W.heap.size := by omega
  have z2 : w.heap.size + 1 + 1 < W.heap.size := by omega
  go_region_held3 (fun w' => w'.cell? ⟨w.heap.size, 0, none⟩ = some (.bool s) ∧ w'.cell? ⟨w.heap.size, 1, none⟩ = some (.slice pa la.length ca) ∧ w'.cell? ⟨w.heap.size + 1, 0, none⟩ = some (.bool s') ∧ w'.cell? ⟨w.heap.size + 1, 1, none⟩ = some (.slice pb lb.length cb) ∧ Keeps (w.heap.size + 1 + 1) W w') ((refine (fun K => ⟨Keeps.cell K c00 (by omega), Keeps.cell K c01 (by omega), Keeps.cell K c10 (by omega), Keeps.cell K c11 (by omega), K⟩) (?_ : Keeps (w.heap.size + 1 + 1) W _); (repeat (first | assumption | refine Keeps.alloc ?_ _ | refine Keeps.drew ?_ | refine Keeps.setCell ?_ (by first | (simp; done) | omega | (simp; omega)) _))))
    (first
    | (go_at_call 70; refine (KA _ (by repeat (first | assumption | refine Keeps.alloc ?_ _ | refine Keeps.drew ?_ | refine Keeps.setCell ?_ (by first | (simp; done) | omega | (simp; omega)) _))).mono ?_; rintro e v20 ⟨va, lv, rfl, LV, MV, hb20, fr20⟩; obtain ⟨pv, cv, rfl⟩ := LV.form; have K20 := Keeps.call (B := W.heap.size) (W := W) (by repeat (first | assumption | refine Keeps.alloc ?_ _ | refine Keeps.drew ?_ | refine Keeps.setCell ?_ (by first | (simp; done) | omega | (simp; omega)) _)) hb20; obtain ⟨bc20, bf20, bs20⟩ := bcell hb20; (try simp only [World.size_alloc, World.size_drew] at bc20 bf20 bs20); have J20 : Keeps (w.heap.size + 1 + 1) W v20 := ⟨K20.below.mono (by omega), by omega⟩; (try (have ov200 : W.heap.size < v20.heap.size := by omega)); (try (have ov201 : W.heap.size ≤ v20.heap.size := by omega)); (try (have ov202 : ¬ W.heap.size = v20.heap.size := by omega)); (try (have ov203 : ¬ v20.heap.size = W.heap.size := by omega)); (try (have ov204 : W.heap.size + 1 < v20.heap.size := by omega)); (try (have ov205 : W.heap.size + 1 ≤ v20.heap.size := by omega)); (try (have ov206 : ¬ W.heap.size + 1 = v20.heap.size := by omega)); (try (have ov207 : ¬ v20.heap.size = W.heap.size + 1 := by omega)))
    | (go_at_call 45; refine (KM _ (by cases s <;> cases s' <;> rfl) _ _ _ _ (by first | exact LV | exact LV.later (by go_grown)) MV).mono ?_; rintro e v21 ⟨s2, p2, c2, l2, rfl, N2, hb21⟩; have K21 := Keeps.call (B := W.heap.size) (W := W) (by repeat (first | assumption | refine Keeps.alloc ?_ _ | refine Keeps.drew ?_ | refine Keeps.setCell ?_ (by first | (simp; done) | omega | (simp; omega)) _)) hb21; have J21 : Keeps (w.heap.size + 1 + 1) W v21 := ⟨K21.below.mono (by omega), by omega⟩; have rr0 := K21.cell r0 z2; have rr1 := K21.cell r1 z2; have gg0 := K21.free g0 z2; have gg1 := K21.free g1 z2; have zz : w.heap.size + 1 + 1 < v21.heap.size := (by have := K21.size; omega); clear bc20 bf20 bs20))
  all_goals
    have F := hide (num_end N2 (BW.trans (K21.below.mono BW.size)) ((shape_later K21.below z2).trans hr) (by omega))
    clear K20 K21 N2 KA KM
    go_wp2_with fail
    refine bodyPost_ret (by simp [results, Try.results51, go_sem, rr0, rr1, gg0, gg1, zz]; try rfl) rfl ?_
    exact F.out _ _
theorem mkZ_mul (x y : Int) : mkZ (decide (x < 0) != decide (y < 0)) (Lb.ab x * Lb.ab y) = x * y := by
  unfold mkZ Lb.ab
  by_cases a : x < 0 <;> by_cases b : y < 0 <;> simp [a, b, Int.neg_mul, Int.mul_neg]
theorem prod_lt {x y : Int} {m n : Nat} (a : 0 ≤ x) (b : 0 ≤ y) (c : x < pw m) (d : y < pw n) : x * y < pw (m + n + 1) := by
  have e : pw (m + n + 1) = 65536 * (pw m * pw n) := by rw [← pw_add]; rfl
  have p := Int.mul_pos (pw_pos m) (pw_pos n)
  have q : x * y ≤ pw m * pw n := Int.mul_le_mul (by omega) (by omega) b (by omega)
  omega
theorem mulN_spec (s s' : Bool) (pa pb : Option Addr) (ca cb : Nat) (la lb : List Int) (x y : Int) (w : World) (Ha : IsNum w s pa ca la x) (Hb : IsNum w s' pb cb lb y) (na : la.length ≤ 40) (nb : lb.length ≤ 40) :
    Calls Try.prog 51 #[.agg #[.bool s, .slice pa la.length ca], .agg #[.bool s', .slice pb lb.length cb]] w (NumPost w (x * y)) := by
  have va := Ha.mag.val
  have vb := Hb.mag.val
  refine mulN_walk s s' pa pb ca cb la lb (x * y) (val la * val lb) w (fun w' K => mulL_spec _ _ _ _ la lb w' (Ha.lim.later K.below) (Hb.lim.later K.below) Ha.mag.ok Hb.mag.ok (by omega) (by omega)) ?_
  intro sg hs pv cv lv w' h1 h2
  have lt : lv.length ≤ 1000 := by
    have := h2.len (prod_lt (val_nonneg Ha.mag.ok) (val_nonneg Hb.mag.ok) (val_lt' Ha.mag.ok na) (val_lt' Hb.mag.ok nb))
    omega
  have := make2_spec sg pv cv lv w' h1 h2.ok lt
  have key : mkZ sg (val lv) = x * y := by rw [h2.val, hs, Ha.neg, Hb.neg, va, vb, mkZ_mul]
  rwa [key] at this
theorem few_mul {x y : Int} (f : Fits x) (g : Fits y) : Lb.ab (x * y) < pw 17 := by
  have e : pw 17 = 7588550360256754183279148073529370729071901715047420004889892225542594864082845696 := by decide
  have a := ab_le f
  have b := ab_le g
  have h : Lb.ab (x * y) = W.ab x * W.ab y := by
    show W.ab (x * y) = _
    unfold W.ab
    by_cases a : x < 0 <;> by_cases b : y < 0 <;> simp only [a, b, if_true, if_false]
    · have : 0 < -x * -y := Int.mul_pos (by omega) (by omega); rw [Int.neg_mul_neg] at this ⊢; rw [if_neg (by omega)]
    · by_cases z : y = 0
      · subst z; simp
      · have : 0 < -x * y := Int.mul_pos (by omega) (by omega); rw [Int.neg_mul] at this ⊢; rw [if_pos (by omega)]
    · by_cases z : x = 0
      · subst z; simp
      · have : 0 < x * -y := Int.mul_pos (by omega) (by omega); rw [Int.mul_neg] at this ⊢; rw [if_pos (by omega)]
    · have : 0 ≤ x * y := Int.mul_nonneg (by omega) (by omega); rw [if_neg (by omega)]
  rw [h]
  have m : W.ab x * W.ab y ≤ 170141183460469231731687303715884105728 * 170141183460469231731687303715884105728 := Int.mul_le_mul a.2 b.2 b.1 (by omega)
  omega
set_option maxRecDepth 100000 in
set_option maxHeartbeats 4000000 in
theorem rmul_spec (a b c d : Int) (ia : IsW (a, b)) (ic : IsW (c, d)) (w : World) :
    Calls Try.prog 31 #[.agg #[.int .i64 a, .int .u64 b], .agg #[.int .i64 c, .int .u64 d]] w fun e w' => e = sumRes (V a b * V c d) ∧ Below w.heap.size w w' := by
  have kfa := from_spec a b ia
  have kfc := from_spec c d ic
  have fa := isW_fits ia
  have fc := isW_fits ic
  go_enter Try.func31, Try.ntmps31
  go_wp2_with fail
  refine abs_wp (fun W => W.cell? ⟨w.heap.size, 0, none⟩ = some (.int .i64 a) ∧ W.cell? ⟨w.heap.size, 1, none⟩ = some (.int .u64 b) ∧ W.cell? ⟨w.heap.size + 1, 0, none⟩ = some (.int .i64 c) ∧ W.cell? ⟨w.heap.size + 1, 1, none⟩ = some (.int .u64 d) ∧ W.cell? ⟨w.heap.size + 1 + 1, 0, none⟩ = some (.int .i64 0) ∧ W.cell? ⟨w.heap.size + 1 + 1, 1, none⟩ = some (.int .u64 0) ∧ W.frozen? ⟨w.heap.size + 1 + 1, 0, none⟩ = false ∧ W.frozen? ⟨w.heap.size + 1 + 1, 1, none⟩ = false ∧ w.heap.size + 1 + 1 < W.heap.size ∧ Below w.heap.size w W) ?_ ?_
  · refine ⟨?_, ?_, ?_, ?_, ?_, ?_, ?_, ?_, ?_, ?_⟩
    all_goals first | assumption | (go_grown; done) | (simp [go_sem]; done) | (simp; done) | (simp; omega)
  rintro W ⟨c0, c1, c2, c3, r0, r1, g0, g1, zW, BW⟩
  have K0 := Keeps.start (Nat.le_refl W.heap.size)
  have K1 := K0.drew
  have J0 : Keeps (w.heap.size + 1 + 1) W W := Keeps.start (by omega)
  have J1 := J0.drew
  go_region_held3 (fun w' => w'.cell? ⟨w.heap.size, 0, none⟩ = some (.int .i64 a) ∧ w'.cell? ⟨w.heap.size, 1, none⟩ = some (.int .u64 b) ∧ w'.cell? ⟨w.heap.size + 1, 0, none⟩ = some (.int .i64 c) ∧ w'.cell? ⟨w.heap.size + 1, 1, none⟩ = some (.int .u64 d) ∧ Keeps (w.heap.size + 1 + 1) W w') ((refine (fun K => ⟨Keeps.cell K c0 (by omega), Keeps.cell K c1 (by omega), Keeps.cell K c2 (by omega), Keeps.cell K c3 (by omega), K⟩) (?_ : Keeps (w.heap.size + 1 + 1) W _); (repeat (first | assumption | refine Keeps.alloc ?_ _ | refine Keeps.drew ?_ | refine Keeps.setCell ?_ (by first | (simp; done) | omega | (simp; omega)) _))))
    (first
    | (go_at_call 44; (with_reducible refine (kfa _).mono ?_); rintro e v20 ⟨s0, p0, q0, l0, rfl, N0, hb20⟩; have K20 := Keeps.call (B := W.heap.size) (W := W) (by repeat (first | assumption | refine Keeps.alloc ?_ _ | refine Keeps.drew ?_ | refine Keeps.setCell ?_ (by first | (simp; done) | omega | (simp; omega)) _)) hb20; have J20 : Keeps (w.heap.size + 1 + 1) W v20 := ⟨K20.below.mono (by omega), by omega⟩; have L0 := N0.few 9 (few_fits fa))
    | (go_at_call 44; (with_reducible refine (kfc _).mono ?_); rintro e v21 ⟨s1, p1, q1, l1, rfl, N1, hb21⟩; have K21 := Keeps.call (B := W.heap.size) (W := W) (by repeat (first | assumption | refine Keeps.alloc ?_ _ | refine Keeps.drew ?_ | refine Keeps.setCell ?_ (by first | (simp; done) | omega | (simp; omega)) _)) hb21; have J21 : Keeps (w.heap.size + 1 + 1) W v21 := ⟨K21.below.mono (by omega), by omega⟩; have L1 := N1.few 9 (few_fits fc); have M0 := N0.later (w' := v21) (by have := hb21; first | exact this | exact (Below.drew (Below.refl _ _)).trans this))
    | (go_at_call 51; (with_reducible refine (mulN_spec _ _ _ _ _ _ _ _ _ _ _ (M0.later (by repeat (first | exact Below.refl _ _ | assumption | refine Below.setCell ?_ (by first | (simp; done) | omega | (simp; omega)) _ | refine Below.drew ?_ | refine below_drewN ?_ _ | refine Below.alloc ?_ (by first | (simp; done) | omega | (simp; omega)) _))) (N1.later (by repeat (first | exact Below.refl _ _ | assumption | refine Below.setCell ?_ (by first | (simp; done) | omega | (simp; omega)) _ | refine Below.drew ?_ | refine below_drewN ?_ _ | refine Below.alloc ?_ (by first | (simp; done) | omega | (simp; omega)) _))) (by omega) (by omega)).mono ?_); rintro e v22 ⟨s2, p2, q2, l2, rfl, N2, hb22⟩; have K22 := Keeps.call (B := W.heap.size) (W := W) (by repeat (first | assumption | refine Keeps.alloc ?_ _ | refine Keeps.drew ?_ | refine Keeps.setCell ?_ (by first | (simp; done) | omega | (simp; omega)) _)) hb22; have J22 : Keeps (w.heap.size + 1 + 1) W v22 := ⟨K22.below.mono (by omega), by omega⟩; have L2 := N2.few 17 (few_mul fa fc))
    | (go_at_call 42; (with_reducible refine (over_spec _ _ _ _ _ _ (N2.later (by repeat (first | exact Below.refl _ _ | assumption | refine Below.setCell ?_ (by first | (simp; done) | omega | (simp; omega)) _ | refine Below.drew ?_ | refine below_drewN ?_ _ | refine Below.alloc ?_ (by first | (simp; done) | omega | (simp; omega)) _))) (by omega)).mono ?_); rintro e v23 ⟨rfl, hb23⟩; have K23 := Keeps.call (B := W.heap.size) (W := W) (by repeat (first | assumption | refine Keeps.alloc ?_ _ | refine Keeps.drew ?_ | refine Keeps.setCell ?_ (by first | (simp; done) | omega | (simp; omega)) _)) hb23; have J23 : Keeps (w.heap.size + 1 + 1) W v23 := ⟨K23.below.mono (by omega), by omega⟩; have rr0 := K23.cell r0 (by omega); have gg0 := K23.free g0 (by omega); have rr1 := K23.cell r1 (by omega); have gg1 := K23.free g1 (by omega); have zz : w.heap.size + 1 + 1 < v23.heap.size := (by have := K23.size; omega)))
  all_goals
    have BE : Below w.heap.size w v23 := BW.trans (K23.below.mono BW.size)
    go_wp2_with fail
    refine bodyPost_ret (by simp [results, Try.results31, go_sem, rr0, gg0, rr1, gg1, zz]; try rfl) rfl ?_
    refine ⟨rfl, ?_⟩
    repeat (first | exact Below.refl _ _ | assumption | refine Below.setCell ?_ (by first | (simp; done) | omega | (simp; omega)) _ | refine Below.drew ?_ | refine below_drewN ?_ _ | refine Below.alloc ?_ (by first | (simp; done) | omega | (simp; omega)) _)
set_option maxHeartbeats 4000000 in
theorem muls_walk (a b c d x1 x0 er : Int)
    (k0 : ∀ w, Calls Try.prog 25 #[] w fun e w' => e = .returned (.bool true) ∧ Below w.heap.size w w')
    (k1 : ∀ w, Calls Try.prog 30 #[.agg #[.int .i64 a, .int .u64 b], .agg #[.int .i64 c, .int .u64 d]] w fun e w' => e = .returned (.tuple #[.agg #[.int .i64 x1, .int .u64 x0], .int .i64 er]) ∧ Below w.heap.size w w')
    (k2 : ∀ w, Calls Try.prog 31 #[.agg #[.int .i64 a, .int .u64 b], .agg #[.int .i64 c, .int .u64 d]] w fun e w' => e = .returned (.tuple #[.agg #[.int .i64 x1, .int .u64 x0], .int .i64 er]) ∧ Below w.heap.size w w')
    (w : World) : Calls Try.prog 5 #[.agg #[.int .i64 a, .int .u64 b], .agg #[.int .i64 c, .int .u64 d]] w fun e w' => e = .returned (.bool true) ∧ Below w.heap.size w w' := by
  go_enter Try.func5, Try.ntmps5
  go_wp2_with fail
  refine (k1 _).mono ?_
  rintro e w1 ⟨rfl, h1⟩
  have B1 : Below w.heap.size w w1 := Below.trans (by go_grown) (h1.mono (by first | (simp; done) | omega | (simp; omega)))
  have y1 := B1.size
  have A0 := box2 h1 (w.heap.size) (.int .i64 a) (.int .u64 b) (by first | assumption | (simp [go_sem]; done) | (simp [go_sem]; done)) (by first | assumption | (simp [go_sem]; done) | (simp [go_sem]; done)) (by first | assumption | (simp [go_sem]; done) | (simp [go_sem]; done)) (by first | assumption | (simp [go_sem]; done) | (simp [go_sem]; done)) (by first | assumption | omega | (simp; done) | (simp; omega))
  have A1 := box2 h1 (w.heap.size + 1) (.int .i64 c) (.int .u64 d) (by first | assumption | (simp [go_sem]; done) | (simp [go_sem]; done)) (by first | assumption | (simp [go_sem]; done) | (simp [go_sem]; done)) (by first | assumption | (simp [go_sem]; done) | (simp [go_sem]; done)) (by first | assumption | (simp [go_sem]; done) | (simp [go_sem]; done)) (by first | assumption | omega | (simp; done) | (simp; omega))
  obtain ⟨A0c0, A0c1, A0f0, A0f1, A0z⟩ := A0
  obtain ⟨A1c0, A1c1, A1f0, A1f1, A1z⟩ := A1
  clear h1 k1
  go_wp2_with fail
  refine (k2 _).mono ?_
  rintro e w2 ⟨rfl, h2⟩
  have B2 : Below w.heap.size w w2 := Below.trans (by go_grown) (h2.mono (by first | (simp; done) | omega | (simp; omega)))
  have y2 := B2.size
  have B0 := box2 h2 (w1.heap.size) (.int .i64 x1) (.int .u64 x0) (by first | assumption | (simp [go_sem]; done) | (simp [go_sem, A0c0, A0c1, A0f0, A0f1, A0z, A1c0, A1c1, A1f0, A1f1, A1z]; done)) (by first | assumption | (simp [go_sem]; done) | (simp [go_sem, A0c0, A0c1, A0f0, A0f1, A0z, A1c0, A1c1, A1f0, A1f1, A1z]; done)) (by first | assumption | (simp [go_sem]; done) | (simp [go_sem, A0c0, A0c1, A0f0, A0f1, A0z, A1c0, A1c1, A1f0, A1f1, A1z]; done)) (by first | assumption | (simp [go_sem]; done) | (simp [go_sem, A0c0, A0c1, A0f0, A0f1, A0z, A1c0, A1c1, A1f0, A1f1, A1z]; done)) (by first | assumption | omega | (simp; done) | (simp; omega))
  clear A0c0 A0c1 A0f0 A0f1 A0z A1c0 A1c1 A1f0 A1f1 A1z
  obtain ⟨B0c0, B0c1, B0f0, B0f1, B0z⟩ := B0
  clear h2 k2 B1
  go_wp2_with fail
  refine (k0 _).mono ?_
  rintro e w3 ⟨rfl, h3⟩
  have B3 : Below w.heap.size w w3 := Below.trans (by go_grown) (h3.mono (by first | (simp; done) | omega | (simp; omega)))
  have y3 := B3.size
  clear B0c0 B0c1 B0f0 B0f1 B0z
  clear h3 k0 B2
  go_wp2_with fail
  go_returns
  exact ⟨rfl, by go_grown⟩
theorem law_WideMuls (a0 b0 a1 b1 : Int) (wa0 : (Lit.int .i64 a0).wf = true) (wb0 : (Lit.int .u64 b0).wf = true) (wa1 : (Lit.int .i64 a1).wf = true) (wb1 : (Lit.int .u64 b1).wf = true) (w : World) :
    Calls Try.prog 5 #[.agg #[.int .i64 a0, .int .u64 b0], .agg #[.int .i64 a1, .int .u64 b1]] w fun e w' => e = .returned (.bool true) ∧ Below w.heap.size w w' := by
  have i : IsW (a0, b0) := ⟨hi_of_wf wa0, lo_of_wf wb0⟩
  have j : IsW (a1, b1) := ⟨hi_of_wf wa1, lo_of_wf wb1⟩
  exact muls_walk a0 b0 a1 b1 _ _ _ alive_ok (mul_spec a0 b0 a1 b1 i j) (rmul_spec a0 b0 a1 b1 i j) w
end Go.Proofs.Ythcgkpmlfbjagaa
