/- Texts that belong together: Trank Tref2 Tlaw1. -/
import Derived.Test.YtebiddmadmmfpaaG02
import Derived.Deep.DeepCutAuto
import Derived.Test.YtebiddmadmmfpaaG03
set_option linter.unusedSimpArgs false
set_option linter.unusedVariables false
/- timer: rank; Rank. (gen_tm2.py) -/
namespace Go.Proofs.Ytebiddmadmmfpaa
set_option linter.unusedVariables false
set_option linter.unusedSimpArgs false
open Go.RowKit W T9
set_option maxRecDepth 100000 in
set_option maxHeartbeats 8000000 in
theorem rank_walk (n p n1 n0 p1 p0 s1 s0 d1 d0 q1 q0 r1 r0 er er2 v g res : Int) (b : Bool) (v0 : 0 ≤ v) (v2 : v ≤ 9223372036854775807) (v1 : Hid (0 < g → v < 9223372036854775807)) (hy : Hid (0 < g → res = v + 1)) (hn : Hid (¬ 0 < g → res = v))
    (k1 : ∀ w, Calls Try.prog 24 #[.int .i64 n] w fun e w' => e = .returned (.agg #[.int .i64 n1, .int .u64 n0]) ∧ Below w.heap.size w w')
    (k2 : ∀ w, Calls Try.prog 24 #[.int .i64 p] w fun e w' => e = .returned (.agg #[.int .i64 p1, .int .u64 p0]) ∧ Below w.heap.size w w')
    (k3 : ∀ w, Calls Try.prog 27 #[.agg #[.int .i64 n1, .int .u64 n0], .agg #[.int .i64 p1, .int .u64 p0]] w fun e w' => e = .returned (.tuple #[.agg #[.int .i64 s1, .int .u64 s0], .int .i64 er2]) ∧ Below w.heap.size w w')
    (kf : ∀ w, Calls Try.prog 24 #[.int .i64 100000000] w fun e w' => e = .returned (.agg #[.int .i64 d1, .int .u64 d0]) ∧ Below w.heap.size w w')
    (kq : ∀ w, Calls Try.prog 26 #[.agg #[.int .i64 s1, .int .u64 s0], .agg #[.int .i64 d1, .int .u64 d0]] w fun e w' => e = .returned (.tuple #[.agg #[.int .i64 q1, .int .u64 q0], .agg #[.int .i64 r1, .int .u64 r0], .int .i64 er]) ∧ Below w.heap.size w w')
    (km : ∀ w, Calls Try.prog 55 #[.agg #[.int .i64 q1, .int .u64 q0]] w fun e w' => e = .returned (.tuple #[.int .i64 v, .bool b]) ∧ Below w.heap.size w w')
    (kg : ∀ w, Calls Try.prog 49 #[.agg #[.int .i64 r1, .int .u64 r0]] w fun e w' => e = .returned (.int .i64 g) ∧ Below w.heap.size w w')
    (w : World) : Calls Try.prog 29 #[.int .i64 n, .int .i64 p] w fun e w' => e = .returned (.int .i64 res) ∧ Below w.heap.size w w' := by
  go_enter Try.func29, Try.ntmps29
  go_wp2_with fail
  refine (k1 _).mono ?_
  rintro e w1 ⟨rfl, h1⟩
  clear k1
  go_wp2_with fail
  refine (k2 _).mono ?_
  rintro e w2 ⟨rfl, h2⟩
  clear k2
  go_wp2_with fail
  refine (k3 _).mono ?_
  rintro e w3 ⟨rfl, h3⟩
  clear k3
  have b3 : Below w.heap.size w w3 := (h1.trans (h2.mono h1.size)).trans (h3.mono (Nat.le_trans h1.size h2.size))
  have y3 := b3.size
  clear h1 h2 h3
  go_wp2_with fail
  refine abs_wp (fun W => W.cell? ⟨w3.heap.size, 0, none⟩ = some (.int .i64 s1) ∧ W.cell? ⟨w3.heap.size, 1, none⟩ = some (.int .u64 s0) ∧ w3.heap.size < W.heap.size ∧ Below w.heap.size w W) ?_ ?_
  · refine ⟨?_, ?_, ?_, ?_⟩
    all_goals first | assumption | (go_grown; done) | (simp [go_sem]; done) | (simp; done) | omega | (simp; omega)
  rintro W ⟨c0, c1, zW, BW⟩
  go_cut [7, 8] (fun q7 q8 W' => ∃ X Y : Nat, q7 = .pointer (some ⟨X, 0, none⟩) ∧ q8 = .pointer (some ⟨Y, 0, none⟩) ∧ Box2 W'  X (.int .i64 q1) (.int .u64 q0) ∧ Box2 W'  Y (.int .i64 r1) (.int .u64 r0) ∧ Keeps W.heap.size W W')
  case first =>
    have K0 := Keeps.start (Nat.le_refl W.heap.size)
    have K1 := K0.drew
    go_region_held3 (fun w' => w'.cell? ⟨w3.heap.size, 0, none⟩ = some (.int .i64 s1) ∧ w'.cell? ⟨w3.heap.size, 1, none⟩ = some (.int .u64 s0) ∧ Keeps W.heap.size W w') ((refine (fun K => ⟨Keeps.cell K c0 (by omega), Keeps.cell K c1 (by omega), K⟩) (?_ : Keeps W.heap.size W _); ((repeat (first | with_reducible assumption | with_reducible refine Keeps.alloc ?_ _ | with_reducible refine Keeps.drew ?_ | with_reducible refine Keeps.setCell ?_ ?_ _)); (all_goals (first | (simp; done) | omega | (simp; omega))))))
      (first
      | (go_at_call 24; refine (kf _).mono ?_; rintro e v20 ⟨rfl, hb20⟩; have K20 := Keeps.call (B := W.heap.size) (W := W) (by (repeat (first | with_reducible assumption | with_reducible refine Keeps.alloc ?_ _ | with_reducible refine Keeps.drew ?_ | with_reducible refine Keeps.setCell ?_ ?_ _)); (all_goals (first | (simp; done) | omega | (simp; omega)))) hb20; obtain ⟨bc20, bf20, bs20⟩ := bcell hb20; (try simp only [World.size_alloc, World.size_drew] at bc20 bf20 bs20); (try (have ov200 : W.heap.size < v20.heap.size := by omega)); (try (have ov201 : W.heap.size ≤ v20.heap.size := by omega)); (try (have ov202 : ¬ W.heap.size = v20.heap.size := by omega)); (try (have ov203 : ¬ v20.heap.size = W.heap.size := by omega)); (try (have ov204 : W.heap.size + 1 < v20.heap.size := by omega)); (try (have ov205 : W.heap.size + 1 ≤ v20.heap.size := by omega)); (try (have ov206 : ¬ W.heap.size + 1 = v20.heap.size := by omega)); (try (have ov207 : ¬ v20.heap.size = W.heap.size + 1 := by omega)))
      | (go_at_call 26; refine (kq _).mono ?_; rintro e v21 ⟨rfl, hb21⟩; have K21 := Keeps.call (B := W.heap.size) (W := W) (by (repeat (first | with_reducible assumption | with_reducible refine Keeps.alloc ?_ _ | with_reducible refine Keeps.drew ?_ | with_reducible refine Keeps.setCell ?_ ?_ _)); (all_goals (first | (simp; done) | omega | (simp; omega)))) hb21; obtain ⟨bc21, bf21, bs21⟩ := bcell hb21; (try simp only [World.size_alloc, World.size_drew] at bc21 bf21 bs21); (try (have ov210 : W.heap.size < v21.heap.size := by omega)); (try (have ov211 : W.heap.size ≤ v21.heap.size := by omega)); (try (have ov212 : ¬ W.heap.size = v21.heap.size := by omega)); (try (have ov213 : ¬ v21.heap.size = W.heap.size := by omega)); (try (have ov214 : W.heap.size + 1 < v21.heap.size := by omega)); (try (have ov215 : W.heap.size + 1 ≤ v21.heap.size := by omega)); (try (have ov216 : ¬ W.heap.size + 1 = v21.heap.size := by omega)); (try (have ov217 : ¬ v21.heap.size = W.heap.size + 1 := by omega)); (try (have ov218 : v20.heap.size < v21.heap.size := by omega)); (try (have ov219 : v20.heap.size ≤ v21.heap.size := by omega)); (try (have ov2110 : ¬ v20.heap.size = v21.heap.size := by omega)); (try (have ov2111 : ¬ v21.heap.size = v20.heap.size := by omega)); (try (have ov2112 : v20.heap.size + 1 < v21.heap.size := by omega)); (try (have ov2113 : v20.heap.size + 1 ≤ v21.heap.size := by omega)); (try (have ov2114 : ¬ v20.heap.size + 1 = v21.heap.size := by omega)); (try (have ov2115 : ¬ v21.heap.size = v20.heap.size + 1 := by omega))))
    all_goals
      go_wp2_with fail
      go_meet
      case rel =>
        refine ⟨_, _, rfl, rfl, ⟨?_, ?_, ?_, ?_, ?_⟩, ⟨?_, ?_, ?_, ?_, ?_⟩, ?_⟩
        · first | (go_simp; done) | (go_simp; refine World.cell?_setCell_same' _ _ _ ?_; go_simp; done)
        · first | (go_simp; done) | (go_simp; refine World.cell?_setCell_same' _ _ _ ?_; go_simp; done)
        · first | (go_simp; done) | (go_simp; refine World.cell?_setCell_same' _ _ _ ?_; go_simp; done)
        · first | (go_simp; done) | (go_simp; refine World.cell?_setCell_same' _ _ _ ?_; go_simp; done)
        · first | (simp; done) | omega | (simp; omega)
        · first | (go_simp; done) | (go_simp; refine World.cell?_setCell_same' _ _ _ ?_; go_simp; done)
        · first | (go_simp; done) | (go_simp; refine World.cell?_setCell_same' _ _ _ ?_; go_simp; done)
        · first | (go_simp; done) | (go_simp; refine World.cell?_setCell_same' _ _ _ ?_; go_simp; done)
        · first | (go_simp; done) | (go_simp; refine World.cell?_setCell_same' _ _ _ ?_; go_simp; done)
        · first | (simp; done) | omega | (simp; omega)
        · (repeat (first | with_reducible assumption | with_reducible refine Keeps.alloc ?_ _ | with_reducible refine Keeps.drew ?_ | with_reducible refine Keeps.setCell ?_ ?_ _)); (all_goals (first | (simp; done) | omega | (simp; omega)))
  case rest =>
    obtain ⟨X, Y, rfl, rfl, bx, by_, KK⟩ := hcut
    have bl := BW.trans (KK.below.mono BW.size)
    clear KK BW kf kq c0 c1 zW b3
    obtain ⟨x0, x1, x2, x3, x4⟩ := bx
    go_wp2_with fail
    refine (km _).mono ?_
    rintro e w9 ⟨rfl, h9⟩
    have b9 := bl.trans (h9.mono bl.size)
    obtain ⟨z0, z1, z2, z3, z4⟩ := by_.later h9
    clear h9 km bl x0 x1 x2 x3 x4 by_
    go_wp2_with fail
    refine (kg _).mono ?_
    rintro e w10 ⟨rfl, h10⟩
    have b10 := b9.trans (h10.mono b9.size)
    clear h10 kg b9
    by_cases hg : 0 < g
    · obtain rfl : res = v + 1 := hy.out hg
      have v3 := v1.out hg
      go_wp2_with fail
      go_returns
      refine ⟨rfl, ?_⟩
      repeat (first | exact Below.refl _ _ | assumption | refine Below.setCell ?_ (by first | (simp; done) | omega | (simp; omega)) _ | refine Below.drew ?_ | refine below_drewN ?_ _ | refine Below.alloc ?_ (by first | (simp; done) | omega | (simp; omega)) _)
    · obtain rfl : res = v := hn.out (by omega)
      go_wp2_with fail
      go_returns
      refine ⟨rfl, ?_⟩
      repeat (first | exact Below.refl _ _ | assumption | refine Below.setCell ?_ (by first | (simp; done) | omega | (simp; omega)) _ | refine Below.drew ?_ | refine below_drewN ?_ _ | refine Below.alloc ?_ (by first | (simp; done) | omega | (simp; omega)) _)
/-- rank: the nearest rank. -/
theorem rank_spec (n p : Int) (w : World) (h1 : 1 ≤ n) (h2 : n ≤ 9223372036854775807) (p1 : 1 ≤ p) (p2 : p ≤ 100000000) :
    Calls Try.prog 29 #[.int .i64 n, .int .i64 p] w fun e w' => e = .returned (.int .i64 (rnk n p)) ∧ Below w.heap.size w w' := by
  have hn : IsHi n := ⟨by omega, by omega⟩
  have hp : IsHi p := ⟨by omega, by omega⟩
  have k1 := wof_spec n hn
  have k2 := wof_spec p hp
  have kf := wof_spec 100000000 ⟨by omega, by omega⟩
  have k3 := mul_spec (hi n) (lo n) (hi p) (lo p) (hiV_isW (fits_small hn)) (hiV_isW (fits_small hp))
  have a : n * p ≤ n * 100000000 := Int.mul_le_mul_of_nonneg_left p2 (by omega)
  have b : 0 ≤ n * p := Int.mul_nonneg (by omega) (by omega)
  have fm : Fits (n * p) := ⟨by omega, by omega⟩
  rw [V_hi_lo, V_hi_lo] at k3
  unfold sumRes at k3
  unfold wideRes at k1 k2 kf
  rw [resV_fits fm, resE_fits fm] at k3
  have q0 : 0 ≤ n * p / 100000000 := by omega
  have q1 : n * p / 100000000 ≤ n := by omega
  have r0 : 0 ≤ n * p % 100000000 := by omega
  have r1 : n * p % 100000000 < 100000000 := by omega
  have fr : Fits (n * p % 100000000) := ⟨by omega, by omega⟩
  have kg := sign_spec (hi (n * p % 100000000)) (lo (n * p % 100000000)) (isLo_lo _)
  rw [V_hi_lo] at kg
  have c1 : 0 < cmpI (n * p % 100000000) 0 ↔ ¬ n * p % 100000000 = 0 := by
    unfold cmpI; split <;> (try split) <;> omega
  refine rank_walk n p _ _ _ _ _ _ _ _ _ _ _ _ _ _ (n * p / 100000000) _ _ _ q0 (by omega) ?_ ?_ ?_ k1 k2 k3 kf (quo_pos (n * p) 100000000 b (by omega) (by omega) (by omega)) (small_pos _ ⟨by omega, by omega⟩) kg w
  · intro h; rw [c1] at h; omega
  · intro h; rw [c1] at h; unfold rnk; rw [if_neg h]
  · intro h; rw [c1] at h; unfold rnk; rw [if_pos (by omega)]; omega
end Go.Proofs.Ytebiddmadmmfpaa
/- timer: Rank, both; the statement's frame. (gen_tm2.py) -/
namespace Go.Proofs.Ytebiddmadmmfpaa
set_option linter.unusedVariables false
set_option linter.unusedSimpArgs false
open Go.RowKit W T9 Lb
/-- What Rank answers. -/
def rkV (n p : Int) : Int := if p < 1 ∨ 100000000 < p then 0 else if n < 1 then 0 else rnk n p
def rkE (n p : Int) : Int := if p < 1 ∨ 100000000 < p then 91 else if n < 1 then 90 else 0
theorem rank9_spec (n p : Int) (hn : IsHi n) (w : World) :
    Calls Try.prog 12 #[.int .i64 n, .int .i64 p] w fun e w' => e = .returned (.tuple #[.int .i64 (rkV n p), .int .i64 (rkE n p)]) ∧ Below w.heap.size w w' := by
  by_cases a : p < 1
  · have e1 : rkV n p = 0 := by unfold rkV; rw [if_pos (.inl a)]
    have e2 : rkE n p = 91 := by unfold rkE; rw [if_pos (.inl a)]
    rw [e1, e2]
    clear e1 e2
    go_enter Try.func12, Try.ntmps12
    go_wp2
    go_returns
    exact ⟨rfl, by go_grown⟩
  by_cases b : 100000000 < p
  · have e1 : rkV n p = 0 := by unfold rkV; rw [if_pos (.inr b)]
    have e2 : rkE n p = 91 := by unfold rkE; rw [if_pos (.inr b)]
    rw [e1, e2]
    clear e1 e2
    go_enter Try.func12, Try.ntmps12
    go_wp2
    go_returns
    exact ⟨rfl, by go_grown⟩
  have c : ¬ (p < 1 ∨ 100000000 < p) := by omega
  by_cases d : n < 1
  · have e1 : rkV n p = 0 := by unfold rkV; rw [if_neg c, if_pos d]
    have e2 : rkE n p = 90 := by unfold rkE; rw [if_neg c, if_pos d]
    rw [e1, e2]
    clear e1 e2 c
    go_enter Try.func12, Try.ntmps12
    go_wp2
    go_returns
    exact ⟨rfl, by go_grown⟩
  · have e1 : rkV n p = rnk n p := by unfold rkV; rw [if_neg c, if_neg d]
    have e2 : rkE n p = 0 := by unfold rkE; rw [if_neg c, if_neg d]
    have k := fun w => rank_spec n p w (by omega) (by have := hn.b; omega) (by omega) (by omega)
    rw [e1, e2]
    clear e1 e2 c
    generalize rnk n p = r at *
    go_enter Try.func12, Try.ntmps12
    go_wp2_with fail
    refine (k _).mono ?_
    rintro e w1 ⟨rfl, h1⟩
    clear k
    go_wp2
    go_returns
    exact ⟨rfl, h1⟩
set_option maxRecDepth 100000 in
set_option maxHeartbeats 8000000 in
theorem rrank_walk (n p q r a b v : Int) (w : World) (g1 : ¬ p < 1) (g2 : ¬ 100000000 < p) (g3 : ¬ n < 1) (v0 : 0 ≤ q) (v2 : q ≤ 9223372036854775807) (v1 : Hid (r ≠ 0 → q < 9223372036854775807)) (hy : Hid (r ≠ 0 → v = q + 1)) (hn : Hid (r = 0 → v = q)) (hb : IntKind.i64.wrap b = q)
    (k1 : ∀ w', Calls Try.prog 31 #[.int .i64 p] w' (NumPost w' p))
    (k2 : ∀ w', Calls Try.prog 31 #[.int .i64 n] w' (NumPost w' n))
    (k3 : ∀ s p' c l s' p'' c' l' w', IsNum w' s p' c l p → IsNum w' s' p'' c' l' n → Calls Try.prog 30 #[.agg #[.bool s, .slice p' l.length c], .agg #[.bool s', .slice p'' l'.length c']] w' (NumPost w' (p * n)))
    (k4 : ∀ w', Calls Try.prog 31 #[.int .i64 100000000] w' (NumPost w' 100000000))
    (k5 : ∀ s p' c l s' p'' c' l' w', IsNum w' s p' c l (p * n) → IsNum w' s' p'' c' l' 100000000 → Calls Try.prog 32 #[.agg #[.bool s, .slice p' l.length c], .agg #[.bool s', .slice p'' l'.length c']] w' (QuoPost w' q r))
    (k6 : ∀ s' p' c' l' w', IsNum w' s' p' c' l' q → Calls Try.prog 33 #[.agg #[.bool s', .slice p' l'.length c']] w' fun e w'' => e = .returned (.tuple #[.agg #[.int .i64 a, .int .u64 b], .bool true]) ∧ Below w'.heap.size w' w'') :
    Calls Try.prog 13 #[.int .i64 n, .int .i64 p] w fun e w' => e = .returned (.tuple #[.int .i64 v, .int .i64 0]) ∧ Below w.heap.size w w' := by
  have K3 := hide k3
  have K5 := hide k5
  have K6 := hide k6
  have HB := hide hb
  clear k3 k5 k6 hb
  go_enter Try.func13, Try.ntmps13
  go_wp2_with fail
  refine (k1 _).mono ?_
  clear k1
  rintro e w1 ⟨s1, p1, c1, l1, rfl, N1, h1⟩
  have M1 := hide N1
  clear N1
  go_wp2_with fail
  refine (k2 _).mono ?_
  clear k2
  rintro e w2 ⟨s2, p2, c2, l2, rfl, N2, h2⟩
  have M2 := hide N2
  clear N2
  go_wp2_with fail
  refine (K3.out _ _ _ _ _ _ _ _ _ (M1.out.later h2) M2.out).mono ?_
  clear K3
  rintro e w3 ⟨s3, p3, c3, l3, rfl, N3, h3⟩
  have B3 : Below w.heap.size w w3 := (h1.trans (h2.mono h1.size)).trans (h3.mono (Nat.le_trans h1.size h2.size))
  have y3 := B3.size
  have M3 := hide N3
  clear N3 h1 h2 h3 M1 M2
  go_wp2_with fail
  refine abs_wp (fun W => W.cell? ⟨w3.heap.size, 0, none⟩ = some (.bool s3) ∧ W.cell? ⟨w3.heap.size, 1, none⟩ = some (.slice p3 l3.length c3) ∧ w3.heap.size < W.heap.size ∧ Below w3.heap.size w3 W) ?_ ?_
  · refine ⟨?_, ?_, ?_, ?_⟩
    all_goals first | assumption | (go_grown; done) | (simp [go_sem]; done) | (simp; done)
  rintro W ⟨c0, c1', zW, BW0⟩
  have NW := hide (M3.out.later BW0)
  have BW := hide (B3.trans (BW0.mono B3.size))
  have yW := BW.out.size
  clear M3 BW0 B3
  go_cut [7, 8] (fun q5 q6 W' => ∃ (X Y : Nat) (s1 : Bool) (p1 : Option Addr) (c1 : Nat) (l1 : List Int) (s2 : Bool) (p2 : Option Addr) (c2 : Nat) (l2 : List Int), q5 = .pointer (some ⟨X, 0, none⟩) ∧ q6 = .pointer (some ⟨Y, 0, none⟩) ∧ Box2 W' X (.bool s1) (.slice p1 l1.length c1) ∧ Box2 W' Y (.bool s2) (.slice p2 l2.length c2) ∧ Hid (IsNum W' s1 p1 c1 l1 q) ∧ Hid (l2.length = 0 ↔ r = 0) ∧ Keeps W.heap.size W W')
  case first =>
    have K0 := Keeps.start (Nat.le_refl W.heap.size)
    have K1 := K0.drew
    go_region_held3 (fun w' => w'.cell? ⟨w3.heap.size, 0, none⟩ = some (.bool s3) ∧ w'.cell? ⟨w3.heap.size, 1, none⟩ = some (.slice p3 l3.length c3) ∧ Keeps W.heap.size W w')
      ((refine (fun K => ⟨Keeps.cell K c0 zW, Keeps.cell K c1' zW, K⟩) (?_ : Keeps W.heap.size W _); ((repeat (first | with_reducible assumption | with_reducible refine Keeps.alloc ?_ _ | with_reducible refine Keeps.drew ?_ | with_reducible refine Keeps.setCell ?_ ?_ _)); (all_goals (first | (simp; done) | omega | (simp; omega))))))
      (first
      | (go_at_call 31; (with_reducible refine (k4 _).mono ?_); rintro e v20 ⟨s2, p2, c2, l2, rfl, N2, hb20⟩; have K20 := Keeps.call (B := W.heap.size) (W := W) (by (repeat (first | with_reducible assumption | with_reducible refine Keeps.alloc ?_ _ | with_reducible refine Keeps.drew ?_ | with_reducible refine Keeps.setCell ?_ ?_ _)); (all_goals (first | (simp; done) | omega | (simp; omega)))) hb20; obtain ⟨bc20, bf20, bs20⟩ := bcell hb20; (try simp only [World.size_alloc, World.size_drew] at bc20 bf20 bs20); (try (have ov200 : W.heap.size < v20.heap.size := by omega)); (try (have ov201 : W.heap.size ≤ v20.heap.size := by omega)); (try (have ov202 : ¬ W.heap.size = v20.heap.size := by omega)); (try (have ov203 : ¬ v20.heap.size = W.heap.size := by omega)); (try (have ov204 : W.heap.size + 1 < v20.heap.size := by omega)); (try (have ov205 : W.heap.size + 1 ≤ v20.heap.size := by omega)); (try (have ov206 : ¬ W.heap.size + 1 = v20.heap.size := by omega)); (try (have ov207 : ¬ v20.heap.size = W.heap.size + 1 := by omega)))
      | (go_at_call 32; (with_reducible refine (K5.out _ _ _ _ _ _ _ _ _ (NW.out.later (Keeps.below (B := W.heap.size) (W := W) (by (repeat (first | with_reducible assumption | with_reducible refine Keeps.alloc ?_ _ | with_reducible refine Keeps.drew ?_ | with_reducible refine Keeps.setCell ?_ ?_ _)); (all_goals (first | (simp; done) | omega | (simp; omega)))))) (N2.later (by (repeat (first | with_reducible assumption | with_reducible exact Below.refl _ _ | with_reducible refine Below.alloc ?_ ?_ _ | with_reducible refine Below.drew ?_ | with_reducible refine Below.setCell ?_ ?_ _)); (all_goals (first | (simp; done) | omega | (simp; omega)))))).mono ?_); rintro e v21 ⟨s5, p5, c5, l5, s4, p4, c4, l4, rfl, N5, N4, hb21⟩; have K21 := Keeps.call (B := W.heap.size) (W := W) (by (repeat (first | with_reducible assumption | with_reducible refine Keeps.alloc ?_ _ | with_reducible refine Keeps.drew ?_ | with_reducible refine Keeps.setCell ?_ ?_ _)); (all_goals (first | (simp; done) | omega | (simp; omega)))) hb21; obtain ⟨bc21, bf21, bs21⟩ := bcell hb21; (try simp only [World.size_alloc, World.size_drew] at bc21 bf21 bs21); (try (have ov210 : W.heap.size < v21.heap.size := by omega)); (try (have ov211 : W.heap.size ≤ v21.heap.size := by omega)); (try (have ov212 : ¬ W.heap.size = v21.heap.size := by omega)); (try (have ov213 : ¬ v21.heap.size = W.heap.size := by omega)); (try (have ov214 : W.heap.size + 1 < v21.heap.size := by omega)); (try (have ov215 : W.heap.size + 1 ≤ v21.heap.size := by omega)); (try (have ov216 : ¬ W.heap.size + 1 = v21.heap.size := by omega)); (try (have ov217 : ¬ v21.heap.size = W.heap.size + 1 := by omega)); (try (have ov218 : v20.heap.size < v21.heap.size := by omega)); (try (have ov219 : v20.heap.size ≤ v21.heap.size := by omega)); (try (have ov2110 : ¬ v20.heap.size = v21.heap.size := by omega)); (try (have ov2111 : ¬ v21.heap.size = v20.heap.size := by omega)); (try (have ov2112 : v20.heap.size + 1 < v21.heap.size := by omega)); (try (have ov2113 : v20.heap.size + 1 ≤ v21.heap.size := by omega)); (try (have ov2114 : ¬ v20.heap.size + 1 = v21.heap.size := by omega)); (try (have ov2115 : ¬ v21.heap.size = v20.heap.size + 1 := by omega))))
    all_goals
      go_wp2_with fail
      go_meet
      case rel =>
        refine ⟨_, _, s5, p5, c5, l5, s4, p4, c4, l4, rfl, rfl, ⟨?_, ?_, ?_, ?_, ?_⟩, ⟨?_, ?_, ?_, ?_, ?_⟩, (hide ?_ : Hid (IsNum _ _ _ _ _ _)), hide ((mag_zero N4.mag).trans Lb.ab_zero), ?_⟩
        · first | (go_simp; done) | (go_simp; refine World.cell?_setCell_same' _ _ _ ?_; go_simp; done)
        · first | (go_simp; done) | (go_simp; refine World.cell?_setCell_same' _ _ _ ?_; go_simp; done)
        · first | (go_simp; done) | (go_simp; refine World.cell?_setCell_same' _ _ _ ?_; go_simp; done)
        · first | (go_simp; done) | (go_simp; refine World.cell?_setCell_same' _ _ _ ?_; go_simp; done)
        · first | (simp; done) | omega | (simp; omega)
        · first | (go_simp; done) | (go_simp; refine World.cell?_setCell_same' _ _ _ ?_; go_simp; done)
        · first | (go_simp; done) | (go_simp; refine World.cell?_setCell_same' _ _ _ ?_; go_simp; done)
        · first | (go_simp; done) | (go_simp; refine World.cell?_setCell_same' _ _ _ ?_; go_simp; done)
        · first | (go_simp; done) | (go_simp; refine World.cell?_setCell_same' _ _ _ ?_; go_simp; done)
        · first | (simp; done) | omega | (simp; omega)
        · have sz21 := hb21.size; (try simp only [World.size_alloc, World.size_drew] at sz21); (repeat (first | with_reducible exact N5 | with_reducible refine IsNum.set (t := 64) (m := 2) ?_ ?_ (by decide) _ | with_reducible refine IsNum.later ?_ ((Below.refl _ _).alloc (Nat.le_refl _) _) | with_reducible refine IsNum.later ?_ ((Below.refl _ _).drew))); (all_goals (repeat (first | (with_reducible refine shape_top2 _ _ _ _ _ ?_; (focus (first | (with_reducible rfl) | omega | (simp; done) | (simp; omega))); done) | rw [shape_drew] | rw [shape_set] | (with_reducible refine Eq.trans (shape_old _ _ ?_) ?_; (focus (first | (with_reducible rfl) | omega | (simp; done) | (simp; omega)))) | (with_reducible refine Eq.trans (shape_later hb21 ?_) ?_; (focus (first | (with_reducible rfl) | omega | (simp; done) | (simp; omega)))) | (with_reducible refine Eq.trans (shape_later hb20 ?_) ?_; (focus (first | (with_reducible rfl) | omega | (simp; done) | (simp; omega)))))))
        · (repeat (first | with_reducible assumption | with_reducible refine Keeps.alloc ?_ _ | with_reducible refine Keeps.drew ?_ | with_reducible refine Keeps.setCell ?_ ?_ _)); (all_goals (first | (simp; done) | omega | (simp; omega)))
  case rest =>
    obtain ⟨X, Y, s1, p1, e1, l1, s2, p2, e2, l2, rfl, rfl, bx, bY, N1, HZ, KK⟩ := hcut
    have bl := BW.out.trans (KK.below.mono BW.out.size)
    clear KK BW c0 c1' zW k4 NW
    obtain ⟨x0, x1, x2, x3, x4⟩ := bx
    go_wp2_with fail
    refine (K6.out _ _ _ _ _ N1.out).mono ?_
    clear K6
    rintro e w9 ⟨rfl, h9⟩
    have b9 := bl.trans (h9.mono bl.size)
    have y9 := b9.size
    obtain ⟨z0, z1, z2, z3, z4⟩ := bY.later h9
    have hb := HB.out
    have ne : ¬ Y = w9.heap.size := by omega
    have ne2 : ¬ w9.heap.size = Y := by omega
    clear h9 N1 bl x0 x1 x2 x3 x4 bY HB
    by_cases hg : r = 0
    · obtain rfl : v = q := hn.out hg
      have hz : l2.length = 0 := HZ.out.2 hg
      rw [hz] at z1
      clear hg hz hy hn
      go_wp2_with fail
      go_returns
      exact ⟨rfl, by go_grown⟩
    · obtain rfl : v = q + 1 := hy.out hg
      have v3 := v1.out hg
      have hz : 0 < l2.length := by have := HZ.out; omega
      have hz2 : (0 : Int) < (l2.length : Int) := by omega
      clear hg hy hn HZ
      generalize l2.length = L at *
      go_wp2_with fail
      go_returns
      exact ⟨rfl, by go_grown⟩
end Go.Proofs.Ytebiddmadmmfpaa
/- timer: TimerRanks. (gen_tm2.py) -/
namespace Go.Proofs.Ytebiddmadmmfpaa
set_option linter.unusedVariables false
set_option linter.unusedSimpArgs false
open Go.RowKit W T9 Lb
theorem rrank_spec (n p : Int) (hn : IsHi n) (w : World) :
    Calls Try.prog 13 #[.int .i64 n, .int .i64 p] w fun e w' => e = .returned (.tuple #[.int .i64 (rkV n p), .int .i64 (rkE n p)]) ∧ Below w.heap.size w w' := by
  by_cases a : p < 1
  · have e1 : rkV n p = 0 := by unfold rkV; rw [if_pos (.inl a)]
    have e2 : rkE n p = 91 := by unfold rkE; rw [if_pos (.inl a)]
    rw [e1, e2]
    clear e1 e2
    go_enter Try.func13, Try.ntmps13
    go_wp2
    go_returns
    exact ⟨rfl, by go_grown⟩
  by_cases b : 100000000 < p
  · have e1 : rkV n p = 0 := by unfold rkV; rw [if_pos (.inr b)]
    have e2 : rkE n p = 91 := by unfold rkE; rw [if_pos (.inr b)]
    rw [e1, e2]
    clear e1 e2
    go_enter Try.func13, Try.ntmps13
    go_wp2
    go_returns
    exact ⟨rfl, by go_grown⟩
  have c : ¬ (p < 1 ∨ 100000000 < p) := by omega
  by_cases d : n < 1
  · have e1 : rkV n p = 0 := by unfold rkV; rw [if_neg c, if_pos d]
    have e2 : rkE n p = 90 := by unfold rkE; rw [if_neg c, if_pos d]
    rw [e1, e2]
    clear e1 e2 c
    go_enter Try.func13, Try.ntmps13
    go_wp2
    go_returns
    exact ⟨rfl, by go_grown⟩
  have e1 : rkV n p = rnk n p := by unfold rkV; rw [if_neg c, if_neg d]
  have e2 : rkE n p = 0 := by unfold rkE; rw [if_neg c, if_neg d]
  rw [e1, e2]
  obtain ⟨n1, n2⟩ := hn
  have hp : IsHi p := ⟨by omega, by omega⟩
  have cm : p * n = n * p := Int.mul_comm p n
  have x1 : n * p ≤ n * 100000000 := Int.mul_le_mul_of_nonneg_left (by omega) (by omega)
  have x0 : 0 ≤ n * p := Int.mul_nonneg (by omega) (by omega)
  have fm : Fits (p * n) := ⟨by omega, by omega⟩
  have q0 : 0 ≤ p * n / 100000000 := by omega
  have q1 : p * n / 100000000 ≤ n := by omega
  have fq : IsHi (p * n / 100000000) := ⟨by omega, by omega⟩
  refine rrank_walk n p (p * n / 100000000) (p * n % 100000000) (hi (p * n / 100000000)) (lo (p * n / 100000000)) (rnk n p) w a b d q0 (by omega) ?_ ?_ ?_ ?_ (rint_spec p hp) (rint_spec n ⟨n1, n2⟩) ?_ (rint_spec 100000000 ⟨by omega, by omega⟩) ?_ ?_
  · intro h; omega
  · intro h; unfold rnk; rw [← cm, if_neg h]
  · intro h; unfold rnk; rw [← cm, if_pos h]; omega
  · rw [IntKind.wrap_i64]; unfold lo; omega
  · intro s p' c l s' p'' c' l' w' H1 H2
    exact mulN_spec s s' p' p'' c c' l l' p n w' H1 H2 (by have := H1.few 9 (few_fits (fits_small hp)); omega) (by have := H2.few 9 (few_fits (fits_small ⟨n1, n2⟩)); omega)
  · intro s p' c l s' p'' c' l' w' H1 H2
    have k := quoN_spec s s' p' p'' c c' l l' (p * n) 100000000 w' H1 H2 (by omega) (by have := H1.few 9 (few_fits fm); omega) (by have := H2.few 9 (few_fits ⟨by omega, by omega⟩); omega)
    rw [Int.tdiv_eq_ediv_of_nonneg (by omega), Int.tmod_eq_emod_of_nonneg (by omega)] at k
    exact k
  · intro s' p' c' l' w' H
    exact to_small s' p' c' l' _ w' H (fits_small fq)
set_option maxRecDepth 100000 in
set_option maxHeartbeats 8000000 in
theorem law_TimerRanks (n p : Int) (wn : (Lit.int .i64 n).wf = true) (wp_ : (Lit.int .i64 p).wf = true) (w : World) :
    Calls Try.prog 3 #[.int .i64 n, .int .i64 p] w fun e w' => e = .returned (.bool true) ∧ Below w.heap.size w w' := by
  have k1 := rank9_spec n p (hi_of_wf wn)
  have k2 := rrank_spec n p (hi_of_wf wn)
  have k3 := alive9
  generalize rkV n p = v at *
  generalize rkE n p = er at *
  clear wn wp_
  go_enter Try.func3, Try.ntmps3
  go_wp2_with fail
  refine (k1 _).mono ?_
  rintro e w1 ⟨rfl, h1⟩
  go_wp2_with fail
  refine (k2 _).mono ?_
  rintro e w2 ⟨rfl, h2⟩
  go_wp2_with fail
  refine (k3 _).mono ?_
  rintro e w3 ⟨rfl, h3⟩
  have B3 : Below w.heap.size w w3 := (h1.trans (h2.mono h1.size)).trans (h3.mono (Nat.le_trans h1.size h2.size))
  clear h1 h2 h3 k1 k2 k3
  go_wp2_with fail
  go_returns
  exact ⟨rfl, B3⟩
end Go.Proofs.Ytebiddmadmmfpaa
