/- micro: part, Product, Ratio, Scale, Share: what each answers. -/
import Derived.Test.YtedpbdcbbfofoaaMpart
namespace Go.Proofs.Ytedpbdcbbfofoaa
set_option linter.unusedVariables false
open Go.RowKit W
def partV (a b c : Int) : Int := if c = 0 then 0 else smallV (Int.tdiv (a * b) c)
def partE (a b c : Int) : Int := if c = 0 then 11 else if smallB (Int.tdiv (a * b) c) then 0 else 10
theorem V_small (n : Int) : V (hi n) (lo n) = n := V_hi_lo n
theorem isW_small {n : Int} (j : IsHi n) : IsW (hi n, lo n) := ⟨isHi_hi (fits_small j), isLo_lo n⟩
theorem prod_fits {a b : Int} (i : IsHi a) (j : IsHi b) : -85070591730234615865843651857942052864 ≤ a * b ∧ a * b ≤ 85070591730234615865843651857942052864 := by
  obtain ⟨_, _⟩ := i; obtain ⟨_, _⟩ := j
  have h : ab a * ab b ≤ 9223372036854775808 * 9223372036854775808 := Int.mul_le_mul (by unfold ab; split <;> omega) (by unfold ab; split <;> omega) (ab_nonneg b) (by omega)
  have k := Int.mul_nonneg (ab_nonneg a) (ab_nonneg b)
  have s := sg_mul a b
  rw [← s]
  unfold sg; split <;> omega
theorem tdiv_le (x y : Int) : ab (Int.tdiv x y) ≤ ab x := by
  rw [tdiv_sg]
  have h : ab x / ab y ≤ ab x := Int.ediv_le_self _ (ab_nonneg x)
  have k : 0 ≤ ab x / ab y := Int.ediv_nonneg (ab_nonneg x) (ab_nonneg y)
  generalize ab x / ab y = z at *
  have e : ab (sg (decide (x < 0) != decide (y < 0)) z) = z := by unfold sg ab; split <;> split <;> omega
  rw [e]; exact h
theorem fits_of_ab {v : Int} (h : ab v < 170141183460469231731687303715884105728) : Fits v := by unfold ab at h; split at h <;> exact ⟨by omega, by omega⟩
theorem small_or (v : Int) : (if smallB v then smallV v else 0) = smallV v := by
  by_cases h : IsHi v
  · have : smallB v = true := decide_eq_true h
    rw [this]; rfl
  · have : smallB v = false := decide_eq_false h
    rw [this]; unfold smallV; rw [if_neg h]; rfl
theorem part_spec (a b c : Int) (ia : IsHi a) (ib : IsHi b) (ic : IsHi c) (w : World) :
    Calls Try.prog 27 #[.int .i64 a, .int .i64 b, .int .i64 c] w fun y w' => y = .returned (.tuple #[.int .i64 (partV a b c), .int .i64 (partE a b c)]) ∧ Below w.heap.size w w' := by
  have ka := wof_spec a ia
  have kb := wof_spec b ib
  have kc := wof_spec c ic
  have km := mul_spec (hi a) (lo a) (hi b) (lo b) (isW_small ia) (isW_small ib)
  rw [V_hi_lo, V_hi_lo] at km
  have pf := prod_fits ia ib
  have fp : Fits (a * b) := ⟨by omega, by omega⟩
  unfold sumRes at km
  rw [resV_fits fp, resE_fits fp] at km
  have wp : IsW (hi (a * b), lo (a * b)) := ⟨isHi_hi fp, isLo_lo _⟩
  by_cases z : c = 0
  · have kq := quo_none (hi (a * b)) (lo (a * b)) (hi c) (lo c) (isLo_lo _) (by rw [V_hi_lo]; exact z)
    have kf := fit_err 0 0 11 (by decide)
    unfold partV partE
    rw [if_pos z, if_pos z]
    exact part_walk a b c _ _ _ _ _ _ _ _ _ _ _ _ _ _ _ ka kb kc km kq kf w
  · have kq := quo_spec (hi (a * b)) (lo (a * b)) (hi c) (lo c) wp (isW_small ic) (by rw [V_hi_lo]; exact z)
    rw [V_hi_lo, V_hi_lo] at kq
    have fq : Fits (Int.tdiv (a * b) c) := fits_of_ab (by have := tdiv_le (a * b) c; have : ab (a * b) ≤ 85070591730234615865843651857942052864 := by (unfold ab; split <;> omega)
                                                          omega)
    have e1 : quoQ (a * b) c = Int.tdiv (a * b) c := if_pos fq
    rw [e1, resE_fits fq] at kq
    have ks := small_spec (hi (Int.tdiv (a * b) c)) (lo (Int.tdiv (a * b) c)) ⟨isHi_hi fq, isLo_lo _⟩
    rw [V_hi_lo] at ks
    have kf := fit_walk _ _ _ _ ks
    rw [small_or] at kf
    unfold partV partE
    rw [if_neg z, if_neg z]
    exact part_walk a b c _ _ _ _ _ _ _ _ _ _ _ _ _ _ _ ka kb kc km kq kf w
set_option maxHeartbeats 1000000 in
theorem product_walk (a b v x : Int) (k : ∀ w, Calls Try.prog 27 #[.int .i64 a, .int .i64 b, .int .i64 1000000] w fun y w' => y = .returned (.tuple #[.int .i64 v, .int .i64 x]) ∧ Below w.heap.size w w') (w : World) :
    Calls Try.prog 15 #[.int .i64 a, .int .i64 b] w fun y w' => y = .returned (.tuple #[.int .i64 v, .int .i64 x]) ∧ Below w.heap.size w w' := by
  go_enter Try.func15, Try.ntmps15
  go_wp2_with fail
  refine (k _).mono ?_
  rintro e w1 ⟨rfl, h1⟩
  go_wp2_with fail
  go_returns
  exact ⟨rfl, h1⟩
set_option maxHeartbeats 1000000 in
theorem ratio_walk (a b v x : Int) (k : ∀ w, Calls Try.prog 27 #[.int .i64 a, .int .i64 1000000, .int .i64 b] w fun y w' => y = .returned (.tuple #[.int .i64 v, .int .i64 x]) ∧ Below w.heap.size w w') (w : World) :
    Calls Try.prog 17 #[.int .i64 a, .int .i64 b] w fun y w' => y = .returned (.tuple #[.int .i64 v, .int .i64 x]) ∧ Below w.heap.size w w' := by
  go_enter Try.func17, Try.ntmps17
  go_wp2_with fail
  refine (k _).mono ?_
  rintro e w1 ⟨rfl, h1⟩
  go_wp2_with fail
  go_returns
  exact ⟨rfl, h1⟩
theorem isHi_unit : IsHi 1000000 := ⟨by omega, by omega⟩
theorem product_spec (a b : Int) (ia : IsHi a) (ib : IsHi b) (w : World) :
    Calls Try.prog 15 #[.int .i64 a, .int .i64 b] w fun y w' => y = .returned (.tuple #[.int .i64 (partV a b 1000000), .int .i64 (partE a b 1000000)]) ∧ Below w.heap.size w w' :=
  product_walk a b _ _ (part_spec a b 1000000 ia ib isHi_unit) w
theorem ratio_spec (a b : Int) (ia : IsHi a) (ib : IsHi b) (w : World) :
    Calls Try.prog 17 #[.int .i64 a, .int .i64 b] w fun y w' => y = .returned (.tuple #[.int .i64 (partV a 1000000 b), .int .i64 (partE a 1000000 b)]) ∧ Below w.heap.size w w' :=
  ratio_walk a b _ _ (part_spec a 1000000 b ia isHi_unit ib) w
set_option maxHeartbeats 1000000 in
theorem usual_spec (v : Int) (t : Bool) (ht : t = decide (-1000000000000000 ≤ v ∧ v ≤ 1000000000000000)) (w : World) :
    Calls Try.prog 26 #[.int .i64 v] w fun y w' => y = .returned (.bool t) ∧ w = w' := by
  by_cases h1 : -1000000000000000 ≤ v
  · by_cases h2 : v ≤ 1000000000000000
    · have : t = true := by rw [ht]; simp [h1, h2]
      subst this
      clear ht
      go_enter Try.func26, Try.ntmps26
      go_wp2_with fail
      go_returns
      exact ⟨rfl, rfl⟩
    · have : t = false := by rw [ht]; simp [h2]
      subst this
      clear ht
      go_enter Try.func26, Try.ntmps26
      go_wp2_with fail
      go_returns
      exact ⟨rfl, rfl⟩
  · have : t = false := by rw [ht]; simp [h1]
    subst this
    clear ht
    go_enter Try.func26, Try.ntmps26
    go_wp2_with fail
    go_returns
    exact ⟨rfl, rfl⟩
def far (v : Int) : Prop := v < -1000000000000000 ∨ 1000000000000000 < v
instance (v : Int) : Decidable (far v) := by unfold far; exact inferInstance
def badRate (r : Int) : Prop := r < 1000 ∨ 1000000 < r
instance (r : Int) : Decidable (badRate r) := by unfold badRate; exact inferInstance
def scaleV (v r : Int) : Int := if badRate r then 0 else if far v then 0 else partV v 1000000 r
def scaleE (v r : Int) : Int := if badRate r then 23 else if far v then 22 else partE v 1000000 r
set_option maxHeartbeats 1000000 in
theorem scale_spec (v r : Int) (iv : IsHi v) (ir : IsHi r) (w : World) :
    Calls Try.prog 11 #[.int .i64 v, .int .i64 r] w fun y w' => y = .returned (.tuple #[.int .i64 (scaleV v r), .int .i64 (scaleE v r)]) ∧ Below w.heap.size w w' := by
  have kp := part_spec v 1000000 r iv isHi_unit ir
  unfold scaleV scaleE
  by_cases b : badRate r
  · rw [if_pos b, if_pos b]
    clear kp
    rcases b with b | b
    · go_enter Try.func11, Try.ntmps11
      go_wp2_with fail
      go_returns
      exact ⟨rfl, by go_grown⟩
    · have b' : ¬ r < 1000 := by omega
      go_enter Try.func11, Try.ntmps11
      go_wp2_with fail
      go_returns
      exact ⟨rfl, by go_grown⟩
  · rw [if_neg b, if_neg b]
    have b1 : ¬ r < 1000 := fun h => b (.inl h)
    have b2 : ¬ 1000000 < r := fun h => b (.inr h)
    clear b
    by_cases f : far v
    · have ku := usual_spec v false (by unfold far at f; symm; rw [decide_eq_false_iff_not]; omega)
      rw [if_pos f, if_pos f]
      clear kp f
      go_enter Try.func11, Try.ntmps11
      go_wp2_with fail
      refine (ku _).mono ?_
      rintro e w1 ⟨rfl, rfl⟩
      go_wp2_with fail
      go_returns
      exact ⟨rfl, by go_grown⟩
    · have ku := usual_spec v true (by unfold far at f; symm; rw [decide_eq_true_iff]; omega)
      rw [if_neg f, if_neg f]
      clear f
      generalize partV v 1000000 r = pv at *
      generalize partE v 1000000 r = pe at *
      go_enter Try.func11, Try.ntmps11
      go_wp2_with fail
      refine (ku _).mono ?_
      rintro e w1 ⟨rfl, rfl⟩
      go_wp2_with fail
      refine (kp _).mono ?_
      rintro e w1 ⟨rfl, h1⟩
      go_wp2_with fail
      go_returns
      exact ⟨rfl, h1⟩
end Go.Proofs.Ytedpbdcbbfofoaa
