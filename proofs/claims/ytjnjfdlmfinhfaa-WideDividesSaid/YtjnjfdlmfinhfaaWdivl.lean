/- WideDivides: the quotient times the divisor and what is left is the number again. -/
import Derived.Test.YtjnjfdlmfinhfaaWdivz
import Derived.Test.YtjnjfdlmfinhfaaWdivf
import Derived.Test.YtjnjfdlmfinhfaaWdivg
import Derived.Test.YtjnjfdlmfinhfaaWdivh
namespace Go.Proofs.Ytjnjfdlmfinhfaa
set_option linter.unusedVariables false
open Go.RowKit W
theorem quo_back (x y : Int) (fx : Fits x) : Fits (Int.tdiv x y * y) ∧ Int.tdiv x y * y + Int.tmod x y = x := by
  have e := Int.tmod_add_mul_tdiv x y
  rw [Int.mul_comm] at e
  have r0 : ab (Int.tmod x y) ≤ ab x ∧ (0 ≤ x → 0 ≤ Int.tmod x y) ∧ (x < 0 → Int.tmod x y ≤ 0) := by
    rw [tmod_sg]
    have h1 : ab y ≠ 0 → 0 ≤ ab x % ab y := fun h => Int.emod_nonneg (ab x) h
    have h2 : ab x % ab y ≤ ab x := by
      by_cases z : ab y = 0
      · rw [z, Int.emod_zero]; omega
      · have := Int.mul_ediv_add_emod (ab x) (ab y)
        have : 0 ≤ ab y * (ab x / ab y) := Int.mul_nonneg (ab_nonneg y) (Int.ediv_nonneg (ab_nonneg x) (ab_nonneg y))
        omega
    have h3 : 0 ≤ ab x % ab y := by
      by_cases z : ab y = 0
      · rw [z, Int.emod_zero]; exact ab_nonneg x
      · exact h1 z
    generalize ab x % ab y = m at *
    refine ⟨?_, fun h => ?_, fun h => ?_⟩
    · have : ab (sg (decide (x < 0)) m) = m := by unfold sg ab; split <;> split <;> omega
      rw [this]; exact h2
    · rw [decide_eq_false (show ¬ x < 0 by omega)]; exact h3
    · rw [decide_eq_true h]; show -m ≤ 0; omega
  obtain ⟨a, b, c⟩ := r0
  obtain ⟨f1, f2⟩ := fx
  generalize Int.tdiv x y * y = p at *
  generalize Int.tmod x y = r at *
  refine ⟨?_, by omega⟩
  unfold ab at a
  by_cases h : x < 0
  · have := c h
    rw [if_pos h] at a
    exact ⟨by omega, by split at a <;> omega⟩
  · have := b (by omega)
    rw [if_neg h] at a
    exact ⟨by split at a <;> omega, by omega⟩
theorem tmod_sign (x y : Int) (h : Int.tmod x y ≠ 0) : cmpI (Int.tmod x y) 0 = cmpI x 0 := by
  rw [tmod_sg] at h ⊢
  have m0 : 0 ≤ ab x % ab y := by
    by_cases z : ab y = 0
    · rw [z, Int.emod_zero]; exact ab_nonneg x
    · exact Int.emod_nonneg _ z
  generalize hm : ab x % ab y = m at *
  by_cases n : x < 0
  · rw [decide_eq_true n] at h ⊢
    have : m ≠ 0 := fun e => h (by rw [e]; rfl)
    rw [cmp_lt n]; exact cmp_lt (by show -m < 0; omega)
  · rw [decide_eq_false n] at h ⊢
    have hm0 : m ≠ 0 := fun e => h (by rw [e]; rfl)
    have xp : 0 < x := by
      by_cases z : x = 0
      · exfalso; apply hm0; rw [← hm, z]; show (ab 0) % ab y = 0; rw [show ab 0 = 0 by decide]; exact Int.zero_emod _
      · omega
    rw [cmp_gt xp]; exact cmp_gt (by show 0 < m; omega)
theorem tmod_lt (x y : Int) (h : y ≠ 0) : ab (Int.tmod x y) < ab y := by
  rw [tmod_sg]
  have p := ab_gt0 h
  have a := Int.emod_nonneg (ab x) (show ab y ≠ 0 by omega)
  have b := Int.emod_lt_of_pos (ab x) p
  generalize ab x % ab y = m at *
  have : ab (sg (decide (x < 0)) m) = m := by unfold sg ab; split <;> split <;> omega
  rw [this]; exact b
theorem not_fits_quo {x y : Int} (fx : Fits x) (fy : Fits y) (h : y ≠ 0) (n : ¬ Fits (Int.tdiv x y)) : x = -170141183460469231731687303715884105728 ∧ y = -1 := by
  have e := tdiv_sg x y
  have p := ab_gt0 h
  have q0 : 0 ≤ ab x / ab y := Int.ediv_nonneg (ab_nonneg x) (by omega)
  have q1 : ab x / ab y ≤ ab x := Int.ediv_le_self _ (ab_nonneg x)
  have ax := ab_le fx
  by_cases o : ab y = 1
  · rw [o, Int.ediv_one] at e
    rw [e] at n
    have : ab x = 170141183460469231731687303715884105728 := by
      by_cases k : ab x = 170141183460469231731687303715884105728
      · exact k
      · exact absurd (sg_fits ax.1 (by omega)) n
    have hx : x = -170141183460469231731687303715884105728 := by obtain ⟨_, _⟩ := fx; unfold ab at this; split at this <;> omega
    refine ⟨hx, ?_⟩
    have hy : y = 1 ∨ y = -1 := by unfold ab at o; split at o <;> omega
    rcases hy with hy | hy
    · exfalso; apply n; rw [hx, hy]; decide
    · exact hy
  · exfalso
    apply n
    have q2 : ab x / ab y < 85070591730234615865843651857942052865 := Int.ediv_lt_of_lt_mul (by omega) (by omega)
    rw [e]
    exact sg_fits q0 (by omega)
theorem V_nz {h l : Int} (i : IsLo l) : V h l = 0 ↔ h = 0 ∧ l = 0 := by obtain ⟨_, _⟩ := i; unfold V; constructor <;> (intro _; omega)
theorem law_WideDivides (a1 a0 b1 b0 : Int) (wa1 : (Lit.int .i64 a1).wf = true) (wa0 : (Lit.int .u64 a0).wf = true) (wb1 : (Lit.int .i64 b1).wf = true) (wb0 : (Lit.int .u64 b0).wf = true) (w : World) :
    Calls Try.prog 13 #[.agg #[.int .i64 a1, .int .u64 a0], .agg #[.int .i64 b1, .int .u64 b0]] w fun e w' => e = .returned (.bool true) ∧ Below w.heap.size w w' := by
  have ia : IsW (a1, a0) := ⟨hi_of_wf wa1, lo_of_wf wa0⟩
  have ib : IsW (b1, b0) := ⟨hi_of_wf wb1, lo_of_wf wb0⟩
  have fa : Fits (V a1 a0) := fits_V ia.a ia.b
  have fb : Fits (V b1 b0) := fits_V ib.a ib.b
  have il : IsLo b0 := ib.b
  by_cases z : V b1 b0 = 0
  · obtain ⟨rfl, rfl⟩ := (V_nz il).1 z
    exact div_zero a1 a0 alive_ok (quo_none a1 a0 0 0 isLo_0 z) w
  have kq := quo_spec a1 a0 b1 b0 ia ib z
  by_cases f : Fits (Int.tdiv (V a1 a0) (V b1 b0))
  · have e1 : quoQ (V a1 a0) (V b1 b0) = Int.tdiv (V a1 a0) (V b1 b0) := if_pos f
    have e2 : quoR (V a1 a0) (V b1 b0) = Int.tmod (V a1 a0) (V b1 b0) := if_pos f
    rw [e1, e2, resE_fits f] at kq
    obtain ⟨fp, back⟩ := quo_back (V a1 a0) (V b1 b0) fa
    have fr := tmod_fits fa fb z
    have sg_ := tmod_sign (V a1 a0) (V b1 b0)
    have lt := tmod_lt (V a1 a0) (V b1 b0) z
    generalize Int.tdiv (V a1 a0) (V b1 b0) = Q at *
    generalize Int.tmod (V a1 a0) (V b1 b0) = R at *
    have wq : IsW (hi Q, lo Q) := ⟨isHi_hi f, isLo_lo _⟩
    have wr : IsW (hi R, lo R) := ⟨isHi_hi fr, isLo_lo _⟩
    have km := mul_spec (hi Q) (lo Q) b1 b0 wq ib
    rw [V_hi_lo] at km
    unfold sumRes at km
    rw [resV_fits fp, resE_fits fp] at km
    have wp : IsW (hi (Q * V b1 b0), lo (Q * V b1 b0)) := ⟨isHi_hi fp, isLo_lo _⟩
    have ka := add_spec (hi (Q * V b1 b0)) (lo (Q * V b1 b0)) (hi R) (lo R) wp wr
    rw [V_hi_lo, V_hi_lo, back] at ka
    unfold sumRes at ka
    rw [resV_fits fa, resE_fits fa, hi_V ia.b, lo_V ia.b] at ka
    have kr := sign_spec (hi R) (lo R) (isLo_lo _)
    rw [V_hi_lo] at kr
    have ks := sign_spec a1 a0 ia.b
    have kx := abs_spec (hi R) (lo R) wr
    rw [V_hi_lo] at kx
    have fx : Fits (ab R) := by
      have := ab_le fb
      have := ab_nonneg R
      exact ⟨by omega, by omega⟩
    unfold sumRes at kx
    rw [resV_fits fx, resE_fits fx] at kx
    have ky := abs_spec b1 b0 ib
    unfold sumRes at ky
    have kc := cmp_spec (hi (ab R)) (lo (ab R)) (hi (resV (ab (V b1 b0)))) (lo (resV (ab (V b1 b0)))) (isLo_lo _) (isLo_lo _)
    rw [V_hi_lo, V_hi_lo] at kc
    have hj : ((resE (ab (V b1 b0)) != 0) = true) ∨ ((resE (ab (V b1 b0)) != 0) = false ∧ cmpI (ab R) (resV (ab (V b1 b0))) < 0) := by
      by_cases fy : Fits (ab (V b1 b0))
      · right
        rw [resE_fits fy, resV_fits fy, cmp_lt lt]
        exact ⟨rfl, by omega⟩
      · left; rw [resE_not fy]; rfl
    have hb : ¬ b1 = 0 ∨ (b1 = 0 ∧ ¬ b0 = 0) := by
      by_cases h : b1 = 0
      · right; exact ⟨h, fun g => z ((V_nz il).2 ⟨h, g⟩)⟩
      · exact .inl h
    by_cases hr : R = 0
    · have cn : (cmpI R 0 != 0) = false := by rw [cmp_eq hr]; rfl
      rcases hb with hb | ⟨rfl, hb⟩
      · rcases hj with hj | ⟨hj, hz⟩
        · exact div_fits_nzo a1 a0 b1 b0 _ _ _ _ _ _ _ _ _ _ _ _ _ _ hb cn hj alive_ok kq km ka kr ks kx ky kc w
        · exact div_fits_nzf a1 a0 b1 b0 _ _ _ _ _ _ _ _ _ _ _ _ _ _ hb cn hj hz alive_ok kq km ka kr ks kx ky kc w
      · rcases hj with hj | ⟨hj, hz⟩
        · exact div_fits_zzo a1 a0 b0 _ _ _ _ _ _ _ _ _ _ _ _ _ _ hb cn hj alive_ok kq km ka kr ks kx ky kc w
        · exact div_fits_zzf a1 a0 b0 _ _ _ _ _ _ _ _ _ _ _ _ _ _ hb cn hj hz alive_ok kq km ka kr ks kx ky kc w
    · have cn : (cmpI R 0 != 0) = true := by
        rcases cmp_cases R 0 with ⟨h, e⟩ | ⟨h, e⟩ | ⟨h, e⟩
        · rw [e]; rfl
        · exact absurd h hr
        · rw [e]; rfl
      rw [← sg_ hr] at ks
      rcases hb with hb | ⟨rfl, hb⟩
      · rcases hj with hj | ⟨hj, hz⟩
        · exact div_fits_nno a1 a0 b1 b0 _ _ _ _ _ _ _ _ _ _ _ _ _ hb cn hj alive_ok kq km ka kr ks kx ky kc w
        · exact div_fits_nnf a1 a0 b1 b0 _ _ _ _ _ _ _ _ _ _ _ _ _ hb cn hj hz alive_ok kq km ka kr ks kx ky kc w
      · rcases hj with hj | ⟨hj, hz⟩
        · exact div_fits_zno a1 a0 b0 _ _ _ _ _ _ _ _ _ _ _ _ _ hb cn hj alive_ok kq km ka kr ks kx ky kc w
        · exact div_fits_znf a1 a0 b0 _ _ _ _ _ _ _ _ _ _ _ _ _ hb cn hj hz alive_ok kq km ka kr ks kx ky kc w
  · obtain ⟨hx, hy⟩ := not_fits_quo fa fb z f
    have e1 : quoQ (V a1 a0) (V b1 b0) = 0 := if_neg f
    have e2 : quoR (V a1 a0) (V b1 b0) = 0 := if_neg f
    rw [e1, e2, resE_not f, show hi 0 = 0 by decide, show lo 0 = 0 by decide] at kq
    have kn := neg_spec a1 a0 ia
    have nf : ¬ Fits (-(V a1 a0)) := by rintro ⟨_, h⟩; omega
    unfold sumRes at kn
    rw [resV_not nf, resE_not nf, show hi 0 = 0 by decide, show lo 0 = 0 by decide] at kn
    have ko := wof_spec (-1) ⟨by omega, by omega⟩
    unfold wideRes at ko
    rw [← hy, hi_V il, lo_V il] at ko
    have b1n : ¬ b1 = 0 := by obtain ⟨_, _⟩ := il; unfold V at hy; omega
    rw [hy] at ko
    exact div_over a1 a0 b1 b0 b1n alive_ok kq kn ko w
end Go.Proofs.Ytjnjfdlmfinhfaa
