/- The reference of layer 2: By. -/
import Derived.Test.YtdjehbagnkfkpaaDoorTimes
import Derived.Test.YtdjehbagnkfkpaaDoorWrootm
namespace Go.Proofs.YtdjehbagnkfkpaaDoor
set_option linter.unusedVariables false
open Go.RowKit W
set_option maxHeartbeats 2000000 in
theorem by_none (h l n : Int) (o : Bool) (j : n = 0 ∨ 9223372036854775808 ≤ n) (w : World) :
    Calls Tryd.prog 46 #[magV h l o, .int .u64 n] w fun e w' => e = .returned (.tuple #[magV 0 0 false, .int .u64 0]) ∧ Below w.heap.size w w' := by
  go_enter Tryd.func46, Tryd.ntmps46
  rcases j with rfl | j
  · go_wp2_with fail
    go_returns
    exact ⟨rfl, by go_grown⟩
  · have j1 : (n == 0) = false := by simp; omega
    go_wp2_with fail
    go_returns
    exact ⟨rfl, by go_grown⟩
theorem isLo_sum {h l : Int} {k : Nat} (hk : k < 64) (j : IsLo l) (z : V h l % 2 ^ (k + 1) = 0) : l + 2 ^ k < 18446744073709551616 := by
  have f := free_low hk z
  have p : (0 : Int) < 2 ^ k := Int.pow_pos (by omega)
  have d := Int.dvd_of_emod_eq_zero f
  obtain ⟨c, hc⟩ := d
  have e : (18446744073709551616 : Int) = 2 ^ (k + 1) * 2 ^ (63 - k) := by
    rw [← Int.pow_add, show k + 1 + (63 - k) = 64 by omega]; decide
  have q : (2 : Int) ^ (k + 1) = 2 ^ k * 2 := Int.pow_succ _ _
  have lt : c < 2 ^ (63 - k) := by
    have h1 := j.b
    rw [hc, e] at h1
    exact Int.lt_of_mul_lt_mul_left h1 (by omega)
  have le : 2 ^ (k + 1) * (c + 1) ≤ 2 ^ (k + 1) * 2 ^ (63 - k) := Int.mul_le_mul_of_nonneg_left (by omega) (by omega)
  rw [← e, Int.mul_add, ← hc] at le
  omega
theorem wrap_pow (k : Nat) (hk : k < 64) : IntKind.u64.wrap (2 ^ k) = 2 ^ k := by
  have p : (0 : Int) < 2 ^ k := Int.pow_pos (by omega)
  have q : (2 : Int) ^ k < 18446744073709551616 := by
    have e : (2 : Int) ^ k = ((2 ^ k : Nat) : Int) := by simp
    have l : 2 ^ k ≤ 2 ^ 63 := Nat.pow_le_pow_right (by omega) (by omega)
    omega
  rw [IntKind.wrap_u64]; exact Int.emod_eq_of_lt (by omega) q
/-- The loop's boxes. -/
structure ByInv (w wr : World) (h l a b : Int) (o : Bool) : Prop where
  m : Box3 wr w.heap.size (.int .u64 h) (.int .u64 l) (.bool o)
  r : Box3 wr (w.heap.size + 1) (.int .u64 0) (.int .u64 0) (.bool false)
  q : Box3 wr (w.heap.size + 1 + 1) (.int .u64 a) (.int .u64 b) (.bool false)
  below : Below w.heap.size w wr
set_option maxHeartbeats 4000000 in
theorem by_some (h l n : Int) (o : Bool) (ih : IsLo h) (il : IsLo l) (n0 : 0 < n) (n1 : n < 9223372036854775808) (w : World) :
    Calls Tryd.prog 46 #[magV h l o, .int .u64 n] w fun e w' => e = .returned (.tuple #[magV (hi (V h l / n)) (lo (V h l / n)) false, .int .u64 (V h l % n)]) ∧ Below w.heap.size w w' := by
  have j1 : (n == 0) = false := by simp; omega
  have j2 : ¬ 9223372036854775808 ≤ n := by omega
  have A0 : 0 ≤ V h l := by obtain ⟨_, _⟩ := ih; obtain ⟨_, _⟩ := il; unfold V; omega
  have A1 : V h l < 340282366920938463463374607431768211456 := by obtain ⟨_, _⟩ := ih; obtain ⟨_, _⟩ := il; unfold V; omega
  have HA := hide (And.intro A0 A1)
  clear A0 A1
  go_enter Tryd.func46, Tryd.ntmps46
  go_wp2_with fail
  go_loopw [7, 8] (fun r i wr => ∃ (k : Nat) (a b x : Int), k ≤ 128 ∧ i = .int .i64 ((k : Int) - 1) ∧ r = .int .u64 x ∧ IsLo a ∧ IsLo b ∧ ByAt (V h l) n (V a b) x k ∧ ByInv w wr h l a b o) (fun _ i _ => (intOf i + 1).toNat)
  case atStart =>
    refine ⟨128, 0, 0, 0, by omega, rfl, rfl, isLo_0, isLo_0, ByAt.start n0 HA.out.1 HA.out.2, ⟨⟨?_, ?_, ?_, ?_, ?_, ?_, ?_⟩, ⟨?_, ?_, ?_, ?_, ?_, ?_, ?_⟩, ⟨?_, ?_, ?_, ?_, ?_, ?_, ?_⟩, ?_⟩⟩
    all_goals first | (go_grown; done) | (simp [go_sem]; done) | (simp; omega)
  case round =>
    obtain ⟨k, a, b, x, hk, rfl, rfl, ia, ib, at_, inv⟩ := hrel
    rcases k with _ | k
    · obtain ⟨q1, q2⟩ := at_.zero
      have E : Hid (V h l / n = V a b ∧ V h l % n = x ∧ IsLo b) := ⟨q1.symm, q2.symm, ib⟩
      obtain ⟨⟨a0, a1, a2, f0, f1, f2, fz⟩, ⟨r0, r1, r2, g0, g1, g2, gz⟩, ⟨s0, s1, s2, h0, h1, h2, hz⟩, bl⟩ := inv
      have e0 : ((0 : Nat) : Int) - 1 = -1 := by omega
      rw [e0]
      clear at_ q1 q2 ia ib
      go_wp2_with fail
      refine bodyPost_ret (by simp [results, Tryd.results46, go_sem, r0, r1, r2]; try rfl) rfl ?_
      refine ⟨?_, by go_grown⟩
      rw [E.out.1, E.out.2.1, hi_V E.out.2.2, lo_V E.out.2.2]
    · have ei : ((k + 1 : Nat) : Int) - 1 = k := by omega
      rw [ei]
      clear ei
      have x0 := at_.a
      have x1 := at_.b
      obtain ⟨bt, hbt⟩ : ∃ bt, bt = V h l / 2 ^ k % 2 := ⟨_, rfl⟩
      obtain ⟨y, hy⟩ : ∃ y, y = x * 2 + bt := ⟨_, rfl⟩
      have w1 : IntKind.u64.wrap (x * 2) = x * 2 := by rw [IntKind.wrap_u64]; omega
      have w2 : IntKind.u64.wrap (x * 2 + bt) = y := by rw [IntKind.wrap_u64, ← hy]; omega
      have no := at_.no
      have yes := at_.yes
      have al := at_.m
      rw [← hbt, ← hy] at no yes
      have NO := hide no
      have AT := hide at_
      clear no at_
      by_cases hlt : k < 64
      · have kl : (k : Int) < 64 := by omega
        have kn : k % 64 = k := Nat.mod_eq_of_lt hlt
        have ba : bits .and .u64 (l / 2 ^ k) 1 = bt := by rw [hbt, bit_low h l k hlt]; exact and_one _ (shr_lo il k).a (shr_lo il k).b
        by_cases g : n ≤ y
        · have w3 : IntKind.u64.wrap (y - n) = y - n := by rw [IntKind.wrap_u64]; omega
          have at' := yes g
          rw [set_low] at at'
          have or_ : bits .or .u64 b (2 ^ k) = b + 2 ^ k := root_or b k (by omega) ib.a ib.b (free_low hlt al)
          have or_2 : bits .or .u64 b (IntKind.u64.wrap (2 ^ k)) = b + 2 ^ k := by rw [wrap_pow k (by omega)]; exact or_
          have l1 := at'.le n0 HA.out.2
          have ib' : IsLo (b + 2 ^ k) := by
            have p : (0 : Int) < 2 ^ k := Int.pow_pos (by omega)
            have i1 := ia.a
            have i2 := ib.a
            have i3 := ib.b
            have := ib.b
            exact ⟨by omega, isLo_sum hlt ib al⟩
          have AT' := hide at'
          clear hbt hy al yes at' NO AT l1
          obtain ⟨⟨a0, a1, a2, f0, f1, f2, fz⟩, ⟨r0, r1, r2, g0, g1, g2, gz⟩, ⟨s0, s1, s2, h0, h1, h2, hz⟩, bl⟩ := inv
          go_wp2_with fail
          go_roundw
          case rel =>
            refine ⟨k, a, b + 2 ^ k, y - n, by omega, by go_num, rfl, ia, ib', AT'.out, ⟨⟨?_, ?_, ?_, ?_, ?_, ?_, ?_⟩, ⟨?_, ?_, ?_, ?_, ?_, ?_, ?_⟩, ⟨?_, ?_, ?_, ?_, ?_, ?_, ?_⟩, ?_⟩⟩
            all_goals first | assumption | (go_grown; done) | (simp [go_sem, a0, a1, a2, r0, r1, r2, s0, s1, s2]; done) | (simp; omega)
          case measure => simp [intOf]
        · have g' : y < n := by omega
          have at' := NO.out g'
          have AT' := hide at'
          clear hbt hy al yes at' NO AT
          obtain ⟨⟨a0, a1, a2, f0, f1, f2, fz⟩, ⟨r0, r1, r2, g0, g1, g2, gz⟩, ⟨s0, s1, s2, h0, h1, h2, hz⟩, bl⟩ := inv
          go_wp2_with fail
          go_roundw
          case rel =>
            refine ⟨k, a, b, y, by omega, by go_num, rfl, ia, ib, AT'.out, ⟨⟨?_, ?_, ?_, ?_, ?_, ?_, ?_⟩, ⟨?_, ?_, ?_, ?_, ?_, ?_, ?_⟩, ⟨?_, ?_, ?_, ?_, ?_, ?_, ?_⟩, ?_⟩⟩
            all_goals first | assumption | (go_grown; done) | (simp [go_sem, a0, a1, a2, f0, f1, f2, fz, r0, r1, r2, g0, g1, g2, gz, s0, s1, s2, h0, h1, h2, hz]; done) | (simp; omega)
          case measure => simp [intOf]
      · have kl : 64 ≤ (k : Int) := by omega
        obtain ⟨m, hm⟩ : ∃ m, m = k - 64 := ⟨_, rfl⟩
        have ml : (m : Int) < 64 := by omega
        have kn : k % 64 = m := by omega
        have ba : bits .and .u64 (h / 2 ^ m) 1 = bt := by rw [hbt, bit_high h l k (by omega) il, ← hm]; exact and_one _ (shr_lo ih m).a (shr_lo ih m).b
        have MK := hide hm
        clear hm
        by_cases g : n ≤ y
        · have w3 : IntKind.u64.wrap (y - n) = y - n := by rw [IntKind.wrap_u64]; omega
          have at' := yes g
          rw [set_high _ _ _ (by (have := MK.out; omega)), show k - 64 = m by (have := MK.out; omega)] at at'
          have or_ : bits .or .u64 a (2 ^ m) = a + 2 ^ m := root_or a m (by (have := MK.out; omega)) ia.a ia.b (by have := free_high ib (by (have := MK.out; omega)) al; rwa [show k - 64 + 1 = m + 1 by (have := MK.out; omega)] at this)
          have or_2 : bits .or .u64 a (IntKind.u64.wrap (2 ^ m)) = a + 2 ^ m := by rw [wrap_pow m (by omega)]; exact or_
          have l1 := at'.le n0 HA.out.2
          have ib' : IsLo (a + 2 ^ m) := by
            have p : (0 : Int) < 2 ^ m := Int.pow_pos (by (have := MK.out; omega))
            have i1 := ia.a
            have i2 := ib.a
            have i3 := ib.b
            have := ia.b
            exact ⟨by (have := MK.out; omega), by unfold V at l1; (have := MK.out; omega)⟩
          have AT' := hide at'
          clear hbt hy al yes at' NO AT l1
          obtain ⟨⟨a0, a1, a2, f0, f1, f2, fz⟩, ⟨r0, r1, r2, g0, g1, g2, gz⟩, ⟨s0, s1, s2, h0, h1, h2, hz⟩, bl⟩ := inv
          go_wp2_with fail
          go_roundw
          case rel =>
            refine ⟨k, a + 2 ^ m, b, y - n, by (have := MK.out; omega), by go_num, rfl, ib', ib, AT'.out, ⟨⟨?_, ?_, ?_, ?_, ?_, ?_, ?_⟩, ⟨?_, ?_, ?_, ?_, ?_, ?_, ?_⟩, ⟨?_, ?_, ?_, ?_, ?_, ?_, ?_⟩, ?_⟩⟩
            all_goals first | assumption | (go_grown; done) | (simp [go_sem, a0, a1, a2, r0, r1, r2, s0, s1, s2]; done) | (simp; (have := MK.out; omega))
          case measure => simp [intOf]
        · have g' : y < n := by (have := MK.out; omega)
          have at' := NO.out g'
          have AT' := hide at'
          clear hbt hy al yes at' NO AT
          obtain ⟨⟨a0, a1, a2, f0, f1, f2, fz⟩, ⟨r0, r1, r2, g0, g1, g2, gz⟩, ⟨s0, s1, s2, h0, h1, h2, hz⟩, bl⟩ := inv
          go_wp2_with fail
          go_roundw
          case rel =>
            refine ⟨k, a, b, y, by (have := MK.out; omega), by go_num, rfl, ia, ib, AT'.out, ⟨⟨?_, ?_, ?_, ?_, ?_, ?_, ?_⟩, ⟨?_, ?_, ?_, ?_, ?_, ?_, ?_⟩, ⟨?_, ?_, ?_, ?_, ?_, ?_, ?_⟩, ?_⟩⟩
            all_goals first | assumption | (go_grown; done) | (simp [go_sem, a0, a1, a2, f0, f1, f2, fz, r0, r1, r2, g0, g1, g2, gz, s0, s1, s2, h0, h1, h2, hz]; done) | (simp; (have := MK.out; omega))
          case measure => simp [intOf]
end Go.Proofs.YtdjehbagnkfkpaaDoor
