/- The reference of layer 2: Times. -/
import Derived.Test.YtdjehbagnkfkpaaDoorMplus
import Derived.Test.YtdjehbagnkfkpaaDoorBym
import Derived.Laws.BitsAllLaws
import Derived.Test.YtdjehbagnkfkpaaDoorHid
namespace Go.Proofs.YtdjehbagnkfkpaaDoor
set_option linter.unusedVariables false
open Go.RowKit W
abbrev mgV (x : Int) : Value := magV (mh x) (ml x) (mo x)
theorem plus_mg (x y : Int) (hx : 0 ≤ x) (hy : 0 ≤ y) (w : World) :
    Calls Tryd.prog 47 #[mgV x, mgV y] w fun e w' => e = .returned (mgV (x + y)) ∧ Below w.heap.size w w' := by
  have p := plus_spec (mh x) (ml x) (mh y) (ml y) (mo x) (mo y) (isLo_mh x) (isLo_ml x) (isLo_mh y) (isLo_ml y) w
  obtain ⟨e1, e2, e3⟩ := mag_plus hx hy
  unfold plusO at p
  rw [e1, e2, e3] at p
  exact p
theorem and_one (x : Int) (a : 0 ≤ x) (b : x < 18446744073709551616) : bits .and .u64 x 1 = x % 2 := by
  rw [u64_and x 1 a b (by omega) (by omega)]
  obtain ⟨m, rfl⟩ := Int.eq_ofNat_of_zero_le a
  have : ((m : Int).toNat &&& (1 : Int).toNat) = m % 2 := by
    show m &&& 1 = m % 2
    exact Nat.and_one_is_mod m
  rw [this]; omega
theorem shr_lo {n : Int} (j : IsLo n) (k : Nat) : IsLo (n / 2 ^ k) := by
  obtain ⟨a, b⟩ := j
  have p : (0 : Int) < 2 ^ k := Int.pow_pos (by omega)
  have := Int.ediv_le_self (2 ^ k) a
  exact ⟨Int.ediv_nonneg a (by omega), by omega⟩
/-- The loop's boxes. -/
structure TimesInv (w wr : World) (a s : Int) : Prop where
  a : Box3 wr w.heap.size (.int .u64 (mh a)) (.int .u64 (ml a)) (.bool (mo a))
  r : Box3 wr (w.heap.size + 1) (.int .u64 0) (.int .u64 0) (.bool false)
  s : Box3 wr (w.heap.size + 1 + 1) (.int .u64 (mh s)) (.int .u64 (ml s)) (.bool (mo s))
  below : Below w.heap.size w wr
theorem TimesInv.later {w wr w' : World} {a s : Int} (h : TimesInv w wr a s) (k : Below wr.heap.size wr w') : TimesInv w w' a s :=
  ⟨h.a.later k, h.r.later k, h.s.later k, h.below.trans (k.mono h.below.size)⟩
set_option maxHeartbeats 2000000 in
theorem times_mg (a n : Int) (ha : 0 ≤ a) (j : IsLo n) (w : World) :
    Calls Tryd.prog 48 #[mgV a, .int .u64 n] w fun e w' => e = .returned (mgV (a * n)) ∧ Below w.heap.size w w' := by
  go_enter Tryd.func48, Tryd.ntmps48
  go_wp2_with fail
  go_loopw [6] (fun i wr => ∃ k : Nat, k ≤ 64 ∧ i = .int .i64 ((k : Int) - 1) ∧ TimesInv w wr a (a * (n / 2 ^ k))) (fun i _ => (intOf i + 1).toNat)
  case atStart =>
    have e : n / 2 ^ 64 = 0 := by obtain ⟨_, _⟩ := j; omega
    refine ⟨64, by omega, rfl, ?_⟩
    rw [e, Int.mul_zero]
    refine ⟨⟨?_, ?_, ?_, ?_, ?_, ?_, ?_⟩, ⟨?_, ?_, ?_, ?_, ?_, ?_, ?_⟩, ⟨?_, ?_, ?_, ?_, ?_, ?_, ?_⟩, ?_⟩
    all_goals first | (go_grown; done) | (simp [go_sem]; done) | (simp [go_sem]; decide) | (simp; omega)
  case round =>
    obtain ⟨k, hk, rfl, inv⟩ := hrel
    rcases k with _ | k
    · obtain ⟨⟨a0, a1, a2, f0, f1, f2, fz⟩, ⟨r0, r1, r2, g0, g1, g2, gz⟩, ⟨s0, s1, s2, h0, h1, h2, hz⟩, bl⟩ := inv
      rw [Int.pow_zero, Int.ediv_one] at s0 s1 s2
      have e0 : ((0 : Nat) : Int) - 1 = -1 := by omega
      rw [e0]
      go_wp2_with fail
      refine bodyPost_ret (by simp [results, Tryd.results48, go_sem, r0, r1, r2]; try rfl) rfl ?_
      exact ⟨rfl, by go_grown⟩
    · have ei : ((k + 1 : Nat) : Int) - 1 = k := by omega
      rw [ei]
      clear ei
      have tb := times_bit a n k
      obtain ⟨s, hs⟩ : ∃ s, s = a * (n / 2 ^ (k + 1)) := ⟨_, rfl⟩
      rw [← hs] at tb inv
      have s0 : 0 ≤ s := by rw [hs]; exact Int.mul_nonneg ha (Int.ediv_nonneg j.a (by exact Int.le_of_lt (Int.pow_pos (by omega))))
      have c1 := plus_mg s s s0 s0
      have c2 := plus_mg (s + s) a (by omega) ha
      have jm := shr_lo j k
      have ao := and_one (n / 2 ^ k) jm.a jm.b
      have kl : (k : Int) < 64 := by omega
      clear hs s0 jm
      by_cases q : n / 2 ^ k % 2 = 1
      · rw [if_pos q] at tb
        have q1 : (bits .and .u64 (n / 2 ^ k) 1 == 1) = true := by rw [ao, q]; rfl
        have TB := hide tb
        clear tb q ao
        have I := hide inv
        obtain ⟨⟨a0, a1, a2, f0, f1, f2, fz⟩, ⟨r0, r1, r2, g0, g1, g2, gz⟩, ⟨s0, s1, s2, h0, h1, h2, hz⟩, bl⟩ := inv
        go_wp2_with fail
        refine (c1 _).mono ?_
        rintro e w1 ⟨rfl, hb⟩
        have J := I.out.later hb
        have JJ := hide J
        clear a0 a1 a2 f0 f1 f2 fz r0 r1 r2 g0 g1 g2 gz s0 s1 s2 h0 h1 h2 hz bl hb I
        obtain ⟨⟨a0, a1, a2, f0, f1, f2, fz⟩, ⟨r0, r1, r2, g0, g1, g2, gz⟩, ⟨s0, s1, s2, h0, h1, h2, hz⟩, bl⟩ := J
        go_wp2_with fail
        refine (c2 _).mono ?_
        rintro e w2 ⟨rfl, hb⟩
        have J : TimesInv w w2 a (s + s) := by
          refine TimesInv.later ⟨⟨?_, ?_, ?_, ?_, ?_, ?_, ?_⟩, ⟨?_, ?_, ?_, ?_, ?_, ?_, ?_⟩, ⟨?_, ?_, ?_, ?_, ?_, ?_, ?_⟩, ?_⟩ hb
          all_goals first | (go_grown; done) | (simp [go_sem, a0, a1, a2, r0, r1, r2, s0, s1, s2]; done) | (simp; omega)
        clear a0 a1 a2 f0 f1 f2 fz r0 r1 r2 g0 g1 g2 gz s0 s1 s2 h0 h1 h2 hz bl hb JJ
        obtain ⟨⟨a0, a1, a2, f0, f1, f2, fz⟩, ⟨r0, r1, r2, g0, g1, g2, gz⟩, ⟨s0, s1, s2, h0, h1, h2, hz⟩, bl⟩ := J
        go_wp2_with fail
        go_roundw
        case rel =>
          refine ⟨k, by omega, by go_num, ?_⟩
          rw [TB.out]
          refine ⟨⟨?_, ?_, ?_, ?_, ?_, ?_, ?_⟩, ⟨?_, ?_, ?_, ?_, ?_, ?_, ?_⟩, ⟨?_, ?_, ?_, ?_, ?_, ?_, ?_⟩, ?_⟩
          all_goals first | (go_grown; done) | (simp [go_sem, a0, a1, a2, r0, r1, r2, s0, s1, s2]; done) | (simp; omega)
        case measure => simp [intOf]
      · rw [if_neg q, Int.add_zero] at tb
        have q1 : (bits .and .u64 (n / 2 ^ k) 1 == 1) = false := by rw [ao]; simpa using q
        have TB := hide tb
        clear tb q ao
        have I := hide inv
        obtain ⟨⟨a0, a1, a2, f0, f1, f2, fz⟩, ⟨r0, r1, r2, g0, g1, g2, gz⟩, ⟨s0, s1, s2, h0, h1, h2, hz⟩, bl⟩ := inv
        go_wp2_with fail
        refine (c1 _).mono ?_
        rintro e w1 ⟨rfl, hb⟩
        have J := I.out.later hb
        clear a0 a1 a2 f0 f1 f2 fz r0 r1 r2 g0 g1 g2 gz s0 s1 s2 h0 h1 h2 hz bl hb I
        obtain ⟨⟨a0, a1, a2, f0, f1, f2, fz⟩, ⟨r0, r1, r2, g0, g1, g2, gz⟩, ⟨s0, s1, s2, h0, h1, h2, hz⟩, bl⟩ := J
        go_wp2_with fail
        go_roundw
        case rel =>
          refine ⟨k, by omega, by go_num, ?_⟩
          rw [TB.out]
          refine ⟨⟨?_, ?_, ?_, ?_, ?_, ?_, ?_⟩, ⟨?_, ?_, ?_, ?_, ?_, ?_, ?_⟩, ⟨?_, ?_, ?_, ?_, ?_, ?_, ?_⟩, ?_⟩
          all_goals first | (go_grown; done) | (simp [go_sem, a0, a1, a2, r0, r1, r2, s0, s1, s2]; done) | (simp; omega)
        case measure => simp [intOf]
end Go.Proofs.YtdjehbagnkfkpaaDoor
