/- math/bits.Div64, at every divisor above the high word: the walk. -/
import Derived.Test.YtdjehbagnkfkpaaDoorLz
import Derived.Test.YtdjehbagnkfkpaaDoorDivm
import Derived.Laws.MathBits
namespace Go.Proofs.YtdjehbagnkfkpaaDoor
set_option linter.unusedVariables false
open Go.RowKit W
/-- What a digit's loop has in hand. -/
structure Dig (u d v n1 n0 q r : Int) : Prop where
  n : Norm v n1 n0
  u0 : 0 ≤ u
  u1 : u < v
  d0 : 0 ≤ d
  d1 : d < 4294967296
  t : Try u d v n1 q r
theorem wrap_in {x : Int} (a : 0 ≤ x) (b : x < 18446744073709551616) : IntKind.u64.wrap x = x := by rw [IntKind.wrap_u64]; exact Int.emod_eq_of_lt a b
/-- A digit's test, as it stands. -/
theorem Dig.test {u d v n1 n0 q r : Int} (g : Dig u d v n1 n0 q r) :
    IntKind.u64.wrap (4294967296 * r) = 4294967296 * r ∧ ((4294967296 ≤ q ∨ IntKind.u64.wrap (4294967296 * r + d) < IntKind.u64.wrap (q * n0)) ↔ (4294967296 ≤ q ∨ 4294967296 * r + d < q * n0)) := by
  have := g.t.r0; have := g.t.r1; have := g.d0; have := g.d1
  have w1 : IntKind.u64.wrap (4294967296 * r + d) = 4294967296 * r + d := wrap_in (by omega) (by omega)
  refine ⟨wrap_in (by omega) (by omega), ?_⟩
  rw [w1]
  by_cases h : 4294967296 ≤ q
  · simp [h]
  · have a := Int.mul_nonneg g.t.q0 g.n.c
    have b : q * n0 ≤ 4294967295 * 4294967295 := Int.mul_le_mul (by omega) (by have := g.n.d; omega) g.n.c (by omega)
    rw [wrap_in a (by omega)]
theorem Dig.stop {u d v n1 n0 q r : Int} (g : Dig u d v n1 n0 q r) (h : 4294967296 ≤ q ∨ 4294967296 * r + d < q * n0) (hr : ¬ r + n1 < 4294967296) : q - 1 = (u * 4294967296 + d) / v :=
  g.t.stop g.n g.u1 g.d0 g.d1 h (by omega)
theorem Dig.done {u d v n1 n0 q r : Int} (g : Dig u d v n1 n0 q r) (h : ¬ (4294967296 ≤ q ∨ 4294967296 * r + d < q * n0)) : q = (u * 4294967296 + d) / v :=
  g.t.done g.n (by omega)
theorem Dig.next {u d v n1 n0 q r : Int} (g : Dig u d v n1 n0 q r) (h : 4294967296 ≤ q ∨ 4294967296 * r + d < q * n0) : IntKind.u64.wrap (q - 1) = q - 1 ∧ IntKind.u64.wrap (r + n1) = r + n1 ∧ 1 ≤ q := by
  have a := g.t.more g.n g.u1 g.d1 h
  have b := digit_nonneg g.u0 g.d0 g.n.pos
  have := g.t.q1; have := g.t.r0; have := g.t.r1; have := g.n.a; have := g.n.b
  exact ⟨wrap_in (by omega) (by omega), wrap_in (by omega) (by omega), by omega⟩
theorem Dig.again {u d v n1 n0 q r : Int} (g : Dig u d v n1 n0 q r) (h : 4294967296 ≤ q ∨ 4294967296 * r + d < q * n0) (hr : r + n1 < 4294967296) : Dig u d v n1 n0 (q - 1) (r + n1) :=
  ⟨g.n, g.u0, g.u1, g.d0, g.d1, g.t.again g.n g.u0 g.u1 g.d0 g.d1 h hr⟩
set_option maxHeartbeats 8000000 in
theorem div64_walk (h l y v n1 n0 u x x1 x0 q r qn Q1 a1 a2 a3 t q2 c1 r2 Q0 b1 b2 b3 b4 b5 Z1 Z2 : Int) (s : Nat) (m1 : (y == 0) = false) (m2 : ¬ y ≤ h) (m3 : (h == 0) = false) (hs : s < 64) (nz : ¬ n1 = 0)
    (ks : ∀ w, Calls Tryd.prog 96 #[.int .u64 y] w fun e w' => e = .returned (.int .i64 s) ∧ w = w')
    (e1 : IntKind.u64.wrap (y * 2 ^ s) = v) (e2 : v / 4294967296 = n1) (e3 : bits .and .u64 v 4294967295 = n0) (e4 : bits .or .u64 (IntKind.u64.wrap (h * 2 ^ s)) (l / 2 ^ (64 - s)) = u)
    (e5 : IntKind.u64.wrap (l * 2 ^ s) = x) (e6 : x / 4294967296 = x1) (e7 : bits .and .u64 x 4294967295 = x0) (e8 : IntKind.u64.wrap (u.tdiv n1) = q) (e9 : IntKind.u64.wrap (q * n1) = qn) (e10 : IntKind.u64.wrap (u - qn) = r)
    (f1 : IntKind.u64.wrap (u * 4294967296) = a1) (f2 : IntKind.u64.wrap (a1 + x1) = a2) (f3 : IntKind.u64.wrap (Q1 * v) = a3) (f4 : IntKind.u64.wrap (a2 - a3) = t)
    (f5 : IntKind.u64.wrap (t.tdiv n1) = q2) (f6 : IntKind.u64.wrap (q2 * n1) = c1) (f7 : IntKind.u64.wrap (t - c1) = r2)
    (g1 : IntKind.u64.wrap (Q1 * 4294967296) = b1) (g2 : IntKind.u64.wrap (b1 + Q0) = Z1) (g3 : IntKind.u64.wrap (t * 4294967296) = b2) (g4 : IntKind.u64.wrap (b2 + x0) = b3) (g5 : IntKind.u64.wrap (Q0 * v) = b4) (g6 : IntKind.u64.wrap (b3 - b4) = b5) (g7 : b5 / 2 ^ s = Z2)
    (T1 : Hid (Dig u x1 v n1 n0 q r)) (H1 : Hid (Q1 = (u * 4294967296 + x1) / v)) (T2 : Hid (Dig t x0 v n1 n0 q2 r2)) (H0 : Hid (Q0 = (t * 4294967296 + x0) / v)) (w : World) :
    Calls Tryd.prog 85 #[.int .u64 h, .int .u64 l, .int .u64 y] w fun e w' => e = .returned (.tuple #[.int .u64 Z1, .int .u64 Z2]) ∧ Below w.heap.size w w' := by
  go_enter Tryd.func85, Tryd.ntmps85
  go_wp2_with fail
  refine (ks _).mono ?_
  rintro e w1 ⟨rfl, rfl⟩
  go_wp2_with fail
  go_loop [15, 16] (fun a b => ∃ q r : Int, a = .int .u64 q ∧ b = .int .u64 r ∧ Hid (Dig u x1 v n1 n0 q r)) (fun a _ => (intOf a).toNat)
  case atStart => exact ⟨q, r, rfl, rfl, T1⟩
  case round =>
    obtain ⟨q', r', rfl, rfl, D⟩ := hrel
    obtain ⟨k1, k2⟩ := D.out.test
    obtain ⟨A, hA⟩ : ∃ A, IntKind.u64.wrap (q' * n0) = A := ⟨_, rfl⟩
    obtain ⟨R, hR⟩ : ∃ A, IntKind.u64.wrap (4294967296 * r' + x1) = A := ⟨_, rfl⟩
    rw [hA, hR] at k2
    have K := hide k2
    clear k2
    have c : (4294967296 ≤ q') ∨ (q' < 4294967296 ∧ R < A) ∨ (q' < 4294967296 ∧ A ≤ R) := by omega
    rcases c with c | ⟨c, c'⟩ | ⟨c, c'⟩
    · obtain ⟨n2', n3', n4⟩ := D.out.next (K.out.1 (.inl c))
      obtain ⟨p, hp⟩ : ∃ p, p = q' - 1 := ⟨_, rfl⟩
      obtain ⟨m, hm⟩ : ∃ m, m = r' + n1 := ⟨_, rfl⟩
      have n2 : IntKind.u64.wrap (q' - 1) = p := by rw [hp]; exact n2'
      have n3 : IntKind.u64.wrap (r' + n1) = m := by rw [hm]; exact n3'
      have g1 : m < 4294967296 → Dig u x1 v n1 n0 p m := by rw [hp, hm]; exact D.out.again (K.out.1 (.inl c))
      have g2 : ¬ m < 4294967296 → p = (u * 4294967296 + x1) / v := by rw [hp, hm]; exact D.out.stop (K.out.1 (.inl c))
      have PQ : Hid (0 ≤ p ∧ p < q') := ⟨by omega, by omega⟩
      clear n4 n2' n3'
      have G1 := hide g1
      have G2 := hide g2
      clear hp hm g1 g2
      by_cases hr : m < 4294967296
      · have DD := hide (G1.out hr)
        go_wp2_with fail
        go_round
        case rel => exact ⟨_, _, rfl, rfl, DD⟩
        case measure => have := PQ.out; simp [intOf]; omega
      · have st := G2.out hr
        rw [← H1.out] at st
        subst st
        have hr' : 4294967296 ≤ m := by omega
        clear D K hr
        go_wp2_with fail
        go_loop [18, 16] (fun a b => ∃ q r : Int, a = .int .u64 q ∧ b = .int .u64 r ∧ Hid (Dig t x0 v n1 n0 q r)) (fun a _ => (intOf a).toNat)
        case atStart => exact ⟨q2, r2, rfl, rfl, T2⟩
        case round =>
          obtain ⟨q', r', rfl, rfl, D⟩ := hrel
          obtain ⟨k1, k2⟩ := D.out.test
          obtain ⟨A, hA⟩ : ∃ A, IntKind.u64.wrap (q' * n0) = A := ⟨_, rfl⟩
          obtain ⟨R, hR⟩ : ∃ A, IntKind.u64.wrap (4294967296 * r' + x0) = A := ⟨_, rfl⟩
          rw [hA, hR] at k2
          have K := hide k2
          clear k2
          have c : (4294967296 ≤ q') ∨ (q' < 4294967296 ∧ R < A) ∨ (q' < 4294967296 ∧ A ≤ R) := by omega
          rcases c with c | ⟨c, c'⟩ | ⟨c, c'⟩
          · obtain ⟨n2', n3', n4⟩ := D.out.next (K.out.1 (.inl c))
            obtain ⟨p, hp⟩ : ∃ p, p = q' - 1 := ⟨_, rfl⟩
            obtain ⟨m, hm⟩ : ∃ m, m = r' + n1 := ⟨_, rfl⟩
            have n2 : IntKind.u64.wrap (q' - 1) = p := by rw [hp]; exact n2'
            have n3 : IntKind.u64.wrap (r' + n1) = m := by rw [hm]; exact n3'
            have g1 : m < 4294967296 → Dig t x0 v n1 n0 p m := by rw [hp, hm]; exact D.out.again (K.out.1 (.inl c))
            have g2 : ¬ m < 4294967296 → p = (t * 4294967296 + x0) / v := by rw [hp, hm]; exact D.out.stop (K.out.1 (.inl c))
            have PQ : Hid (0 ≤ p ∧ p < q') := ⟨by omega, by omega⟩
            clear n4 n2' n3'
            have G1 := hide g1
            have G2 := hide g2
            clear hp hm g1 g2
            by_cases hr : m < 4294967296
            · have DD := hide (G1.out hr)
              go_wp2_with fail
              go_round
              case rel => exact ⟨_, _, rfl, rfl, DD⟩
              case measure => have := PQ.out; simp [intOf]; omega
            · have st := G2.out hr
              rw [← H0.out] at st
              subst st
              have hr' : 4294967296 ≤ m := by omega
              clear D K hr
              go_wp2_with fail
              go_returns
              exact ⟨rfl, by go_grown⟩
          · obtain ⟨n2', n3', n4⟩ := D.out.next (K.out.1 (.inr c'))
            obtain ⟨p, hp⟩ : ∃ p, p = q' - 1 := ⟨_, rfl⟩
            obtain ⟨m, hm⟩ : ∃ m, m = r' + n1 := ⟨_, rfl⟩
            have n2 : IntKind.u64.wrap (q' - 1) = p := by rw [hp]; exact n2'
            have n3 : IntKind.u64.wrap (r' + n1) = m := by rw [hm]; exact n3'
            have g1 : m < 4294967296 → Dig t x0 v n1 n0 p m := by rw [hp, hm]; exact D.out.again (K.out.1 (.inr c'))
            have g2 : ¬ m < 4294967296 → p = (t * 4294967296 + x0) / v := by rw [hp, hm]; exact D.out.stop (K.out.1 (.inr c'))
            have PQ : Hid (0 ≤ p ∧ p < q') := ⟨by omega, by omega⟩
            clear n4 n2' n3'
            have G1 := hide g1
            have G2 := hide g2
            clear hp hm g1 g2
            by_cases hr : m < 4294967296
            · have DD := hide (G1.out hr)
              go_wp2_with fail
              go_round
              case rel => exact ⟨_, _, rfl, rfl, DD⟩
              case measure => have := PQ.out; simp [intOf]; omega
            · have st := G2.out hr
              rw [← H0.out] at st
              subst st
              have hr' : 4294967296 ≤ m := by omega
              clear D K hr
              go_wp2_with fail
              go_returns
              exact ⟨rfl, by go_grown⟩
          · have st := D.out.done (fun x => by rcases K.out.2 x with h | h <;> omega)
            rw [← H0.out] at st
            subst st
            clear D K
            go_wp2_with fail
            go_returns
            exact ⟨rfl, by go_grown⟩
    · obtain ⟨n2', n3', n4⟩ := D.out.next (K.out.1 (.inr c'))
      obtain ⟨p, hp⟩ : ∃ p, p = q' - 1 := ⟨_, rfl⟩
      obtain ⟨m, hm⟩ : ∃ m, m = r' + n1 := ⟨_, rfl⟩
      have n2 : IntKind.u64.wrap (q' - 1) = p := by rw [hp]; exact n2'
      have n3 : IntKind.u64.wrap (r' + n1) = m := by rw [hm]; exact n3'
      have g1 : m < 4294967296 → Dig u x1 v n1 n0 p m := by rw [hp, hm]; exact D.out.again (K.out.1 (.inr c'))
      have g2 : ¬ m < 4294967296 → p = (u * 4294967296 + x1) / v := by rw [hp, hm]; exact D.out.stop (K.out.1 (.inr c'))
      have PQ : Hid (0 ≤ p ∧ p < q') := ⟨by omega, by omega⟩
      clear n4 n2' n3'
      have G1 := hide g1
      have G2 := hide g2
      clear hp hm g1 g2
      by_cases hr : m < 4294967296
      · have DD := hide (G1.out hr)
        go_wp2_with fail
        go_round
        case rel => exact ⟨_, _, rfl, rfl, DD⟩
        case measure => have := PQ.out; simp [intOf]; omega
      · have st := G2.out hr
        rw [← H1.out] at st
        subst st
        have hr' : 4294967296 ≤ m := by omega
        clear D K hr
        go_wp2_with fail
        go_loop [18, 16] (fun a b => ∃ q r : Int, a = .int .u64 q ∧ b = .int .u64 r ∧ Hid (Dig t x0 v n1 n0 q r)) (fun a _ => (intOf a).toNat)
        case atStart => exact ⟨q2, r2, rfl, rfl, T2⟩
        case round =>
          obtain ⟨q', r', rfl, rfl, D⟩ := hrel
          obtain ⟨k1, k2⟩ := D.out.test
          obtain ⟨A, hA⟩ : ∃ A, IntKind.u64.wrap (q' * n0) = A := ⟨_, rfl⟩
          obtain ⟨R, hR⟩ : ∃ A, IntKind.u64.wrap (4294967296 * r' + x0) = A := ⟨_, rfl⟩
          rw [hA, hR] at k2
          have K := hide k2
          clear k2
          have c : (4294967296 ≤ q') ∨ (q' < 4294967296 ∧ R < A) ∨ (q' < 4294967296 ∧ A ≤ R) := by omega
          rcases c with c | ⟨c, c'⟩ | ⟨c, c'⟩
          · obtain ⟨n2', n3', n4⟩ := D.out.next (K.out.1 (.inl c))
            obtain ⟨p, hp⟩ : ∃ p, p = q' - 1 := ⟨_, rfl⟩
            obtain ⟨m, hm⟩ : ∃ m, m = r' + n1 := ⟨_, rfl⟩
            have n2 : IntKind.u64.wrap (q' - 1) = p := by rw [hp]; exact n2'
            have n3 : IntKind.u64.wrap (r' + n1) = m := by rw [hm]; exact n3'
            have g1 : m < 4294967296 → Dig t x0 v n1 n0 p m := by rw [hp, hm]; exact D.out.again (K.out.1 (.inl c))
            have g2 : ¬ m < 4294967296 → p = (t * 4294967296 + x0) / v := by rw [hp, hm]; exact D.out.stop (K.out.1 (.inl c))
            have PQ : Hid (0 ≤ p ∧ p < q') := ⟨by omega, by omega⟩
            clear n4 n2' n3'
            have G1 := hide g1
            have G2 := hide g2
            clear hp hm g1 g2
            by_cases hr : m < 4294967296
            · have DD := hide (G1.out hr)
              go_wp2_with fail
              go_round
              case rel => exact ⟨_, _, rfl, rfl, DD⟩
              case measure => have := PQ.out; simp [intOf]; omega
            · have st := G2.out hr
              rw [← H0.out] at st
              subst st
              have hr' : 4294967296 ≤ m := by omega
              clear D K hr
              go_wp2_with fail
              go_returns
              exact ⟨rfl, by go_grown⟩
          · obtain ⟨n2', n3', n4⟩ := D.out.next (K.out.1 (.inr c'))
            obtain ⟨p, hp⟩ : ∃ p, p = q' - 1 := ⟨_, rfl⟩
            obtain ⟨m, hm⟩ : ∃ m, m = r' + n1 := ⟨_, rfl⟩
            have n2 : IntKind.u64.wrap (q' - 1) = p := by rw [hp]; exact n2'
            have n3 : IntKind.u64.wrap (r' + n1) = m := by rw [hm]; exact n3'
            have g1 : m < 4294967296 → Dig t x0 v n1 n0 p m := by rw [hp, hm]; exact D.out.again (K.out.1 (.inr c'))
            have g2 : ¬ m < 4294967296 → p = (t * 4294967296 + x0) / v := by rw [hp, hm]; exact D.out.stop (K.out.1 (.inr c'))
            have PQ : Hid (0 ≤ p ∧ p < q') := ⟨by omega, by omega⟩
            clear n4 n2' n3'
            have G1 := hide g1
            have G2 := hide g2
            clear hp hm g1 g2
            by_cases hr : m < 4294967296
            · have DD := hide (G1.out hr)
              go_wp2_with fail
              go_round
              case rel => exact ⟨_, _, rfl, rfl, DD⟩
              case measure => have := PQ.out; simp [intOf]; omega
            · have st := G2.out hr
              rw [← H0.out] at st
              subst st
              have hr' : 4294967296 ≤ m := by omega
              clear D K hr
              go_wp2_with fail
              go_returns
              exact ⟨rfl, by go_grown⟩
          · have st := D.out.done (fun x => by rcases K.out.2 x with h | h <;> omega)
            rw [← H0.out] at st
            subst st
            clear D K
            go_wp2_with fail
            go_returns
            exact ⟨rfl, by go_grown⟩
    · have st := D.out.done (fun x => by rcases K.out.2 x with h | h <;> omega)
      rw [← H1.out] at st
      subst st
      clear D K
      go_wp2_with fail
      go_loop [18, 16] (fun a b => ∃ q r : Int, a = .int .u64 q ∧ b = .int .u64 r ∧ Hid (Dig t x0 v n1 n0 q r)) (fun a _ => (intOf a).toNat)
      case atStart => exact ⟨q2, r2, rfl, rfl, T2⟩
      case round =>
        obtain ⟨q', r', rfl, rfl, D⟩ := hrel
        obtain ⟨k1, k2⟩ := D.out.test
        obtain ⟨A, hA⟩ : ∃ A, IntKind.u64.wrap (q' * n0) = A := ⟨_, rfl⟩
        obtain ⟨R, hR⟩ : ∃ A, IntKind.u64.wrap (4294967296 * r' + x0) = A := ⟨_, rfl⟩
        rw [hA, hR] at k2
        have K := hide k2
        clear k2
        have c : (4294967296 ≤ q') ∨ (q' < 4294967296 ∧ R < A) ∨ (q' < 4294967296 ∧ A ≤ R) := by omega
        rcases c with c | ⟨c, c'⟩ | ⟨c, c'⟩
        · obtain ⟨n2', n3', n4⟩ := D.out.next (K.out.1 (.inl c))
          obtain ⟨p, hp⟩ : ∃ p, p = q' - 1 := ⟨_, rfl⟩
          obtain ⟨m, hm⟩ : ∃ m, m = r' + n1 := ⟨_, rfl⟩
          have n2 : IntKind.u64.wrap (q' - 1) = p := by rw [hp]; exact n2'
          have n3 : IntKind.u64.wrap (r' + n1) = m := by rw [hm]; exact n3'
          have g1 : m < 4294967296 → Dig t x0 v n1 n0 p m := by rw [hp, hm]; exact D.out.again (K.out.1 (.inl c))
          have g2 : ¬ m < 4294967296 → p = (t * 4294967296 + x0) / v := by rw [hp, hm]; exact D.out.stop (K.out.1 (.inl c))
          have PQ : Hid (0 ≤ p ∧ p < q') := ⟨by omega, by omega⟩
          clear n4 n2' n3'
          have G1 := hide g1
          have G2 := hide g2
          clear hp hm g1 g2
          by_cases hr : m < 4294967296
          · have DD := hide (G1.out hr)
            go_wp2_with fail
            go_round
            case rel => exact ⟨_, _, rfl, rfl, DD⟩
            case measure => have := PQ.out; simp [intOf]; omega
          · have st := G2.out hr
            rw [← H0.out] at st
            subst st
            have hr' : 4294967296 ≤ m := by omega
            clear D K hr
            go_wp2_with fail
            go_returns
            exact ⟨rfl, by go_grown⟩
        · obtain ⟨n2', n3', n4⟩ := D.out.next (K.out.1 (.inr c'))
          obtain ⟨p, hp⟩ : ∃ p, p = q' - 1 := ⟨_, rfl⟩
          obtain ⟨m, hm⟩ : ∃ m, m = r' + n1 := ⟨_, rfl⟩
          have n2 : IntKind.u64.wrap (q' - 1) = p := by rw [hp]; exact n2'
          have n3 : IntKind.u64.wrap (r' + n1) = m := by rw [hm]; exact n3'
          have g1 : m < 4294967296 → Dig t x0 v n1 n0 p m := by rw [hp, hm]; exact D.out.again (K.out.1 (.inr c'))
          have g2 : ¬ m < 4294967296 → p = (t * 4294967296 + x0) / v := by rw [hp, hm]; exact D.out.stop (K.out.1 (.inr c'))
          have PQ : Hid (0 ≤ p ∧ p < q') := ⟨by omega, by omega⟩
          clear n4 n2' n3'
          have G1 := hide g1
          have G2 := hide g2
          clear hp hm g1 g2
          by_cases hr : m < 4294967296
          · have DD := hide (G1.out hr)
            go_wp2_with fail
            go_round
            case rel => exact ⟨_, _, rfl, rfl, DD⟩
            case measure => have := PQ.out; simp [intOf]; omega
          · have st := G2.out hr
            rw [← H0.out] at st
            subst st
            have hr' : 4294967296 ≤ m := by omega
            clear D K hr
            go_wp2_with fail
            go_returns
            exact ⟨rfl, by go_grown⟩
        · have st := D.out.done (fun x => by rcases K.out.2 x with h | h <;> omega)
          rw [← H0.out] at st
          subst st
          clear D K
          go_wp2_with fail
          go_returns
          exact ⟨rfl, by go_grown⟩
end Go.Proofs.YtdjehbagnkfkpaaDoor
