/- The reference of layer 2: Ten, Round; MicroRounds. (gen_mrnd.py) -/
import Derived.Test.YtdjehbagnkfkpaaDoorRows
import Derived.Test.YtdjehbagnkfkpaaDoorMround
import Derived.Test.YtdjehbagnkfkpaaDoorMref
import Derived.LaidMore
namespace Go.Proofs.YtdjehbagnkfkpaaDoor
set_option linter.unusedVariables false
set_option linter.unusedSimpArgs false
open Go.RowKit W Go.ChangeShapes Go.WideShapes Go.ChangeAt
theorem pow_cell {W : World} (h : laidMetH Tryd.prog Rows.microRoundsRow.laid W) (r : Nat) (hr : r < 7) : W.cell? ⟨0, r, none⟩ = some (.int .i64 (([1, 10, 100, 1000, 10000, 100000, 1000000] : List Int).getD r 0)) := by
  rw [MakeChecks.laidMetH_plain _ _ _ (by kernel_rfl)] at h
  obtain ⟨ps, ⟨g, t, cs, fuel, p, q, hg, ht, hv, hd, _, _⟩, _, _⟩ := h
  obtain rfl := Option.some.inj ((show Tryd.prog.globalNamed "tumbler/micro.powers" = some 0 by kernel_rfl).symm.trans hg)
  obtain rfl := Option.some.inj ((show (Tryd.prog.globals[0]?).map (·.type) = some 64 by kernel_rfl).symm.trans ht)
  obtain ⟨xs, m, _, ex, _, hl, hel⟩ := DataW.trod_array Tryd.underlying64 hd
  have c5 : Tryd.prog.cellsOf 2 = 1 := by kernel_rfl
  have hE := hel r hr
  rw [c5, Nat.mul_one, List.getElem?_eq_getElem (by omega)] at hE
  obtain ⟨z, e1, e2, _⟩ := DataW.trod_int Tryd.underlying2 hE
  have e3 : (xs.map (·.1)) = ([1, 10, 100, 1000, 10000, 100000, 1000000] : List Int).map fun n => .lit (.int .i64 n) := (DataW.agg.inj (Prod.mk.inj ex).1).symm
  have e4 : (xs.map (·.1))[r]? = (([1, 10, 100, 1000, 10000, 100000, 1000000] : List Int).map fun n => (DataW.lit (.int .i64 n) : DataW Unit))[r]? := by rw [e3]
  rw [List.getElem?_map, List.getElem?_map, List.getElem?_eq_getElem (by omega : r < xs.length), List.getElem?_eq_getElem (by simpa using hr), e2] at e4
  have hz : z = ([1, 10, 100, 1000, 10000, 100000, 1000000] : List Int).getD r 0 := by
    simp only [Option.map_some, Option.some.injEq, DataW.lit.injEq, Lit.int.injEq, true_and] at e4
    rw [e4, List.getD, List.getElem?_eq_getElem (by simpa using hr)]; rfl
  rw [World.var?_cell hg hv r, ← hz]
  have : cs.toList[r]? = some (.int .i64 z) := by
    have h0 : ((cs.toList.drop r).take 1)[0]? = some (.int .i64 z) := by rw [e1]; rfl
    simpa using h0
  simpa using this
def tenN (i : Nat) : Int := ([1, 10, 100, 1000, 10000, 100000, 1000000] : List Int).getD i 0
theorem tenN_bd (i : Nat) (h : i ≤ 6) : 1 ≤ tenN i ∧ tenN i ≤ 1000000 := by
  have : i = 0 ∨ i = 1 ∨ i = 2 ∨ i = 3 ∨ i = 4 ∨ i = 5 ∨ i = 6 := by omega
  rcases this with rfl | rfl | rfl | rfl | rfl | rfl | rfl <;> decide
theorem tenN_succ (i : Nat) (h : i < 6) : tenN (i + 1) = tenN i * 10 := by
  have : i = 0 ∨ i = 1 ∨ i = 2 ∨ i = 3 ∨ i = 4 ∨ i = 5 := by omega
  rcases this with rfl | rfl | rfl | rfl | rfl | rfl <;> decide
set_option maxHeartbeats 1000000 in
theorem ten_spec (i : Nat) (h : i ≤ 6) (w : World) :
    Calls Tryd.prog 25 #[.int .i64 (i : Int)] w fun e w' => e = .returned (.int .u64 (tenN i)) ∧ Below w.heap.size w w' := by
  have H := hide h
  go_enter Tryd.func25, Tryd.ntmps25
  go_wp2_with fail
  go_loop [3, 4] (fun t k => ∃ (m : Nat) (x : Int), m ≤ i ∧ k = .int .i64 m ∧ t = .int .u64 x ∧ 1 ≤ x ∧ x ≤ 1000000 ∧ Hid (x = tenN m)) (fun _ k => i - (intOf k).toNat)
  case atStart => exact ⟨0, 1, by omega, rfl, rfl, by omega, by omega, rfl⟩
  case round =>
    obtain ⟨m, x, hm, rfl, rfl, x1, x2, hx⟩ := hrel
    by_cases hlt : m < i
    · have e : Hid (x * 10 = tenN (m + 1)) := by show _ = _; rw [tenN_succ m (by omega), hx.out]
      have bd := tenN_bd (m + 1) (by omega)
      have b2 : x * 10 ≤ 1000000 := by rw [e.out]; exact bd.2
      clear bd hx
      go_wp2_with fail
      go_round
      case rel => exact ⟨m + 1, x * 10, by omega, by go_num, rfl, by omega, b2, e⟩
      case measure => simp [intOf]; omega
    · obtain rfl : m = i := by omega
      go_wp2_with fail
      go_returns
      exact ⟨by rw [← hx.out]; rfl, by go_grown⟩
set_option maxRecDepth 100000 in
set_option maxHeartbeats 4000000 in
theorem rround_up_true (v p t r a q q' x n : Int) (neg : Bool) (i : Nat) (hp : ¬ p < 0) (hp2 : ¬ 6 < p) (ep : 6 - p = (i : Int)) (t0 : 1 ≤ t) (t1 : t ≤ 1000000) (r0 : 0 ≤ r) (r1 : r < 1000000) (g1 : t ≤ 2 * r) (g2 : 1 < t)
    (k1 : ∀ w, Calls Tryd.prog 31 #[.int .i64 v] w fun e w' => e = .returned (.tuple #[mgV a, .bool neg]) ∧ Below w.heap.size w w')
    (k2 : ∀ w, Calls Tryd.prog 25 #[.int .i64 (i : Int)] w fun e w' => e = .returned (.int .u64 t) ∧ Below w.heap.size w w')
    (k3 : ∀ w, Calls Tryd.prog 46 #[mgV a, .int .u64 t] w fun e w' => e = .returned (.tuple #[mgV q, .int .u64 r]) ∧ Below w.heap.size w w')
    (k4 : ∀ w, Calls Tryd.prog 47 #[mgV q, magV 0 1 false] w fun e w' => e = .returned (mgV q') ∧ Below w.heap.size w w')
    (k5 : ∀ w, Calls Tryd.prog 48 #[mgV q', .int .u64 t] w fun e w' => e = .returned (mgV x) ∧ Below w.heap.size w w')
    (k6 : ∀ w, Calls Tryd.prog 29 #[mgV x, .bool neg] w fun e w' => e = .returned (.tuple #[.int .i64 n, .bool true]) ∧ Below w.heap.size w w')
    (w : World) : Calls Tryd.prog 24 #[.int .i64 v, .int .i64 p] w fun e w' => e = .returned (.tuple #[.int .i64 n, .int .i64 0]) ∧ Below w.heap.size w w' := by
  go_enter Tryd.func24, Tryd.ntmps24
  go_wp2_with fail
  refine (k1 _).mono ?_
  rintro e w1 ⟨rfl, h1⟩
  have B1 : Below w.heap.size w w1 := Below.trans (by go_grown) (h1.mono (by first | (simp; done) | omega | (simp; omega)))
  have y1 := B1.size
  (try (have m1_0 : ¬ w.heap.size = w1.heap.size := by omega)); (try (have m1_0' : ¬ w1.heap.size = w.heap.size := by omega))
  clear h1 k1
  go_wp2_with fail
  refine (k2 _).mono ?_
  rintro e w2 ⟨rfl, h2⟩
  have B2 : Below w.heap.size w w2 := Below.trans (by go_grown) (h2.mono (by first | (simp; done) | omega | (simp; omega)))
  have y2 := B2.size
  have B0 := box3 h2 (w1.heap.size) (.int .u64 (mh a)) (.int .u64 (ml a)) (.bool (mo a)) (by first | assumption | (simp [go_sem]; done) | (simp [go_sem]; done)) (by first | assumption | (simp [go_sem]; done) | (simp [go_sem]; done)) (by first | assumption | (simp [go_sem]; done) | (simp [go_sem]; done)) (by first | assumption | (simp [go_sem]; done) | (simp [go_sem]; done)) (by first | assumption | (simp [go_sem]; done) | (simp [go_sem]; done)) (by first | assumption | (simp [go_sem]; done) | (simp [go_sem]; done)) (by first | assumption | omega | (simp; done) | (simp; omega))
  obtain ⟨B0c0, B0c1, B0c2, B0f0, B0f1, B0f2, B0z⟩ := B0
  (try (have m2_0 : ¬ w.heap.size = w2.heap.size := by omega)); (try (have m2_0' : ¬ w2.heap.size = w.heap.size := by omega))
  (try (have m2_1 : ¬ w1.heap.size = w2.heap.size := by omega)); (try (have m2_1' : ¬ w2.heap.size = w1.heap.size := by omega))
  clear h2 k2 B1
  go_wp2_with fail
  refine (k3 _).mono ?_
  rintro e w3 ⟨rfl, h3⟩
  have B3 : Below w.heap.size w w3 := Below.trans (by go_grown) (h3.mono (by first | (simp; done) | omega | (simp; omega)))
  have y3 := B3.size
  have C0 := box3 h3 (w1.heap.size) (.int .u64 (mh a)) (.int .u64 (ml a)) (.bool (mo a)) (by first | assumption | (refine (Below.cell ?_ B0z).trans B0c0; go_grown; done) | (simp [go_sem, B0c0]; done) | (simp [go_sem, B0c0, B0z]; done) | (simp [go_sem, B0c0, B0c1, B0c2, B0f0, B0f1, B0f2, B0z]; done)) (by first | assumption | (refine (Below.cell ?_ B0z).trans B0c1; go_grown; done) | (simp [go_sem, B0c1]; done) | (simp [go_sem, B0c1, B0z]; done) | (simp [go_sem, B0c0, B0c1, B0c2, B0f0, B0f1, B0f2, B0z]; done)) (by first | assumption | (refine (Below.cell ?_ B0z).trans B0c2; go_grown; done) | (simp [go_sem, B0c2]; done) | (simp [go_sem, B0c2, B0z]; done) | (simp [go_sem, B0c0, B0c1, B0c2, B0f0, B0f1, B0f2, B0z]; done)) (by first | assumption | (refine (Below.frozen ?_ B0z).trans B0f0; go_grown; done) | (simp [go_sem, B0f0]; done) | (simp [go_sem, B0f0, B0z]; done) | (simp [go_sem, B0c0, B0c1, B0c2, B0f0, B0f1, B0f2, B0z]; done)) (by first | assumption | (refine (Below.frozen ?_ B0z).trans B0f1; go_grown; done) | (simp [go_sem, B0f1]; done) | (simp [go_sem, B0f1, B0z]; done) | (simp [go_sem, B0c0, B0c1, B0c2, B0f0, B0f1, B0f2, B0z]; done)) (by first | assumption | (refine (Below.frozen ?_ B0z).trans B0f2; go_grown; done) | (simp [go_sem, B0f2]; done) | (simp [go_sem, B0f2, B0z]; done) | (simp [go_sem, B0c0, B0c1, B0c2, B0f0, B0f1, B0f2, B0z]; done)) (by first | assumption | omega | (simp; done) | (simp; omega))
  clear B0c0 B0c1 B0c2 B0f0 B0f1 B0f2 B0z
  obtain ⟨C0c0, C0c1, C0c2, C0f0, C0f1, C0f2, C0z⟩ := C0
  (try (have m3_0 : ¬ w.heap.size = w3.heap.size := by omega)); (try (have m3_0' : ¬ w3.heap.size = w.heap.size := by omega))
  (try (have m3_1 : ¬ w1.heap.size = w3.heap.size := by omega)); (try (have m3_1' : ¬ w3.heap.size = w1.heap.size := by omega))
  (try (have m3_2 : ¬ w2.heap.size = w3.heap.size := by omega)); (try (have m3_2' : ¬ w3.heap.size = w2.heap.size := by omega))
  clear h3 k3 B2
  go_wp2_with fail
  refine (k4 _).mono ?_
  rintro e w4 ⟨rfl, h4⟩
  have B4 : Below w.heap.size w w4 := Below.trans (by go_grown) (h4.mono (by first | (simp; done) | omega | (simp; omega)))
  have y4 := B4.size
  have D0 := box3 h4 (w3.heap.size) (.int .u64 (mh q)) (.int .u64 (ml q)) (.bool (mo q)) (by first | assumption | (simp [go_sem]; done) | (simp [go_sem, C0c0, C0c1, C0c2, C0f0, C0f1, C0f2, C0z]; done)) (by first | assumption | (simp [go_sem]; done) | (simp [go_sem, C0c0, C0c1, C0c2, C0f0, C0f1, C0f2, C0z]; done)) (by first | assumption | (simp [go_sem]; done) | (simp [go_sem, C0c0, C0c1, C0c2, C0f0, C0f1, C0f2, C0z]; done)) (by first | assumption | (simp [go_sem]; done) | (simp [go_sem, C0c0, C0c1, C0c2, C0f0, C0f1, C0f2, C0z]; done)) (by first | assumption | (simp [go_sem]; done) | (simp [go_sem, C0c0, C0c1, C0c2, C0f0, C0f1, C0f2, C0z]; done)) (by first | assumption | (simp [go_sem]; done) | (simp [go_sem, C0c0, C0c1, C0c2, C0f0, C0f1, C0f2, C0z]; done)) (by first | assumption | omega | (simp; done) | (simp; omega))
  clear C0c0 C0c1 C0c2 C0f0 C0f1 C0f2 C0z
  obtain ⟨D0c0, D0c1, D0c2, D0f0, D0f1, D0f2, D0z⟩ := D0
  (try (have m4_0 : ¬ w.heap.size = w4.heap.size := by omega)); (try (have m4_0' : ¬ w4.heap.size = w.heap.size := by omega))
  (try (have m4_1 : ¬ w1.heap.size = w4.heap.size := by omega)); (try (have m4_1' : ¬ w4.heap.size = w1.heap.size := by omega))
  (try (have m4_2 : ¬ w2.heap.size = w4.heap.size := by omega)); (try (have m4_2' : ¬ w4.heap.size = w2.heap.size := by omega))
  (try (have m4_3 : ¬ w3.heap.size = w4.heap.size := by omega)); (try (have m4_3' : ¬ w4.heap.size = w3.heap.size := by omega))
  clear h4 k4 B3
  go_wp2_with fail
  refine (k5 _).mono ?_
  rintro e w5 ⟨rfl, h5⟩
  have B5 : Below w.heap.size w w5 := Below.trans (by go_grown) (h5.mono (by first | (simp; done) | omega | (simp; omega)))
  have y5 := B5.size
  clear D0c0 D0c1 D0c2 D0f0 D0f1 D0f2 D0z
  (try (have m5_0 : ¬ w.heap.size = w5.heap.size := by omega)); (try (have m5_0' : ¬ w5.heap.size = w.heap.size := by omega))
  (try (have m5_1 : ¬ w1.heap.size = w5.heap.size := by omega)); (try (have m5_1' : ¬ w5.heap.size = w1.heap.size := by omega))
  (try (have m5_2 : ¬ w2.heap.size = w5.heap.size := by omega)); (try (have m5_2' : ¬ w5.heap.size = w2.heap.size := by omega))
  (try (have m5_3 : ¬ w3.heap.size = w5.heap.size := by omega)); (try (have m5_3' : ¬ w5.heap.size = w3.heap.size := by omega))
  (try (have m5_4 : ¬ w4.heap.size = w5.heap.size := by omega)); (try (have m5_4' : ¬ w5.heap.size = w4.heap.size := by omega))
  clear h5 k5 B4
  go_wp2_with fail
  refine (k6 _).mono ?_
  rintro e w6 ⟨rfl, h6⟩
  have B6 : Below w.heap.size w w6 := Below.trans (by go_grown) (h6.mono (by first | (simp; done) | omega | (simp; omega)))
  have y6 := B6.size
  (try (have m6_0 : ¬ w.heap.size = w6.heap.size := by omega)); (try (have m6_0' : ¬ w6.heap.size = w.heap.size := by omega))
  (try (have m6_1 : ¬ w1.heap.size = w6.heap.size := by omega)); (try (have m6_1' : ¬ w6.heap.size = w1.heap.size := by omega))
  (try (have m6_2 : ¬ w2.heap.size = w6.heap.size := by omega)); (try (have m6_2' : ¬ w6.heap.size = w2.heap.size := by omega))
  (try (have m6_3 : ¬ w3.heap.size = w6.heap.size := by omega)); (try (have m6_3' : ¬ w6.heap.size = w3.heap.size := by omega))
  (try (have m6_4 : ¬ w4.heap.size = w6.heap.size := by omega)); (try (have m6_4' : ¬ w6.heap.size = w4.heap.size := by omega))
  (try (have m6_5 : ¬ w5.heap.size = w6.heap.size := by omega)); (try (have m6_5' : ¬ w6.heap.size = w5.heap.size := by omega))
  clear h6 k6 B5
  go_wp2_with fail
  go_returns
  exact ⟨rfl, by go_grown⟩
set_option maxRecDepth 100000 in
set_option maxHeartbeats 4000000 in
theorem rround_up_false (v p t r a q q' x n : Int) (neg : Bool) (i : Nat) (hp : ¬ p < 0) (hp2 : ¬ 6 < p) (ep : 6 - p = (i : Int)) (t0 : 1 ≤ t) (t1 : t ≤ 1000000) (r0 : 0 ≤ r) (r1 : r < 1000000) (g1 : t ≤ 2 * r) (g2 : 1 < t)
    (k1 : ∀ w, Calls Tryd.prog 31 #[.int .i64 v] w fun e w' => e = .returned (.tuple #[mgV a, .bool neg]) ∧ Below w.heap.size w w')
    (k2 : ∀ w, Calls Tryd.prog 25 #[.int .i64 (i : Int)] w fun e w' => e = .returned (.int .u64 t) ∧ Below w.heap.size w w')
    (k3 : ∀ w, Calls Tryd.prog 46 #[mgV a, .int .u64 t] w fun e w' => e = .returned (.tuple #[mgV q, .int .u64 r]) ∧ Below w.heap.size w w')
    (k4 : ∀ w, Calls Tryd.prog 47 #[mgV q, magV 0 1 false] w fun e w' => e = .returned (mgV q') ∧ Below w.heap.size w w')
    (k5 : ∀ w, Calls Tryd.prog 48 #[mgV q', .int .u64 t] w fun e w' => e = .returned (mgV x) ∧ Below w.heap.size w w')
    (k6 : ∀ w, Calls Tryd.prog 29 #[mgV x, .bool neg] w fun e w' => e = .returned (.tuple #[.int .i64 n, .bool false]) ∧ Below w.heap.size w w')
    (w : World) : Calls Tryd.prog 24 #[.int .i64 v, .int .i64 p] w fun e w' => e = .returned (.tuple #[.int .i64 0, .int .i64 10]) ∧ Below w.heap.size w w' := by
  go_enter Tryd.func24, Tryd.ntmps24
  go_wp2_with fail
  refine (k1 _).mono ?_
  rintro e w1 ⟨rfl, h1⟩
  have B1 : Below w.heap.size w w1 := Below.trans (by go_grown) (h1.mono (by first | (simp; done) | omega | (simp; omega)))
  have y1 := B1.size
  (try (have m1_0 : ¬ w.heap.size = w1.heap.size := by omega)); (try (have m1_0' : ¬ w1.heap.size = w.heap.size := by omega))
  clear h1 k1
  go_wp2_with fail
  refine (k2 _).mono ?_
  rintro e w2 ⟨rfl, h2⟩
  have B2 : Below w.heap.size w w2 := Below.trans (by go_grown) (h2.mono (by first | (simp; done) | omega | (simp; omega)))
  have y2 := B2.size
  have B0 := box3 h2 (w1.heap.size) (.int .u64 (mh a)) (.int .u64 (ml a)) (.bool (mo a)) (by first | assumption | (simp [go_sem]; done) | (simp [go_sem]; done)) (by first | assumption | (simp [go_sem]; done) | (simp [go_sem]; done)) (by first | assumption | (simp [go_sem]; done) | (simp [go_sem]; done)) (by first | assumption | (simp [go_sem]; done) | (simp [go_sem]; done)) (by first | assumption | (simp [go_sem]; done) | (simp [go_sem]; done)) (by first | assumption | (simp [go_sem]; done) | (simp [go_sem]; done)) (by first | assumption | omega | (simp; done) | (simp; omega))
  obtain ⟨B0c0, B0c1, B0c2, B0f0, B0f1, B0f2, B0z⟩ := B0
  (try (have m2_0 : ¬ w.heap.size = w2.heap.size := by omega)); (try (have m2_0' : ¬ w2.heap.size = w.heap.size := by omega))
  (try (have m2_1 : ¬ w1.heap.size = w2.heap.size := by omega)); (try (have m2_1' : ¬ w2.heap.size = w1.heap.size := by omega))
  clear h2 k2 B1
  go_wp2_with fail
  refine (k3 _).mono ?_
  rintro e w3 ⟨rfl, h3⟩
  have B3 : Below w.heap.size w w3 := Below.trans (by go_grown) (h3.mono (by first | (simp; done) | omega | (simp; omega)))
  have y3 := B3.size
  have C0 := box3 h3 (w1.heap.size) (.int .u64 (mh a)) (.int .u64 (ml a)) (.bool (mo a)) (by first | assumption | (refine (Below.cell ?_ B0z).trans B0c0; go_grown; done) | (simp [go_sem, B0c0]; done) | (simp [go_sem, B0c0, B0z]; done) | (simp [go_sem, B0c0, B0c1, B0c2, B0f0, B0f1, B0f2, B0z]; done)) (by first | assumption | (refine (Below.cell ?_ B0z).trans B0c1; go_grown; done) | (simp [go_sem, B0c1]; done) | (simp [go_sem, B0c1, B0z]; done) | (simp [go_sem, B0c0, B0c1, B0c2, B0f0, B0f1, B0f2, B0z]; done)) (by first | assumption | (refine (Below.cell ?_ B0z).trans B0c2; go_grown; done) | (simp [go_sem, B0c2]; done) | (simp [go_sem, B0c2, B0z]; done) | (simp [go_sem, B0c0, B0c1, B0c2, B0f0, B0f1, B0f2, B0z]; done)) (by first | assumption | (refine (Below.frozen ?_ B0z).trans B0f0; go_grown; done) | (simp [go_sem, B0f0]; done) | (simp [go_sem, B0f0, B0z]; done) | (simp [go_sem, B0c0, B0c1, B0c2, B0f0, B0f1, B0f2, B0z]; done)) (by first | assumption | (refine (Below.frozen ?_ B0z).trans B0f1; go_grown; done) | (simp [go_sem, B0f1]; done) | (simp [go_sem, B0f1, B0z]; done) | (simp [go_sem, B0c0, B0c1, B0c2, B0f0, B0f1, B0f2, B0z]; done)) (by first | assumption | (refine (Below.frozen ?_ B0z).trans B0f2; go_grown; done) | (simp [go_sem, B0f2]; done) | (simp [go_sem, B0f2, B0z]; done) | (simp [go_sem, B0c0, B0c1, B0c2, B0f0, B0f1, B0f2, B0z]; done)) (by first | assumption | omega | (simp; done) | (simp; omega))
  clear B0c0 B0c1 B0c2 B0f0 B0f1 B0f2 B0z
  obtain ⟨C0c0, C0c1, C0c2, C0f0, C0f1, C0f2, C0z⟩ := C0
  (try (have m3_0 : ¬ w.heap.size = w3.heap.size := by omega)); (try (have m3_0' : ¬ w3.heap.size = w.heap.size := by omega))
  (try (have m3_1 : ¬ w1.heap.size = w3.heap.size := by omega)); (try (have m3_1' : ¬ w3.heap.size = w1.heap.size := by omega))
  (try (have m3_2 : ¬ w2.heap.size = w3.heap.size := by omega)); (try (have m3_2' : ¬ w3.heap.size = w2.heap.size := by omega))
  clear h3 k3 B2
  go_wp2_with fail
  refine (k4 _).mono ?_
  rintro e w4 ⟨rfl, h4⟩
  have B4 : Below w.heap.size w w4 := Below.trans (by go_grown) (h4.mono (by first | (simp; done) | omega | (simp; omega)))
  have y4 := B4.size
  have D0 := box3 h4 (w3.heap.size) (.int .u64 (mh q)) (.int .u64 (ml q)) (.bool (mo q)) (by first | assumption | (simp [go_sem]; done) | (simp [go_sem, C0c0, C0c1, C0c2, C0f0, C0f1, C0f2, C0z]; done)) (by first | assumption | (simp [go_sem]; done) | (simp [go_sem, C0c0, C0c1, C0c2, C0f0, C0f1, C0f2, C0z]; done)) (by first | assumption | (simp [go_sem]; done) | (simp [go_sem, C0c0, C0c1, C0c2, C0f0, C0f1, C0f2, C0z]; done)) (by first | assumption | (simp [go_sem]; done) | (simp [go_sem, C0c0, C0c1, C0c2, C0f0, C0f1, C0f2, C0z]; done)) (by first | assumption | (simp [go_sem]; done) | (simp [go_sem, C0c0, C0c1, C0c2, C0f0, C0f1, C0f2, C0z]; done)) (by first | assumption | (simp [go_sem]; done) | (simp [go_sem, C0c0, C0c1, C0c2, C0f0, C0f1, C0f2, C0z]; done)) (by first | assumption | omega | (simp; done) | (simp; omega))
  clear C0c0 C0c1 C0c2 C0f0 C0f1 C0f2 C0z
  obtain ⟨D0c0, D0c1, D0c2, D0f0, D0f1, D0f2, D0z⟩ := D0
  (try (have m4_0 : ¬ w.heap.size = w4.heap.size := by omega)); (try (have m4_0' : ¬ w4.heap.size = w.heap.size := by omega))
  (try (have m4_1 : ¬ w1.heap.size = w4.heap.size := by omega)); (try (have m4_1' : ¬ w4.heap.size = w1.heap.size := by omega))
  (try (have m4_2 : ¬ w2.heap.size = w4.heap.size := by omega)); (try (have m4_2' : ¬ w4.heap.size = w2.heap.size := by omega))
  (try (have m4_3 : ¬ w3.heap.size = w4.heap.size := by omega)); (try (have m4_3' : ¬ w4.heap.size = w3.heap.size := by omega))
  clear h4 k4 B3
  go_wp2_with fail
  refine (k5 _).mono ?_
  rintro e w5 ⟨rfl, h5⟩
  have B5 : Below w.heap.size w w5 := Below.trans (by go_grown) (h5.mono (by first | (simp; done) | omega | (simp; omega)))
  have y5 := B5.size
  clear D0c0 D0c1 D0c2 D0f0 D0f1 D0f2 D0z
  (try (have m5_0 : ¬ w.heap.size = w5.heap.size := by omega)); (try (have m5_0' : ¬ w5.heap.size = w.heap.size := by omega))
  (try (have m5_1 : ¬ w1.heap.size = w5.heap.size := by omega)); (try (have m5_1' : ¬ w5.heap.size = w1.heap.size := by omega))
  (try (have m5_2 : ¬ w2.heap.size = w5.heap.size := by omega)); (try (have m5_2' : ¬ w5.heap.size = w2.heap.size := by omega))
  (try (have m5_3 : ¬ w3.heap.size = w5.heap.size := by omega)); (try (have m5_3' : ¬ w5.heap.size = w3.heap.size := by omega))
  (try (have m5_4 : ¬ w4.heap.size = w5.heap.size := by omega)); (try (have m5_4' : ¬ w5.heap.size = w4.heap.size := by omega))
  clear h5 k5 B4
  go_wp2_with fail
  refine (k6 _).mono ?_
  rintro e w6 ⟨rfl, h6⟩
  have B6 : Below w.heap.size w w6 := Below.trans (by go_grown) (h6.mono (by first | (simp; done) | omega | (simp; omega)))
  have y6 := B6.size
  (try (have m6_0 : ¬ w.heap.size = w6.heap.size := by omega)); (try (have m6_0' : ¬ w6.heap.size = w.heap.size := by omega))
  (try (have m6_1 : ¬ w1.heap.size = w6.heap.size := by omega)); (try (have m6_1' : ¬ w6.heap.size = w1.heap.size := by omega))
  (try (have m6_2 : ¬ w2.heap.size = w6.heap.size := by omega)); (try (have m6_2' : ¬ w6.heap.size = w2.heap.size := by omega))
  (try (have m6_3 : ¬ w3.heap.size = w6.heap.size := by omega)); (try (have m6_3' : ¬ w6.heap.size = w3.heap.size := by omega))
  (try (have m6_4 : ¬ w4.heap.size = w6.heap.size := by omega)); (try (have m6_4' : ¬ w6.heap.size = w4.heap.size := by omega))
  (try (have m6_5 : ¬ w5.heap.size = w6.heap.size := by omega)); (try (have m6_5' : ¬ w6.heap.size = w5.heap.size := by omega))
  clear h6 k6 B5
  go_wp2_with fail
  go_returns
  exact ⟨rfl, by go_grown⟩
set_option maxRecDepth 100000 in
set_option maxHeartbeats 4000000 in
theorem rround_stay_true (v p t r a q x n : Int) (neg : Bool) (i : Nat) (hp : ¬ p < 0) (hp2 : ¬ 6 < p) (ep : 6 - p = (i : Int)) (t0 : 1 ≤ t) (t1 : t ≤ 1000000) (r0 : 0 ≤ r) (r1 : r < 1000000) (g : ¬ t ≤ 2 * r ∨ (t ≤ 2 * r ∧ ¬ 1 < t))
    (k1 : ∀ w, Calls Tryd.prog 31 #[.int .i64 v] w fun e w' => e = .returned (.tuple #[mgV a, .bool neg]) ∧ Below w.heap.size w w')
    (k2 : ∀ w, Calls Tryd.prog 25 #[.int .i64 (i : Int)] w fun e w' => e = .returned (.int .u64 t) ∧ Below w.heap.size w w')
    (k3 : ∀ w, Calls Tryd.prog 46 #[mgV a, .int .u64 t] w fun e w' => e = .returned (.tuple #[mgV q, .int .u64 r]) ∧ Below w.heap.size w w')
    (k5 : ∀ w, Calls Tryd.prog 48 #[mgV q, .int .u64 t] w fun e w' => e = .returned (mgV x) ∧ Below w.heap.size w w')
    (k6 : ∀ w, Calls Tryd.prog 29 #[mgV x, .bool neg] w fun e w' => e = .returned (.tuple #[.int .i64 n, .bool true]) ∧ Below w.heap.size w w')
    (w : World) : Calls Tryd.prog 24 #[.int .i64 v, .int .i64 p] w fun e w' => e = .returned (.tuple #[.int .i64 n, .int .i64 0]) ∧ Below w.heap.size w w' := by
  rcases g with g | ⟨g, g2⟩
  all_goals
    go_enter Tryd.func24, Tryd.ntmps24
    go_wp2_with fail
    refine (k1 _).mono ?_
    rintro e w1 ⟨rfl, h1⟩
    have B1 : Below w.heap.size w w1 := Below.trans (by go_grown) (h1.mono (by first | (simp; done) | omega | (simp; omega)))
    have y1 := B1.size
    (try (have m1_0 : ¬ w.heap.size = w1.heap.size := by omega)); (try (have m1_0' : ¬ w1.heap.size = w.heap.size := by omega))
    clear h1 k1
    go_wp2_with fail
    refine (k2 _).mono ?_
    rintro e w2 ⟨rfl, h2⟩
    have B2 : Below w.heap.size w w2 := Below.trans (by go_grown) (h2.mono (by first | (simp; done) | omega | (simp; omega)))
    have y2 := B2.size
    have B0 := box3 h2 (w1.heap.size) (.int .u64 (mh a)) (.int .u64 (ml a)) (.bool (mo a)) (by first | assumption | (simp [go_sem]; done) | (simp [go_sem]; done)) (by first | assumption | (simp [go_sem]; done) | (simp [go_sem]; done)) (by first | assumption | (simp [go_sem]; done) | (simp [go_sem]; done)) (by first | assumption | (simp [go_sem]; done) | (simp [go_sem]; done)) (by first | assumption | (simp [go_sem]; done) | (simp [go_sem]; done)) (by first | assumption | (simp [go_sem]; done) | (simp [go_sem]; done)) (by first | assumption | omega | (simp; done) | (simp; omega))
    obtain ⟨B0c0, B0c1, B0c2, B0f0, B0f1, B0f2, B0z⟩ := B0
    (try (have m2_0 : ¬ w.heap.size = w2.heap.size := by omega)); (try (have m2_0' : ¬ w2.heap.size = w.heap.size := by omega))
    (try (have m2_1 : ¬ w1.heap.size = w2.heap.size := by omega)); (try (have m2_1' : ¬ w2.heap.size = w1.heap.size := by omega))
    clear h2 k2 B1
    go_wp2_with fail
    refine (k3 _).mono ?_
    rintro e w3 ⟨rfl, h3⟩
    have B3 : Below w.heap.size w w3 := Below.trans (by go_grown) (h3.mono (by first | (simp; done) | omega | (simp; omega)))
    have y3 := B3.size
    have C0 := box3 h3 (w1.heap.size) (.int .u64 (mh a)) (.int .u64 (ml a)) (.bool (mo a)) (by first | assumption | (refine (Below.cell ?_ B0z).trans B0c0; go_grown; done) | (simp [go_sem, B0c0]; done) | (simp [go_sem, B0c0, B0z]; done) | (simp [go_sem, B0c0, B0c1, B0c2, B0f0, B0f1, B0f2, B0z]; done)) (by first | assumption | (refine (Below.cell ?_ B0z).trans B0c1; go_grown; done) | (simp [go_sem, B0c1]; done) | (simp [go_sem, B0c1, B0z]; done) | (simp [go_sem, B0c0, B0c1, B0c2, B0f0, B0f1, B0f2, B0z]; done)) (by first | assumption | (refine (Below.cell ?_ B0z).trans B0c2; go_grown; done) | (simp [go_sem, B0c2]; done) | (simp [go_sem, B0c2, B0z]; done) | (simp [go_sem, B0c0, B0c1, B0c2, B0f0, B0f1, B0f2, B0z]; done)) (by first | assumption | (refine (Below.frozen ?_ B0z).trans B0f0; go_grown; done) | (simp [go_sem, B0f0]; done) | (simp [go_sem, B0f0, B0z]; done) | (simp [go_sem, B0c0, B0c1, B0c2, B0f0, B0f1, B0f2, B0z]; done)) (by first | assumption | (refine (Below.frozen ?_ B0z).trans B0f1; go_grown; done) | (simp [go_sem, B0f1]; done) | (simp [go_sem, B0f1, B0z]; done) | (simp [go_sem, B0c0, B0c1, B0c2, B0f0, B0f1, B0f2, B0z]; done)) (by first | assumption | (refine (Below.frozen ?_ B0z).trans B0f2; go_grown; done) | (simp [go_sem, B0f2]; done) | (simp [go_sem, B0f2, B0z]; done) | (simp [go_sem, B0c0, B0c1, B0c2, B0f0, B0f1, B0f2, B0z]; done)) (by first | assumption | omega | (simp; done) | (simp; omega))
    clear B0c0 B0c1 B0c2 B0f0 B0f1 B0f2 B0z
    obtain ⟨C0c0, C0c1, C0c2, C0f0, C0f1, C0f2, C0z⟩ := C0
    (try (have m3_0 : ¬ w.heap.size = w3.heap.size := by omega)); (try (have m3_0' : ¬ w3.heap.size = w.heap.size := by omega))
    (try (have m3_1 : ¬ w1.heap.size = w3.heap.size := by omega)); (try (have m3_1' : ¬ w3.heap.size = w1.heap.size := by omega))
    (try (have m3_2 : ¬ w2.heap.size = w3.heap.size := by omega)); (try (have m3_2' : ¬ w3.heap.size = w2.heap.size := by omega))
    clear h3 k3 B2
    go_wp2_with fail
    refine (k5 _).mono ?_
    rintro e w4 ⟨rfl, h4⟩
    have B4 : Below w.heap.size w w4 := Below.trans (by go_grown) (h4.mono (by first | (simp; done) | omega | (simp; omega)))
    have y4 := B4.size
    clear C0c0 C0c1 C0c2 C0f0 C0f1 C0f2 C0z
    (try (have m4_0 : ¬ w.heap.size = w4.heap.size := by omega)); (try (have m4_0' : ¬ w4.heap.size = w.heap.size := by omega))
    (try (have m4_1 : ¬ w1.heap.size = w4.heap.size := by omega)); (try (have m4_1' : ¬ w4.heap.size = w1.heap.size := by omega))
    (try (have m4_2 : ¬ w2.heap.size = w4.heap.size := by omega)); (try (have m4_2' : ¬ w4.heap.size = w2.heap.size := by omega))
    (try (have m4_3 : ¬ w3.heap.size = w4.heap.size := by omega)); (try (have m4_3' : ¬ w4.heap.size = w3.heap.size := by omega))
    clear h4 k5 B3
    go_wp2_with fail
    refine (k6 _).mono ?_
    rintro e w5 ⟨rfl, h5⟩
    have B5 : Below w.heap.size w w5 := Below.trans (by go_grown) (h5.mono (by first | (simp; done) | omega | (simp; omega)))
    have y5 := B5.size
    (try (have m5_0 : ¬ w.heap.size = w5.heap.size := by omega)); (try (have m5_0' : ¬ w5.heap.size = w.heap.size := by omega))
    (try (have m5_1 : ¬ w1.heap.size = w5.heap.size := by omega)); (try (have m5_1' : ¬ w5.heap.size = w1.heap.size := by omega))
    (try (have m5_2 : ¬ w2.heap.size = w5.heap.size := by omega)); (try (have m5_2' : ¬ w5.heap.size = w2.heap.size := by omega))
    (try (have m5_3 : ¬ w3.heap.size = w5.heap.size := by omega)); (try (have m5_3' : ¬ w5.heap.size = w3.heap.size := by omega))
    (try (have m5_4 : ¬ w4.heap.size = w5.heap.size := by omega)); (try (have m5_4' : ¬ w5.heap.size = w4.heap.size := by omega))
    clear h5 k6 B4
    go_wp2_with fail
    go_returns
    exact ⟨rfl, by go_grown⟩
set_option maxRecDepth 100000 in
set_option maxHeartbeats 4000000 in
theorem rround_stay_false (v p t r a q x n : Int) (neg : Bool) (i : Nat) (hp : ¬ p < 0) (hp2 : ¬ 6 < p) (ep : 6 - p = (i : Int)) (t0 : 1 ≤ t) (t1 : t ≤ 1000000) (r0 : 0 ≤ r) (r1 : r < 1000000) (g : ¬ t ≤ 2 * r ∨ (t ≤ 2 * r ∧ ¬ 1 < t))
    (k1 : ∀ w, Calls Tryd.prog 31 #[.int .i64 v] w fun e w' => e = .returned (.tuple #[mgV a, .bool neg]) ∧ Below w.heap.size w w')
    (k2 : ∀ w, Calls Tryd.prog 25 #[.int .i64 (i : Int)] w fun e w' => e = .returned (.int .u64 t) ∧ Below w.heap.size w w')
    (k3 : ∀ w, Calls Tryd.prog 46 #[mgV a, .int .u64 t] w fun e w' => e = .returned (.tuple #[mgV q, .int .u64 r]) ∧ Below w.heap.size w w')
    (k5 : ∀ w, Calls Tryd.prog 48 #[mgV q, .int .u64 t] w fun e w' => e = .returned (mgV x) ∧ Below w.heap.size w w')
    (k6 : ∀ w, Calls Tryd.prog 29 #[mgV x, .bool neg] w fun e w' => e = .returned (.tuple #[.int .i64 n, .bool false]) ∧ Below w.heap.size w w')
    (w : World) : Calls Tryd.prog 24 #[.int .i64 v, .int .i64 p] w fun e w' => e = .returned (.tuple #[.int .i64 0, .int .i64 10]) ∧ Below w.heap.size w w' := by
  rcases g with g | ⟨g, g2⟩
  all_goals
    go_enter Tryd.func24, Tryd.ntmps24
    go_wp2_with fail
    refine (k1 _).mono ?_
    rintro e w1 ⟨rfl, h1⟩
    have B1 : Below w.heap.size w w1 := Below.trans (by go_grown) (h1.mono (by first | (simp; done) | omega | (simp; omega)))
    have y1 := B1.size
    (try (have m1_0 : ¬ w.heap.size = w1.heap.size := by omega)); (try (have m1_0' : ¬ w1.heap.size = w.heap.size := by omega))
    clear h1 k1
    go_wp2_with fail
    refine (k2 _).mono ?_
    rintro e w2 ⟨rfl, h2⟩
    have B2 : Below w.heap.size w w2 := Below.trans (by go_grown) (h2.mono (by first | (simp; done) | omega | (simp; omega)))
    have y2 := B2.size
    have B0 := box3 h2 (w1.heap.size) (.int .u64 (mh a)) (.int .u64 (ml a)) (.bool (mo a)) (by first | assumption | (simp [go_sem]; done) | (simp [go_sem]; done)) (by first | assumption | (simp [go_sem]; done) | (simp [go_sem]; done)) (by first | assumption | (simp [go_sem]; done) | (simp [go_sem]; done)) (by first | assumption | (simp [go_sem]; done) | (simp [go_sem]; done)) (by first | assumption | (simp [go_sem]; done) | (simp [go_sem]; done)) (by first | assumption | (simp [go_sem]; done) | (simp [go_sem]; done)) (by first | assumption | omega | (simp; done) | (simp; omega))
    obtain ⟨B0c0, B0c1, B0c2, B0f0, B0f1, B0f2, B0z⟩ := B0
    (try (have m2_0 : ¬ w.heap.size = w2.heap.size := by omega)); (try (have m2_0' : ¬ w2.heap.size = w.heap.size := by omega))
    (try (have m2_1 : ¬ w1.heap.size = w2.heap.size := by omega)); (try (have m2_1' : ¬ w2.heap.size = w1.heap.size := by omega))
    clear h2 k2 B1
    go_wp2_with fail
    refine (k3 _).mono ?_
    rintro e w3 ⟨rfl, h3⟩
    have B3 : Below w.heap.size w w3 := Below.trans (by go_grown) (h3.mono (by first | (simp; done) | omega | (simp; omega)))
    have y3 := B3.size
    have C0 := box3 h3 (w1.heap.size) (.int .u64 (mh a)) (.int .u64 (ml a)) (.bool (mo a)) (by first | assumption | (refine (Below.cell ?_ B0z).trans B0c0; go_grown; done) | (simp [go_sem, B0c0]; done) | (simp [go_sem, B0c0, B0z]; done) | (simp [go_sem, B0c0, B0c1, B0c2, B0f0, B0f1, B0f2, B0z]; done)) (by first | assumption | (refine (Below.cell ?_ B0z).trans B0c1; go_grown; done) | (simp [go_sem, B0c1]; done) | (simp [go_sem, B0c1, B0z]; done) | (simp [go_sem, B0c0, B0c1, B0c2, B0f0, B0f1, B0f2, B0z]; done)) (by first | assumption | (refine (Below.cell ?_ B0z).trans B0c2; go_grown; done) | (simp [go_sem, B0c2]; done) | (simp [go_sem, B0c2, B0z]; done) | (simp [go_sem, B0c0, B0c1, B0c2, B0f0, B0f1, B0f2, B0z]; done)) (by first | assumption | (refine (Below.frozen ?_ B0z).trans B0f0; go_grown; done) | (simp [go_sem, B0f0]; done) | (simp [go_sem, B0f0, B0z]; done) | (simp [go_sem, B0c0, B0c1, B0c2, B0f0, B0f1, B0f2, B0z]; done)) (by first | assumption | (refine (Below.frozen ?_ B0z).trans B0f1; go_grown; done) | (simp [go_sem, B0f1]; done) | (simp [go_sem, B0f1, B0z]; done) | (simp [go_sem, B0c0, B0c1, B0c2, B0f0, B0f1, B0f2, B0z]; done)) (by first | assumption | (refine (Below.frozen ?_ B0z).trans B0f2; go_grown; done) | (simp [go_sem, B0f2]; done) | (simp [go_sem, B0f2, B0z]; done) | (simp [go_sem, B0c0, B0c1, B0c2, B0f0, B0f1, B0f2, B0z]; done)) (by first | assumption | omega | (simp; done) | (simp; omega))
    clear B0c0 B0c1 B0c2 B0f0 B0f1 B0f2 B0z
    obtain ⟨C0c0, C0c1, C0c2, C0f0, C0f1, C0f2, C0z⟩ := C0
    (try (have m3_0 : ¬ w.heap.size = w3.heap.size := by omega)); (try (have m3_0' : ¬ w3.heap.size = w.heap.size := by omega))
    (try (have m3_1 : ¬ w1.heap.size = w3.heap.size := by omega)); (try (have m3_1' : ¬ w3.heap.size = w1.heap.size := by omega))
    (try (have m3_2 : ¬ w2.heap.size = w3.heap.size := by omega)); (try (have m3_2' : ¬ w3.heap.size = w2.heap.size := by omega))
    clear h3 k3 B2
    go_wp2_with fail
    refine (k5 _).mono ?_
    rintro e w4 ⟨rfl, h4⟩
    have B4 : Below w.heap.size w w4 := Below.trans (by go_grown) (h4.mono (by first | (simp; done) | omega | (simp; omega)))
    have y4 := B4.size
    clear C0c0 C0c1 C0c2 C0f0 C0f1 C0f2 C0z
    (try (have m4_0 : ¬ w.heap.size = w4.heap.size := by omega)); (try (have m4_0' : ¬ w4.heap.size = w.heap.size := by omega))
    (try (have m4_1 : ¬ w1.heap.size = w4.heap.size := by omega)); (try (have m4_1' : ¬ w4.heap.size = w1.heap.size := by omega))
    (try (have m4_2 : ¬ w2.heap.size = w4.heap.size := by omega)); (try (have m4_2' : ¬ w4.heap.size = w2.heap.size := by omega))
    (try (have m4_3 : ¬ w3.heap.size = w4.heap.size := by omega)); (try (have m4_3' : ¬ w4.heap.size = w3.heap.size := by omega))
    clear h4 k5 B3
    go_wp2_with fail
    refine (k6 _).mono ?_
    rintro e w5 ⟨rfl, h5⟩
    have B5 : Below w.heap.size w w5 := Below.trans (by go_grown) (h5.mono (by first | (simp; done) | omega | (simp; omega)))
    have y5 := B5.size
    (try (have m5_0 : ¬ w.heap.size = w5.heap.size := by omega)); (try (have m5_0' : ¬ w5.heap.size = w.heap.size := by omega))
    (try (have m5_1 : ¬ w1.heap.size = w5.heap.size := by omega)); (try (have m5_1' : ¬ w5.heap.size = w1.heap.size := by omega))
    (try (have m5_2 : ¬ w2.heap.size = w5.heap.size := by omega)); (try (have m5_2' : ¬ w5.heap.size = w2.heap.size := by omega))
    (try (have m5_3 : ¬ w3.heap.size = w5.heap.size := by omega)); (try (have m5_3' : ¬ w5.heap.size = w3.heap.size := by omega))
    (try (have m5_4 : ¬ w4.heap.size = w5.heap.size := by omega)); (try (have m5_4' : ¬ w5.heap.size = w4.heap.size := by omega))
    clear h5 k6 B4
    go_wp2_with fail
    go_returns
    exact ⟨rfl, by go_grown⟩
set_option maxRecDepth 100000 in
set_option maxHeartbeats 4000000 in
theorem rround_low (v p : Int) (h : p < 0)
    (w : World) : Calls Tryd.prog 24 #[.int .i64 v, .int .i64 p] w fun e w' => e = .returned (.tuple #[.int .i64 0, .int .i64 1]) ∧ Below w.heap.size w w' := by
  go_enter Tryd.func24, Tryd.ntmps24
  go_wp2_with fail
  go_returns
  exact ⟨rfl, by go_grown⟩
set_option maxRecDepth 100000 in
set_option maxHeartbeats 4000000 in
theorem rround_high (v p : Int) (h : 6 < p) (h2 : ¬ p < 0)
    (w : World) : Calls Tryd.prog 24 #[.int .i64 v, .int .i64 p] w fun e w' => e = .returned (.tuple #[.int .i64 0, .int .i64 1]) ∧ Below w.heap.size w w' := by
  go_enter Tryd.func24, Tryd.ntmps24
  go_wp2_with fail
  go_returns
  exact ⟨rfl, by go_grown⟩
theorem near_pos (u t : Int) (hu : 0 ≤ u) (t0 : 1 ≤ t) : nearV u t = (if t ≤ 2 * (u % t) ∧ 1 < t then u / t + 1 else u / t) * t := by
  have m0 := Int.emod_nonneg u (show t ≠ 0 by omega)
  have m1 := Int.emod_lt_of_pos u (show 0 < t by omega)
  have e : Int.tmod u t = u % t := Int.tmod_eq_emod_of_nonneg hu
  have d := Int.emod_add_mul_ediv u t
  have c : t * (u / t) = u / t * t := Int.mul_comm _ _
  unfold nearV
  rw [e]
  by_cases g : t ≤ 2 * (u % t) ∧ 1 < t
  · rw [if_pos g, if_pos ⟨by omega, g.1⟩, Int.add_mul, Int.one_mul]; omega
  · rw [if_neg g, if_neg (fun q => g ⟨q.2, by omega⟩), if_neg (fun q => by omega)]; omega
theorem near_neg (u t : Int) (hu : 0 ≤ u) (t0 : 1 ≤ t) : nearV (-u) t = -((if t ≤ 2 * (u % t) ∧ 1 < t then u / t + 1 else u / t) * t) := by
  have m0 := Int.emod_nonneg u (show t ≠ 0 by omega)
  have m1 := Int.emod_lt_of_pos u (show 0 < t by omega)
  have e : Int.tmod (-u) t = -(u % t) := by rw [Int.neg_tmod, Int.tmod_eq_emod_of_nonneg hu]
  have d := Int.emod_add_mul_ediv u t
  have c : t * (u / t) = u / t * t := Int.mul_comm _ _
  unfold nearV
  rw [e]
  by_cases g : t ≤ 2 * (u % t) ∧ 1 < t
  · rw [if_pos g, if_neg (fun q => by omega), if_pos ⟨by omega, by omega⟩, Int.add_mul, Int.one_mul]; omega
  · rw [if_neg g, if_neg (fun q => by omega), if_neg (fun q => g ⟨by omega, by omega⟩)]; omega
theorem near_sg (v t : Int) (t0 : 1 ≤ t) : nearV v t = sg (decide (v < 0)) ((if t ≤ 2 * (ab v % t) ∧ 1 < t then ab v / t + 1 else ab v / t) * t) := by
  by_cases h : v < 0
  · have ea : ab v = -v := by unfold ab; rw [if_pos h]
    rw [decide_eq_true h, sg_t, ea]
    have k := near_neg (-v) t (by omega) t0
    rwa [Int.neg_neg] at k
  · have ea : ab v = v := by unfold ab; rw [if_neg h]
    rw [decide_eq_false h, sg_f, ea]
    exact near_pos v t (by omega) t0
theorem rround_mid (v p : Int) (i : Nat) (j : IsHi v) (hp : 0 ≤ p) (hp2 : p ≤ 6) (ep : 6 - p = (i : Int)) (w : World) :
    Calls Tryd.prog 24 #[.int .i64 v, .int .i64 p] w fun e w' => e = .returned (.tuple #[.int .i64 (smallV (nearV v (tenN i))), .int .i64 (if IsHi (nearV v (tenN i)) then 0 else 10)]) ∧ Below w.heap.size w w' := by
  obtain ⟨t0, t1⟩ := tenN_bd i (by omega)
  have k1 := rof_spec v j
  have k2 := ten_spec i (by omega)
  generalize tenN i = t at *
  have a0 := ab_nonneg v
  have a1 : ab v ≤ 9223372036854775808 := by obtain ⟨_, _⟩ := j; unfold ab; split <;> omega
  have k3 := by_mg (ab v) t a0 (by omega) (by omega) (by omega)
  have q0 : 0 ≤ ab v / t := Int.ediv_nonneg a0 (by omega)
  have q1 : ab v / t ≤ ab v := Int.ediv_le_self _ a0
  have r0 := Int.emod_nonneg (ab v) (show t ≠ 0 by omega)
  have r1 := Int.emod_lt_of_pos (ab v) (show 0 < t by omega)
  have d := Int.emod_add_mul_ediv (ab v) t
  have hs := near_sg v t t0
  have tl : IsLo t := ⟨by omega, by omega⟩
  by_cases g : t ≤ 2 * (ab v % t) ∧ 1 < t
  · rw [if_pos g] at hs
    have k4 := plus_mg (ab v / t) 1 q0 (by omega)
    rw [mg_small (x := 1) (by omega) (by omega)] at k4
    have k5 := times_mg (ab v / t + 1) t (by omega) tl
    have x0 : 0 ≤ (ab v / t + 1) * t := Int.mul_nonneg (by omega) (by omega)
    have x1 : (ab v / t + 1) * t < 340282366920938463463374607431768211456 := by
      rw [Int.add_mul, Int.one_mul, Int.mul_comm]; omega
    have k6 := rsmall_mg _ (decide (v < 0)) x0 x1
    rw [← hs] at k6
    by_cases h : IsHi (nearV v t)
    · rw [if_pos h]
      rw [show smallB (nearV v t) = true by unfold smallB; exact decide_eq_true h] at k6
      exact rround_up_true v p t _ _ _ _ _ _ _ i (by omega) (by omega) ep t0 t1 r0 (by omega) g.1 g.2 k1 k2 k3 k4 k5 k6 w
    · rw [if_neg h, show smallV (nearV v t) = 0 by unfold smallV; rw [if_neg h]]
      rw [show smallB (nearV v t) = false by unfold smallB; exact decide_eq_false h] at k6
      exact rround_up_false v p t _ _ _ _ _ _ _ i (by omega) (by omega) ep t0 t1 r0 (by omega) g.1 g.2 k1 k2 k3 k4 k5 k6 w
  · rw [if_neg g] at hs
    have g' : ¬ t ≤ 2 * (ab v % t) ∨ (t ≤ 2 * (ab v % t) ∧ ¬ 1 < t) := by omega
    have k5 := times_mg (ab v / t) t (by omega) tl
    have x0 : 0 ≤ (ab v / t) * t := Int.mul_nonneg (by omega) (by omega)
    have x1 : (ab v / t) * t < 340282366920938463463374607431768211456 := by
      rw [Int.mul_comm]; omega
    have k6 := rsmall_mg _ (decide (v < 0)) x0 x1
    rw [← hs] at k6
    by_cases h : IsHi (nearV v t)
    · rw [if_pos h]
      rw [show smallB (nearV v t) = true by unfold smallB; exact decide_eq_true h] at k6
      exact rround_stay_true v p t _ _ _ _ _ _ i (by omega) (by omega) ep t0 t1 r0 (by omega) g' k1 k2 k3 k5 k6 w
    · rw [if_neg h, show smallV (nearV v t) = 0 by unfold smallV; rw [if_neg h]]
      rw [show smallB (nearV v t) = false by unfold smallB; exact decide_eq_false h] at k6
      exact rround_stay_false v p t _ _ _ _ _ _ i (by omega) (by omega) ep t0 t1 r0 (by omega) g' k1 k2 k3 k5 k6 w
/-- The table of powers, where it lies. -/
def Pows (w : World) : Prop := ∀ i, i ≤ 6 → w.cell? ⟨0, i, none⟩ = some (.int .i64 (tenN i)) ∧ 0 < w.heap.size
theorem Pows.later {w w' : World} (h : Pows w) (k : Below w.heap.size w w') : Pows w' := fun i hi =>
  ⟨(k.cell (p := ⟨0, i, none⟩) (h i hi).2).trans (h i hi).1, Nat.lt_of_lt_of_le (h i hi).2 k.size⟩
theorem pows_of {W : World} (h : laidMetH Tryd.prog Rows.microRoundsRow.laid W) : Pows W := fun i hi => by
  have c := pow_cell h i (by omega)
  refine ⟨c, ?_⟩
  unfold World.cell? at c
  apply Decidable.byContradiction; intro g
  rw [Array.getElem?_eq_none (by show W.heap.size ≤ 0; omega)] at c
  exact absurd c (by simp)
def roundR (v p : Int) : Ending := if p < 0 ∨ 6 < p then .returned (.tuple #[.int .i64 0, .int .i64 1]) else .returned (.tuple #[.int .i64 (smallV (nearV v (tenN (6 - p).toNat))), .int .i64 (if IsHi (nearV v (tenN (6 - p).toNat)) then 0 else 10)])
theorem round_spec (v p : Int) (j : IsHi v) (w : World) (h : Pows w) :
    Calls Tryd.prog 23 #[.int .i64 v, .int .i64 p] w fun e w' => e = roundR v p ∧ Below w.heap.size w w' := by
  unfold roundR
  by_cases a : p < 0
  · rw [if_pos (.inl a)]; exact mround_low v p a w
  by_cases b : 6 < p
  · rw [if_pos (.inr b)]; exact mround_high v p b a w
  rw [if_neg (by omega)]
  obtain ⟨t0, t1⟩ := tenN_bd (6 - p).toNat (by omega)
  exact mround_mid v p _ (6 - p).toNat j (by omega) (by omega) (by omega) t0 t1 w (h _ (by omega)).1
theorem rround_spec (v p : Int) (j : IsHi v) (w : World) :
    Calls Tryd.prog 24 #[.int .i64 v, .int .i64 p] w fun e w' => e = roundR v p ∧ Below w.heap.size w w' := by
  unfold roundR
  by_cases a : p < 0
  · rw [if_pos (.inl a)]; exact rround_low v p a w
  by_cases b : 6 < p
  · rw [if_pos (.inr b)]; exact rround_high v p b a w
  rw [if_neg (by omega)]
  exact rround_mid v p (6 - p).toNat j (by omega) (by omega) (by omega) w
set_option maxRecDepth 100000 in
set_option maxHeartbeats 4000000 in
theorem rounds_walk (v p n er : Int)
    (k1 : ∀ w, Pows w → Calls Tryd.prog 23 #[.int .i64 v, .int .i64 p] w fun e w' => e = .returned (.tuple #[.int .i64 n, .int .i64 er]) ∧ Below w.heap.size w w')
    (k2 : ∀ w, Calls Tryd.prog 24 #[.int .i64 v, .int .i64 p] w fun e w' => e = .returned (.tuple #[.int .i64 n, .int .i64 er]) ∧ Below w.heap.size w w')
    (k3 : ∀ w, Pows w → Calls Tryd.prog 23 #[.int .i64 1450000, .int .i64 1] w fun e w' => e = .returned (.tuple #[.int .i64 1500000, .int .i64 0]) ∧ Below w.heap.size w w')
    (w : World) (H : Pows w) : Calls Tryd.prog 11 #[.int .i64 v, .int .i64 p] w fun e w' => e = .returned (.bool true) ∧ Below w.heap.size w w' := by
  have HH := hide H
  clear H
  go_enter Tryd.func11, Tryd.ntmps11
  go_wp2_with fail
  refine (k1 _ HH.out).mono ?_
  rintro e w1 ⟨rfl, h1⟩
  clear k1
  go_wp2_with fail
  refine (k2 _).mono ?_
  rintro e w2 ⟨rfl, h2⟩
  clear k2
  have B2 : Below w.heap.size w w2 := h1.trans (h2.mono h1.size)
  clear h1 h2
  go_wp2_with fail
  refine (k3 _ (HH.out.later B2)).mono ?_
  rintro e w3 ⟨rfl, h3⟩
  clear k3
  have B3 : Below w.heap.size w w3 := B2.trans (h3.mono B2.size)
  clear h3 B2
  go_wp2_with fail
  go_returns
  exact ⟨rfl, B3⟩
theorem law_MicroRounds (v p : Int) (wv : (Lit.int .i64 v).wf = true) (wp : (Lit.int .i64 p).wf = true) (W : World) (hL : laidMetH Tryd.prog Rows.microRoundsRow.laid W) :
    Calls Tryd.prog 11 #[.int .i64 v, .int .i64 p] W fun e w' => e = .returned (.bool true) ∧ Below W.heap.size W w' := by
  have j := hi_of_wf wv
  have k1 := fun w h => round_spec v p j w h
  have k2 := fun w => rround_spec v p j w
  have k3 := fun w h => round_spec 1450000 1 ⟨by omega, by omega⟩ w h
  rw [show roundR 1450000 1 = .returned (.tuple #[.int .i64 1500000, .int .i64 0]) by rfl] at k3
  obtain ⟨n, er, e⟩ : ∃ n er, roundR v p = .returned (.tuple #[.int .i64 n, .int .i64 er]) := by unfold roundR; split <;> exact ⟨_, _, rfl⟩
  rw [e] at k1 k2
  exact rounds_walk v p n er k1 k2 k3 W (pows_of hL)
end Go.Proofs.YtdjehbagnkfkpaaDoor
