/- Texts that belong together: Trank Tup Tups Tbin Tbins Tshufm Twm Intu Lawtw Lawtx. -/
import Derived.Test.YtebiddmadmmfpaaG02
import Derived.Deep.DeepCutAuto
import Derived.Test.YtebiddmadmmfpaaG03
import Derived.Test.YtebiddmadmmfpaaG01
import Derived.Deep.OwnRows
import Derived.Deep.QuietTactic
import Derived.BigQuiet
import Derived.Laws.MakeOwn
import Derived.Deep.CutRange
set_option linter.unusedSimpArgs false
set_option linter.unusedVariables false
/- timer: rank; Rank. (gen_tm2.py) -/
namespace Go.Proofs.Ytebiddmadmmfpaa
set_option linter.unusedVariables false
set_option linter.unusedSimpArgs false
open Go.RowKit W T9
set_option maxRecDepth 100000 in
set_option maxHeartbeats 8000000 in
theorem rank_walk (n p n1 n0 p1 p0 s1 s0 d1 d0 q1 q0 r1 r0 er er2 v g res : Int) (b : Bool) (v0 : 0 ≤ v) (v2 : v ≤ 9223372036854775807) (v1 : Hid (0 < g → v < 9223372036854775807)) (hy : Hid (0 < g → res = v + 1)) (hn : Hid (¬ 0 < g → res = v))
    (k1 : ∀ w, Calls Try.prog 24 #[.int .i64 n] w fun e w' => e = .returned (.agg #[.int .i64 n1, .int .u64 n0]) ∧ Below w.heap.size w w')
    (k2 : ∀ w, Calls Try.prog 24 #[.int .i64 p] w fun e w' => e = .returned (.agg #[.int .i64 p1, .int .u64 p0]) ∧ Below w.heap.size w w')
    (k3 : ∀ w, Calls Try.prog 27 #[.agg #[.int .i64 n1, .int .u64 n0], .agg #[.int .i64 p1, .int .u64 p0]] w fun e w' => e = .returned (.tuple #[.agg #[.int .i64 s1, .int .u64 s0], .int .i64 er2]) ∧ Below w.heap.size w w')
    (kf : ∀ w, Calls Try.prog 24 #[.int .i64 100000000] w fun e w' => e = .returned (.agg #[.int .i64 d1, .int .u64 d0]) ∧ Below w.heap.size w w')
    (kq : ∀ w, Calls Try.prog 26 #[.agg #[.int .i64 s1, .int .u64 s0], .agg #[.int .i64 d1, .int .u64 d0]] w fun e w' => e = .returned (.tuple #[.agg #[.int .i64 q1, .int .u64 q0], .agg #[.int .i64 r1, .int .u64 r0], .int .i64 er]) ∧ Below w.heap.size w w')
    (km : ∀ w, Calls Try.prog 55 #[.agg #[.int .i64 q1, .int .u64 q0]] w fun e w' => e = .returned (.tuple #[.int .i64 v, .bool b]) ∧ Below w.heap.size w w')
    (kg : ∀ w, Calls Try.prog 49 #[.agg #[.int .i64 r1, .int .u64 r0]] w fun e w' => e = .returned (.int .i64 g) ∧ Below w.heap.size w w')
    (w : World) : Calls Try.prog 29 #[.int .i64 n, .int .i64 p] w fun e w' => e = .returned (.int .i64 res) ∧ Below w.heap.size w w' := by
  go_enter Try.func29, Try.ntmps29
  go_wp2_with fail
  refine (k1 _).mono ?_
  rintro e w1 ⟨rfl, h1⟩
  clear k1
  go_wp2_with fail
  refine (k2 _).mono ?_
  rintro e w2 ⟨rfl, h2⟩
  clear k2
  go_wp2_with fail
  refine (k3 _).mono ?_
  rintro e w3 ⟨rfl, h3⟩
  clear k3
  have b3 : Below w.heap.size w w3 := (h1.trans (h2.mono h1.size)).trans (h3.mono (Nat.le_trans h1.size h2.size))
  have y3 := b3.size
  clear h1 h2 h3
  go_wp2_with fail
  refine abs_wp (fun W => W.cell? ⟨w3.heap.size, 0, none⟩ = some (.int .i64 s1) ∧ W.cell? ⟨w3.heap.size, 1, none⟩ = some (.int .u64 s0) ∧ w3.heap.size < W.heap.size ∧ Below w.heap.size w W) ?_ ?_
  · refine ⟨?_, ?_, ?_, ?_⟩
    all_goals first | assumption | (go_grown; done) | (simp [go_sem]; done) | (simp; done) | omega | (simp; omega)
  rintro W ⟨c0, c1, zW, BW⟩
  go_cut [7, 8] (fun q7 q8 W' => ∃ X Y : Nat, q7 = .pointer (some ⟨X, 0, none⟩) ∧ q8 = .pointer (some ⟨Y, 0, none⟩) ∧ Box2 W'  X (.int .i64 q1) (.int .u64 q0) ∧ Box2 W'  Y (.int .i64 r1) (.int .u64 r0) ∧ Keeps W.heap.size W W')
  case first =>
    have K0 := Keeps.start (Nat.le_refl W.heap.size)
    have K1 := K0.drew
    go_region_held3 (fun w' => w'.cell? ⟨w3.heap.size, 0, none⟩ = some (.int .i64 s1) ∧ w'.cell? ⟨w3.heap.size, 1, none⟩ = some (.int .u64 s0) ∧ Keeps W.heap.size W w') ((refine (fun K => ⟨Keeps.cell K c0 (by omega), Keeps.cell K c1 (by omega), K⟩) (?_ : Keeps W.heap.size W _); ((repeat (first | with_reducible assumption | with_reducible refine Keeps.alloc ?_ _ | with_reducible refine Keeps.drew ?_ | with_reducible refine Keeps.setCell ?_ ?_ _)); (all_goals (first | (simp; done) | omega | (simp; omega))))))
      (first
      | (go_at_call 24; refine (kf _).mono ?_; rintro e v20 ⟨rfl, hb20⟩; have K20 := Keeps.call (B := W.heap.size) (W := W) (by (repeat (first | with_reducible assumption | with_reducible refine Keeps.alloc ?_ _ | with_reducible refine Keeps.drew ?_ | with_reducible refine Keeps.setCell ?_ ?_ _)); (all_goals (first | (simp; done) | omega | (simp; omega)))) hb20; obtain ⟨bc20, bf20, bs20⟩ := bcell hb20; (try simp only [World.size_alloc, World.size_drew] at bc20 bf20 bs20); (try (have ov200 : W.heap.size < v20.heap.size := by omega)); (try (have ov201 : W.heap.size ≤ v20.heap.size := by omega)); (try (have ov202 : ¬ W.heap.size = v20.heap.size := by omega)); (try (have ov203 : ¬ v20.heap.size = W.heap.size := by omega)); (try (have ov204 : W.heap.size + 1 < v20.heap.size := by omega)); (try (have ov205 : W.heap.size + 1 ≤ v20.heap.size := by omega)); (try (have ov206 : ¬ W.heap.size + 1 = v20.heap.size := by omega)); (try (have ov207 : ¬ v20.heap.size = W.heap.size + 1 := by omega)))
      | (go_at_call 26; refine (kq _).mono ?_; rintro e v21 ⟨rfl, hb21⟩; have K21 := Keeps.call (B := W.heap.size) (W := W) (by (repeat (first | with_reducible assumption | with_reducible refine Keeps.alloc ?_ _ | with_reducible refine Keeps.drew ?_ | with_reducible refine Keeps.setCell ?_ ?_ _)); (all_goals (first | (simp; done) | omega | (simp; omega)))) hb21; obtain ⟨bc21, bf21, bs21⟩ := bcell hb21; (try simp only [World.size_alloc, World.size_drew] at bc21 bf21 bs21); (try (have ov210 : W.heap.size < v21.heap.size := by omega)); (try (have ov211 : W.heap.size ≤ v21.heap.size := by omega)); (try (have ov212 : ¬ W.heap.size = v21.heap.size := by omega)); (try (have ov213 : ¬ v21.heap.size = W.heap.size := by omega)); (try (have ov214 : W.heap.size + 1 < v21.heap.size := by omega)); (try (have ov215 : W.heap.size + 1 ≤ v21.heap.size := by omega)); (try (have ov216 : ¬ W.heap.size + 1 = v21.heap.size := by omega)); (try (have ov217 : ¬ v21.heap.size = W.heap.size + 1 := by omega)); (try (have ov218 : v20.heap.size < v21.heap.size := by omega)); (try (have ov219 : v20.heap.size ≤ v21.heap.size := by omega)); (try (have ov2110 : ¬ v20.heap.size = v21.heap.size := by omega)); (try (have ov2111 : ¬ v21.heap.size = v20.heap.size := by omega)); (try (have ov2112 : v20.heap.size + 1 < v21.heap.size := by omega)); (try (have ov2113 : v20.heap.size + 1 ≤ v21.heap.size := by omega)); (try (have ov2114 : ¬ v20.heap.size + 1 = v21.heap.size := by omega)); (try (have ov2115 : ¬ v21.heap.size = v20.heap.size + 1 := by omega))))
    all_goals
      go_wp2_with fail
      go_meet
      case rel =>
        refine ⟨_, _, rfl, rfl, ⟨?_, ?_, ?_, ?_, ?_⟩, ⟨?_, ?_, ?_, ?_, ?_⟩, ?_⟩
        · first | (go_simp; done) | (go_simp; refine World.cell?_setCell_same' _ _ _ ?_; go_simp; done)
        · first | (go_simp; done) | (go_simp; refine World.cell?_setCell_same' _ _ _ ?_; go_simp; done)
        · first | (go_simp; done) | (go_simp; refine World.cell?_setCell_same' _ _ _ ?_; go_simp; done)
        · first | (go_simp; done) | (go_simp; refine World.cell?_setCell_same' _ _ _ ?_; go_simp; done)
        · first | (simp; done) | omega | (simp; omega)
        · first | (go_simp; done) | (go_simp; refine World.cell?_setCell_same' _ _ _ ?_; go_simp; done)
        · first | (go_simp; done) | (go_simp; refine World.cell?_setCell_same' _ _ _ ?_; go_simp; done)
        · first | (go_simp; done) | (go_simp; refine World.cell?_setCell_same' _ _ _ ?_; go_simp; done)
        · first | (go_simp; done) | (go_simp; refine World.cell?_setCell_same' _ _ _ ?_; go_simp; done)
        · first | (simp; done) | omega | (simp; omega)
        · (repeat (first | with_reducible assumption | with_reducible refine Keeps.alloc ?_ _ | with_reducible refine Keeps.drew ?_ | with_reducible refine Keeps.setCell ?_ ?_ _)); (all_goals (first | (simp; done) | omega | (simp; omega)))
  case rest =>
    obtain ⟨X, Y, rfl, rfl, bx, by_, KK⟩ := hcut
    have bl := BW.trans (KK.below.mono BW.size)
    clear KK BW kf kq c0 c1 zW b3
    obtain ⟨x0, x1, x2, x3, x4⟩ := bx
    go_wp2_with fail
    refine (km _).mono ?_
    rintro e w9 ⟨rfl, h9⟩
    have b9 := bl.trans (h9.mono bl.size)
    obtain ⟨z0, z1, z2, z3, z4⟩ := by_.later h9
    clear h9 km bl x0 x1 x2 x3 x4 by_
    go_wp2_with fail
    refine (kg _).mono ?_
    rintro e w10 ⟨rfl, h10⟩
    have b10 := b9.trans (h10.mono b9.size)
    clear h10 kg b9
    by_cases hg : 0 < g
    · obtain rfl : res = v + 1 := hy.out hg
      have v3 := v1.out hg
      go_wp2_with fail
      go_returns
      refine ⟨rfl, ?_⟩
      repeat (first | exact Below.refl _ _ | assumption | refine Below.setCell ?_ (by first | (simp; done) | omega | (simp; omega)) _ | refine Below.drew ?_ | refine below_drewN ?_ _ | refine Below.alloc ?_ (by first | (simp; done) | omega | (simp; omega)) _)
    · obtain rfl : res = v := hn.out (by omega)
      go_wp2_with fail
      go_returns
      refine ⟨rfl, ?_⟩
      repeat (first | exact Below.refl _ _ | assumption | refine Below.setCell ?_ (by first | (simp; done) | omega | (simp; omega)) _ | refine Below.drew ?_ | refine below_drewN ?_ _ | refine Below.alloc ?_ (by first | (simp; done) | omega | (simp; omega)) _)
/-- rank: the nearest rank. -/
theorem rank_spec (n p : Int) (w : World) (h1 : 1 ≤ n) (h2 : n ≤ 9223372036854775807) (p1 : 1 ≤ p) (p2 : p ≤ 100000000) :
    Calls Try.prog 29 #[.int .i64 n, .int .i64 p] w fun e w' => e = .returned (.int .i64 (rnk n p)) ∧ Below w.heap.size w w' := by
  have hn : IsHi n := ⟨by omega, by omega⟩
  have hp : IsHi p := ⟨by omega, by omega⟩
  have k1 := wof_spec n hn
  have k2 := wof_spec p hp
  have kf := wof_spec 100000000 ⟨by omega, by omega⟩
  have k3 := mul_spec (hi n) (lo n) (hi p) (lo p) (hiV_isW (fits_small hn)) (hiV_isW (fits_small hp))
  have a : n * p ≤ n * 100000000 := Int.mul_le_mul_of_nonneg_left p2 (by omega)
  have b : 0 ≤ n * p := Int.mul_nonneg (by omega) (by omega)
  have fm : Fits (n * p) := ⟨by omega, by omega⟩
  rw [V_hi_lo, V_hi_lo] at k3
  unfold sumRes at k3
  unfold wideRes at k1 k2 kf
  rw [resV_fits fm, resE_fits fm] at k3
  have q0 : 0 ≤ n * p / 100000000 := by omega
  have q1 : n * p / 100000000 ≤ n := by omega
  have r0 : 0 ≤ n * p % 100000000 := by omega
  have r1 : n * p % 100000000 < 100000000 := by omega
  have fr : Fits (n * p % 100000000) := ⟨by omega, by omega⟩
  have kg := sign_spec (hi (n * p % 100000000)) (lo (n * p % 100000000)) (isLo_lo _)
  rw [V_hi_lo] at kg
  have c1 : 0 < cmpI (n * p % 100000000) 0 ↔ ¬ n * p % 100000000 = 0 := by
    unfold cmpI; split <;> (try split) <;> omega
  refine rank_walk n p _ _ _ _ _ _ _ _ _ _ _ _ _ _ (n * p / 100000000) _ _ _ q0 (by omega) ?_ ?_ ?_ k1 k2 k3 kf (quo_pos (n * p) 100000000 b (by omega) (by omega) (by omega)) (small_pos _ ⟨by omega, by omega⟩) kg w
  · intro h; rw [c1] at h; omega
  · intro h; rw [c1] at h; unfold rnk; rw [if_neg h]
  · intro h; rw [c1] at h; unfold rnk; rw [if_pos (by omega)]; omega
end Go.Proofs.Ytebiddmadmmfpaa
/- timer: Upto. (gen_tup.py) -/
namespace Go.Proofs.Ytebiddmadmmfpaa
set_option linter.unusedVariables false
set_option linter.unusedSimpArgs false
open Go.RowKit W T9
/-- A box of 5 cells that may be written. -/
structure Box5 (w : World) (b : Nat) (x0 x1 x2 x3 x4 : Value) : Prop where
  x0 : w.cell? ⟨b, 0, none⟩ = some x0
  x1 : w.cell? ⟨b, 1, none⟩ = some x1
  x2 : w.cell? ⟨b, 2, none⟩ = some x2
  x3 : w.cell? ⟨b, 3, none⟩ = some x3
  x4 : w.cell? ⟨b, 4, none⟩ = some x4
  f0 : w.frozen? ⟨b, 0, none⟩ = false
  f1 : w.frozen? ⟨b, 1, none⟩ = false
  f2 : w.frozen? ⟨b, 2, none⟩ = false
  f3 : w.frozen? ⟨b, 3, none⟩ = false
  f4 : w.frozen? ⟨b, 4, none⟩ = false
  lt : b < w.heap.size
theorem Box5.later {w w' : World} {b : Nat} {x0 x1 x2 x3 x4 : Value} (h : Box5 w b x0 x1 x2 x3 x4) (k : Below w.heap.size w w') : Box5 w' b x0 x1 x2 x3 x4 :=
  ⟨(k.cell (p := ⟨b, 0, none⟩) h.lt).trans h.x0, (k.cell (p := ⟨b, 1, none⟩) h.lt).trans h.x1, (k.cell (p := ⟨b, 2, none⟩) h.lt).trans h.x2, (k.cell (p := ⟨b, 3, none⟩) h.lt).trans h.x3, (k.cell (p := ⟨b, 4, none⟩) h.lt).trans h.x4, (k.frozen (p := ⟨b, 0, none⟩) h.lt).trans h.f0, (k.frozen (p := ⟨b, 1, none⟩) h.lt).trans h.f1, (k.frozen (p := ⟨b, 2, none⟩) h.lt).trans h.f2, (k.frozen (p := ⟨b, 3, none⟩) h.lt).trans h.f3, (k.frozen (p := ⟨b, 4, none⟩) h.lt).trans h.f4, Nat.lt_of_lt_of_le h.lt k.size⟩
theorem Box5.made {w : World} {x0 x1 x2 x3 x4 : Value} {t : TypeId} : Box5 (w.alloc (.cells #[x0, x1, x2, x3, x4] t)) w.heap.size x0 x1 x2 x3 x4 := by
  refine ⟨?_, ?_, ?_, ?_, ?_, ?_, ?_, ?_, ?_, ?_, ?_⟩ <;> first | (simp [go_sem]; done) | (simp; done)
theorem size_i64u (w : World) : (Go.sizeOf (Try.prog.elem 29)).run Try.prog w = .ok 1 w := by kernel_rfl
theorem ints_upto (a : Option Addr) (n cap r : Nat) (hr : r ≤ n) (hc : n ≤ cap) (v : World) : (Instr.slice 29 (.slice a n cap) none (some (.int .i64 (r : Int))) none).run Try.prog v = .ok (.slice a r cap) v := by
  rw [run_slice_h (P := Try.prog) (w := v) 29 a n cap (by kernel_rfl) .i64 (r : Int) (by omega) (by omega), size_i64u]
  cases a <;> simp [Result.andThen, sliced, Addr.add]
theorem ints_from (h n cap d : Nat) (hd : d < n) (hc : n ≤ cap) (h63 : n ≤ 9223372036854775807) (v : World) : (Instr.slice 29 (.slice (some ⟨h, 0, none⟩) n cap) (some (.int .i64 (d : Int))) none none).run Try.prog v = .ok (.slice (some ⟨h, d, none⟩) (n - d) (cap - d)) v := by
  rw [run_slice_l (P := Try.prog) (w := v) 29 (some ⟨h, 0, none⟩) n cap (by kernel_rfl) .i64 (d : Int) (by omega) (by omega), size_i64u]
  have : ¬ cap = d := by omega
  simp [Result.andThen, sliced, Addr.add, this]
  intro h; exact h.symm
set_option maxRecDepth 100000 in
set_option maxHeartbeats 8000000 in
theorem upto_pos (b off c n q d : Nat) (p x s1 s0 m : Int) (w : World) (hn : n ≤ 17592186044416) (hd : n = d + (q + 1)) (lt : b < w.heap.size) (L : World → Nat → Prop) (p0 : 0 < p) (p1 : p ≤ 100000000)
    (LL : ∀ w' h w'', L w' h → Below w'.heap.size w' w'' → L w'' h) (L0 : ∀ w' h, L w' h → h < w'.heap.size ∧ w'.cell? ⟨h, q, none⟩ = some (.int .i64 x))
    (kc : ∀ w', Below w.heap.size w w' → CalcN 35 #[.slice (some ⟨b, off, none⟩) n c] w' (.int .i64 0))
    (ks : ∀ w', Below w.heap.size w w' → Calls Try.prog 36 #[.slice (some ⟨b, off, none⟩) n c] w' fun e w'' => ∃ h cap, e = .returned (.slice (some ⟨h, 0, none⟩) n cap) ∧ L w'' h ∧ w'.heap.size ≤ h ∧ n ≤ cap ∧ Below w'.heap.size w' w'')
    (kr : ∀ w', Calls Try.prog 29 #[.int .i64 n, .int .i64 p] w' fun e w'' => e = .returned (.int .i64 ((q : Int) + 1)) ∧ Below w'.heap.size w' w'')
    (ku : ∀ g c2 w', L w' g → Calls Try.prog 37 #[.slice (some ⟨g, 0, none⟩) (q + 1) c2] w' fun e w'' => e = .returned (.agg #[.int .i64 s1, .int .u64 s0]) ∧ Below w'.heap.size w' w'')
    (km : ∀ w', Calls Try.prog 38 #[.agg #[.int .i64 s1, .int .u64 s0], .int .i64 ((q : Int) + 1)] w' fun e w'' => e = .returned (.int .i64 m) ∧ Below w'.heap.size w' w'') :
    Calls Try.prog 20 #[.slice (some ⟨b, off, none⟩) n c, .int .i64 p] w fun e w' => e = .returned (.tuple #[.agg #[.int .i64 ((q : Int) + 1), .int .i64 s1, .int .u64 s0, .int .i64 m, .int .i64 x], .int .i64 0]) ∧ Below w.heap.size w w' := by
  have KS := hide ks
  have KU := hide ku
  have HL := hide LL
  have HC := hide L0
  have g1 : ¬ 100000000 < p := by omega
  have g2 : ¬ p < -100000000 := by omega
  have g3 : (p == 0) = false := by simp; omega
  have g4 : 0 < n := by omega
  have g5 : ((n : Int) == 0) = false := by simp; omega
  have g6 : (0 : Int) < (n : Int) := by omega
  have hqn : q + 1 ≤ n := by omega
  have gp : decide (0 < p) = true := decide_eq_true p0
  have DD := hide hd
  clear ku LL L0 hd
  go_enter Try.func20, Try.ntmps20
  go_wp2_with fail
  refine (kc _ (by go_grown)).mono ?_
  rintro e w1 ⟨rfl, rfl⟩
  clear kc
  clear ks
  go_wp2_with fail
  refine (KS.out _ (by go_grown)).mono ?_
  clear KS
  rintro e w2 ⟨h, cap, rfl, H, hh, hc, hb⟩
  have R1 := (Box5.made (w := w)).later hb
  have B1 : Below w.heap.size w w2 := Below.trans (by go_grown) (hb.mono (by simp))
  have nh : h ≠ w.heap.size := by have := hh; simp at this; omega
  clear hb
  have HH1 := hide H
  clear H
  go_wp2_with fail
  refine (kr _).mono ?_
  clear kr
  rintro e w2b ⟨rfl, hr⟩
  have R2 := R1.later hr
  have B2 := B1.trans (hr.mono B1.size)
  have HH := hide (HL.out _ _ _ HH1.out hr)
  clear hr R1 B1 HH1
  have sl : ∀ v, (Instr.slice 29 (.slice (some ⟨h, 0, none⟩) n cap) none (some (.int .i64 ((q : Int) + 1))) none).run Try.prog v = .ok (.slice (some ⟨h, 0, none⟩) (q + 1) cap) v := fun v => by
    have := ints_upto (some ⟨h, 0, none⟩) n cap (q + 1) (by omega) hc v
    rw [show ((q + 1 : Nat) : Int) = (q : Int) + 1 by omega] at this
    exact this
  obtain ⟨hw4, l0⟩ := HC.out _ _ HH.out
  go_wp2_with fail
  clear sl l0 hw4
  refine (KU.out h cap w2b HH.out).mono ?_
  clear KU
  rintro e w3 ⟨rfl, h3⟩
  have B3 := B2.trans (h3.mono B2.size)
  have y3 := h3.size
  go_wp2_with fail
  refine abs_wp (fun W => W.cell? ⟨w3.heap.size, 0, none⟩ = some (.int .i64 s1) ∧ W.cell? ⟨w3.heap.size, 1, none⟩ = some (.int .u64 s0) ∧ w3.heap.size < W.heap.size ∧ Below w3.heap.size w3 W) ?_ ?_
  · exact ⟨by simp [go_sem], by simp [go_sem], by simp, by go_grown⟩
  rintro W ⟨c0, c1, zW, hW⟩
  have BW := hide (B3.trans (hW.mono B3.size))
  have RB := hide (R2.later (h3.trans (hW.mono h3.size)))
  have nz1 : w3.heap.size ≠ w.heap.size := by have := R2.lt; have := h3.size; omega
  have X0 := KeepX.start (r := w.heap.size) (W := W)
  have X1 := X0.drew
  have K0 := Keeps.start (Nat.le_refl W.heap.size)
  have K1 := K0.drew
  clear hW h3 B3 B2 R2 HH y3
  go_region_held3 (fun w' => w'.cell? ⟨w3.heap.size, 0, none⟩ = some (.int .i64 s1) ∧ w'.cell? ⟨w3.heap.size, 1, none⟩ = some (.int .u64 s0) ∧ KeepX W.heap.size w.heap.size W w')
    ((refine (fun K => ⟨(KeepX.cell K _ _ zW nz1).trans c0, (KeepX.cell K _ _ zW nz1).trans c1, K⟩) (?_ : KeepX W.heap.size w.heap.size W _); (repeat (first | with_reducible assumption | with_reducible refine KeepX.setR ?_ _ _ | with_reducible refine KeepX.alloc ?_ _ | with_reducible refine KeepX.drew ?_))))
    (first
    | (go_at_call 38; (with_reducible refine (km _).mono ?_); rintro e v20 ⟨rfl, hb20⟩; have X20 := KeepX.call (B := W.heap.size) (r := w.heap.size) (W := W) (by repeat (first | with_reducible assumption | with_reducible refine KeepX.setR ?_ _ _ | with_reducible refine KeepX.alloc ?_ _ | with_reducible refine KeepX.drew ?_)) hb20; have K20 := Keeps.call (B := W.heap.size) (W := W) (by repeat (first | with_reducible assumption | with_reducible refine Keeps.alloc ?_ _ | with_reducible refine Keeps.drew ?_)) hb20; obtain ⟨rr0, rr1, rr2, rr3, rr4, gg0, gg1, gg2, gg3, gg4, zz⟩ := RB.out.later (Keeps.below K20)))
  all_goals
    go_wp2_with fail
    refine bodyPost_ret (by simp [results, Try.results20, go_sem, *]; try rfl) rfl ?_
    refine ⟨rfl, ?_⟩
    have b20 := BW.out.trans (K20.below.mono BW.out.size)
    repeat (first | with_reducible assumption | with_reducible refine below_setR ?_ _ _ | with_reducible refine Below.drew ?_)
set_option maxRecDepth 100000 in
set_option maxHeartbeats 8000000 in
theorem upto_neg (b off c n q d : Nat) (p x s1 s0 m : Int) (w : World) (hn : n ≤ 17592186044416) (hd : n = d + (q + 1)) (lt : b < w.heap.size) (L : World → Nat → Prop) (p0 : p < 0) (p1 : -100000000 ≤ p)
    (LL : ∀ w' h w'', L w' h → Below w'.heap.size w' w'' → L w'' h) (L0 : ∀ w' h, L w' h → h < w'.heap.size ∧ w'.cell? ⟨h, d, none⟩ = some (.int .i64 x))
    (kc : ∀ w', Below w.heap.size w w' → CalcN 35 #[.slice (some ⟨b, off, none⟩) n c] w' (.int .i64 0))
    (ks : ∀ w', Below w.heap.size w w' → Calls Try.prog 36 #[.slice (some ⟨b, off, none⟩) n c] w' fun e w'' => ∃ h cap, e = .returned (.slice (some ⟨h, 0, none⟩) n cap) ∧ L w'' h ∧ w'.heap.size ≤ h ∧ n ≤ cap ∧ Below w'.heap.size w' w'')
    (kr : ∀ w', Calls Try.prog 29 #[.int .i64 n, .int .i64 (-p)] w' fun e w'' => e = .returned (.int .i64 ((q : Int) + 1)) ∧ Below w'.heap.size w' w'')
    (ku : ∀ g c2 w', L w' g → Calls Try.prog 37 #[.slice (some ⟨g, d, none⟩) (q + 1) c2] w' fun e w'' => e = .returned (.agg #[.int .i64 s1, .int .u64 s0]) ∧ Below w'.heap.size w' w'')
    (km : ∀ w', Calls Try.prog 38 #[.agg #[.int .i64 s1, .int .u64 s0], .int .i64 ((q : Int) + 1)] w' fun e w'' => e = .returned (.int .i64 m) ∧ Below w'.heap.size w' w'') :
    Calls Try.prog 20 #[.slice (some ⟨b, off, none⟩) n c, .int .i64 p] w fun e w' => e = .returned (.tuple #[.agg #[.int .i64 ((q : Int) + 1), .int .i64 s1, .int .u64 s0, .int .i64 m, .int .i64 x], .int .i64 0]) ∧ Below w.heap.size w w' := by
  have KS := hide ks
  have KU := hide ku
  have HL := hide LL
  have HC := hide L0
  have g1 : ¬ 100000000 < p := by omega
  have g2 : ¬ p < -100000000 := by omega
  have g3 : (p == 0) = false := by simp; omega
  have g4 : 0 < n := by omega
  have g5 : ((n : Int) == 0) = false := by simp; omega
  have g6 : (0 : Int) < (n : Int) := by omega
  have gp : decide (0 < p) = false := decide_eq_false (by omega)
  have gw : IntKind.i64.wrap (-p) = -p := by rw [IntKind.wrap_i64]; omega
  have gd : IntKind.i64.wrap ((n : Int) - ((q : Int) + 1)) = (d : Int) := by rw [IntKind.wrap_i64]; omega
  have gd2 : (n : Int) - ((q : Int) + 1) = (d : Int) := by omega
  have DD := hide hd
  clear ku LL L0 hd
  go_enter Try.func20, Try.ntmps20
  go_wp2_with fail
  refine (kc _ (by go_grown)).mono ?_
  rintro e w1 ⟨rfl, rfl⟩
  clear kc
  clear ks
  go_wp2_with fail
  refine (KS.out _ (by go_grown)).mono ?_
  clear KS
  rintro e w2 ⟨h, cap, rfl, H, hh, hc, hb⟩
  have R1 := (Box5.made (w := w)).later hb
  have B1 : Below w.heap.size w w2 := Below.trans (by go_grown) (hb.mono (by simp))
  have nh : h ≠ w.heap.size := by have := hh; simp at this; omega
  clear hb
  have HH1 := hide H
  clear H
  go_wp2_with fail
  refine (kr _).mono ?_
  clear kr
  rintro e w2b ⟨rfl, hr⟩
  have R2 := R1.later hr
  have B2 := B1.trans (hr.mono B1.size)
  have HH := hide (HL.out _ _ _ HH1.out hr)
  clear hr R1 B1 HH1
  have sl : ∀ v, (Instr.slice 29 (.slice (some ⟨h, 0, none⟩) n cap) (some (.int .i64 (d : Int))) none none).run Try.prog v = .ok (.slice (some ⟨h, d, none⟩) (q + 1) (cap - d)) v := fun v => by
    have e := DD.out
    have := ints_from h n cap d (by omega) hc (by omega) v
    rw [show n - d = q + 1 by omega] at this
    exact this
  obtain ⟨hw4, l0⟩ := HC.out _ _ HH.out
  go_wp2_with fail
  clear sl l0 hw4
  refine (KU.out h (cap - d) w2b HH.out).mono ?_
  clear KU
  rintro e w3 ⟨rfl, h3⟩
  have B3 := B2.trans (h3.mono B2.size)
  have y3 := h3.size
  go_wp2_with fail
  refine abs_wp (fun W => W.cell? ⟨w3.heap.size, 0, none⟩ = some (.int .i64 s1) ∧ W.cell? ⟨w3.heap.size, 1, none⟩ = some (.int .u64 s0) ∧ w3.heap.size < W.heap.size ∧ Below w3.heap.size w3 W) ?_ ?_
  · exact ⟨by simp [go_sem], by simp [go_sem], by simp, by go_grown⟩
  rintro W ⟨c0, c1, zW, hW⟩
  have BW := hide (B3.trans (hW.mono B3.size))
  have RB := hide (R2.later (h3.trans (hW.mono h3.size)))
  have nz1 : w3.heap.size ≠ w.heap.size := by have := R2.lt; have := h3.size; omega
  have X0 := KeepX.start (r := w.heap.size) (W := W)
  have X1 := X0.drew
  have K0 := Keeps.start (Nat.le_refl W.heap.size)
  have K1 := K0.drew
  clear hW h3 B3 B2 R2 HH y3
  go_region_held3 (fun w' => w'.cell? ⟨w3.heap.size, 0, none⟩ = some (.int .i64 s1) ∧ w'.cell? ⟨w3.heap.size, 1, none⟩ = some (.int .u64 s0) ∧ KeepX W.heap.size w.heap.size W w')
    ((refine (fun K => ⟨(KeepX.cell K _ _ zW nz1).trans c0, (KeepX.cell K _ _ zW nz1).trans c1, K⟩) (?_ : KeepX W.heap.size w.heap.size W _); (repeat (first | with_reducible assumption | with_reducible refine KeepX.setR ?_ _ _ | with_reducible refine KeepX.alloc ?_ _ | with_reducible refine KeepX.drew ?_))))
    (first
    | (go_at_call 38; (with_reducible refine (km _).mono ?_); rintro e v20 ⟨rfl, hb20⟩; have X20 := KeepX.call (B := W.heap.size) (r := w.heap.size) (W := W) (by repeat (first | with_reducible assumption | with_reducible refine KeepX.setR ?_ _ _ | with_reducible refine KeepX.alloc ?_ _ | with_reducible refine KeepX.drew ?_)) hb20; have K20 := Keeps.call (B := W.heap.size) (W := W) (by repeat (first | with_reducible assumption | with_reducible refine Keeps.alloc ?_ _ | with_reducible refine Keeps.drew ?_)) hb20; obtain ⟨rr0, rr1, rr2, rr3, rr4, gg0, gg1, gg2, gg3, gg4, zz⟩ := RB.out.later (Keeps.below K20)))
  all_goals
    go_wp2_with fail
    refine bodyPost_ret (by simp [results, Try.results20, go_sem, *]; try rfl) rfl ?_
    refine ⟨rfl, ?_⟩
    have b20 := BW.out.trans (K20.below.mono BW.out.size)
    repeat (first | with_reducible assumption | with_reducible refine below_setR ?_ _ _ | with_reducible refine Below.drew ?_)
end Go.Proofs.Ytebiddmadmmfpaa
/- timer: Upto, whole. -/
namespace Go.Proofs.Ytebiddmadmmfpaa
set_option linter.unusedVariables false
set_option linter.unusedSimpArgs false
open Go.RowKit W T9
/-- What Upto says: its error, how many, which, the edge. -/
def uptoE (xs : List Int) (p : Int) : Int := if fineB xs then (if p = 0 ∨ 100000000 < p ∨ p < -100000000 then 91 else if xs.length = 0 then 90 else 0) else 93
def upP (p : Int) : Int := if 0 < p then p else -p
def upR (xs : List Int) (p : Int) : Nat := (rnk xs.length (upP p)).toNat
def upPart (xs : List Int) (p : Int) : List Int := if 0 < p then (srt xs).take (upR xs p) else (srt xs).drop (xs.length - upR xs p)
def upEdge (xs : List Int) (p : Int) : Int := if 0 < p then (srt xs).getD (upR xs p - 1) 0 else (srt xs).getD (xs.length - upR xs p) 0
abbrev zeroSh : Value := .agg #[.int .i64 0, .int .i64 0, .int .u64 0, .int .i64 0, .int .i64 0]
abbrev shareV (n s m e : Int) : Value := .agg #[.int .i64 n, .int .i64 (hi s), .int .u64 (lo s), .int .i64 m, .int .i64 e]
def uptoN (xs : List Int) (p : Int) : Int := if uptoE xs p = 0 then (upR xs p : Int) else 0
def uptoS (xs : List Int) (p : Int) : Int := if uptoE xs p = 0 then (upPart xs p).sum else 0
def uptoM (xs : List Int) (p : Int) : Int := if uptoE xs p = 0 then (upPart xs p).sum / (upR xs p : Int) else 0
def uptoG (xs : List Int) (p : Int) : Int := if uptoE xs p = 0 then upEdge xs p else 0
abbrev uptoV (xs : List Int) (p : Int) : Value := shareV (uptoN xs p) (uptoS xs p) (uptoM xs p) (uptoG xs p)
theorem hi_0 : hi 0 = 0 := by unfold hi; omega
theorem lo_0 : lo 0 = 0 := by unfold lo; omega
theorem uptoV_bad {xs : List Int} {p : Int} (h : uptoE xs p ≠ 0) : uptoV xs p = zeroSh := by
  unfold uptoV shareV uptoN uptoS uptoM uptoG
  simp only [if_neg h, hi_0, lo_0]
theorem uptoV_good {xs : List Int} {p : Int} (h : uptoE xs p = 0) : uptoV xs p = shareV (upR xs p) (upPart xs p).sum ((upPart xs p).sum / (upR xs p : Int)) (upEdge xs p) := by
  unfold uptoV shareV uptoN uptoS uptoM uptoG
  simp only [if_pos h]
structure UpOk (xs : List Int) (p : Int) : Prop where
  fine : fineB xs = true
  p0 : p ≠ 0
  p1 : p ≤ 100000000
  p2 : -100000000 ≤ p
  l0 : 0 < xs.length
theorem upOk_of {xs : List Int} {p : Int} (h : uptoE xs p = 0) : UpOk xs p := by
  unfold uptoE at h
  split at h
  · split at h
    · omega
    · split at h
      · omega
      · rename_i a b c; exact ⟨a, by omega, by omega, by omega, by omega⟩
  · omega
theorem UpOk.rank {xs : List Int} {p : Int} (h : UpOk xs p) : 1 ≤ upR xs p ∧ upR xs p ≤ xs.length ∧ (upR xs p : Int) = rnk xs.length (upP p) ∧ 1 ≤ upP p ∧ upP p ≤ 100000000 := by
  have a1 := h.p0; have a2 := h.p1; have a3 := h.p2; have a4 := h.l0
  have b : 1 ≤ upP p ∧ upP p ≤ 100000000 := by unfold upP; split <;> omega
  have k := rnk_le (n := (xs.length : Int)) (p := upP p) (by omega) b.1 b.2
  unfold upR; omega
theorem UpOk.partLen {xs : List Int} {p : Int} (h : UpOk xs p) : (upPart xs p).length = upR xs p := by
  have r := h.rank
  have l := srt_len xs
  unfold upPart; split
  · rw [List.length_take]; omega
  · rw [List.length_drop]; omega
theorem fine_sub {xs ys : List Int} (h : fineB ys = true) (s : ∀ x ∈ xs, x ∈ ys) : fineB xs = true := List.all_eq_true.2 fun x hx => List.all_eq_true.1 h x (s x hx)
theorem UpOk.partFine {xs : List Int} {p : Int} (h : UpOk xs p) : fineB (upPart xs p) = true := by
  refine fine_sub (fine_srt h.fine) fun x hx => ?_
  unfold upPart at hx; split at hx
  · exact List.mem_of_mem_take hx
  · exact List.mem_of_mem_drop hx
theorem lie_take {k : IntKind} {w : World} {g o : Nat} {xs : List Int} (h : LieI k w g o xs) (n : Nat) : LieI k w g o (xs.take n) :=
  ⟨fun j hj => by rw [List.length_take] at hj; rw [h.cell j (by omega), List.getElem_take], h.lt⟩
theorem lie_drop {k : IntKind} {w : World} {g o : Nat} {xs : List Int} (h : LieI k w g o xs) (n : Nat) : LieI k w g (o + n) (xs.drop n) :=
  ⟨fun j hj => by rw [List.length_drop] at hj; rw [Nat.add_assoc, h.cell (n + j) (by omega), List.getElem_drop], h.lt⟩
theorem upto_ok (b off c : Nat) (xs : List Int) (p : Int) (w : World) (hx : LieI .i64 w b off xs) (hl : xs.length ≤ 17592186044416) (h : UpOk xs p) :
    Calls Try.prog 20 #[.slice (some ⟨b, off, none⟩) xs.length c, .int .i64 p] w fun e w' => e = .returned (.tuple #[shareV (upR xs p) (upPart xs p).sum ((upPart xs p).sum / (upR xs p : Int)) (upEdge xs p), .int .i64 0]) ∧ Below w.heap.size w w' := by
  obtain ⟨r1, r2, r3, r4, r5⟩ := h.rank
  have pl := h.partLen
  have pf := h.partFine
  have sl := srt_len xs
  obtain ⟨q, hq⟩ : ∃ q, upR xs p = q + 1 := ⟨upR xs p - 1, by omega⟩
  have e1 : (upR xs p : Int) = (q : Int) + 1 := by omega
  have ml := mean_le pf (by omega)
  rw [pl] at ml
  have km := fun w' => mean_spec (upPart xs p).sum (q + 1) w' ml.1 (by rw [← hq]; exact ml.2.1) (by omega) (by omega)
  have e2 : ((q + 1 : Nat) : Int) = (q : Int) + 1 := by omega
  rw [e2] at km
  have kr := fun w' => rank_spec xs.length (upP p) w' (by have := h.l0; omega) (by omega) r4 r5
  rw [← r3, e1] at kr
  have kc := fun w' (K : Below w.heap.size w w') => check_spec (some ⟨b, off, none⟩) c xs w' (.inr ⟨b, off, rfl, hx.later K⟩) (by omega)
  rw [h.fine, show okE true 93 = 0 from rfl] at kc
  have ks := fun w' (K : Below w.heap.size w w') => sorted_spec b off c xs w' (hx.later K) h.l0 hl
  unfold SortedPost at ks
  rw [e1]
  by_cases p0 : 0 < p
  · have ep : upP p = p := if_pos p0
    have epa : upPart xs p = (srt xs).take (q + 1) := by unfold upPart; rw [if_pos p0, hq]
    have lq : q < (srt xs).length := by omega
    have ee : upEdge xs p = (srt xs)[q] := by unfold upEdge; rw [if_pos p0, hq, Nat.add_sub_cancel]; exact at_getD lq
    rw [ee]
    rw [ep] at kr
    exact Go.Proofs.Ytebiddmadmmfpaa.upto_pos b off c xs.length q (xs.length - (q + 1)) p _ _ _ _ w hl (by omega) hx.lt (fun w' h => LieI .i64 w' h 0 (srt xs)) p0 h.p1
      (fun w' g w'' H K => H.later K) (fun w' g H => ⟨H.lt, by have := H.cell q lq; simpa using this⟩) kc ks kr
      (fun g c2 w' H => by
        have k := sum_spec9 (some ⟨g, 0, none⟩) c2 (upPart xs p) w' (.inr ⟨g, 0, rfl, by rw [epa]; exact lie_take H _⟩) (by omega) pf
        rw [pl, hq] at k
        exact k) km
  · have p9 : p < 0 := by have := h.p0; omega
    have ep : upP p = -p := if_neg p0
    have epa : upPart xs p = (srt xs).drop (xs.length - (q + 1)) := by unfold upPart; rw [if_neg p0, hq]
    have lq : xs.length - (q + 1) < (srt xs).length := by omega
    have ee : upEdge xs p = (srt xs)[xs.length - (q + 1)] := by unfold upEdge; rw [if_neg p0, hq]; exact at_getD lq
    rw [ee]
    rw [ep] at kr
    exact Go.Proofs.Ytebiddmadmmfpaa.upto_neg b off c xs.length q (xs.length - (q + 1)) p _ _ _ _ w hl (by omega) hx.lt (fun w' h => LieI .i64 w' h 0 (srt xs)) p9 h.p2
      (fun w' g w'' H K => H.later K) (fun w' g H => ⟨H.lt, by have := H.cell _ lq; simpa using this⟩) kc ks kr
      (fun g c2 w' H => by
        have k := sum_spec9 (some ⟨g, xs.length - (q + 1), none⟩) c2 (upPart xs p) w' (.inr ⟨g, _, rfl, by rw [epa]; have := lie_drop H (xs.length - (q + 1)); rwa [Nat.zero_add] at this⟩) (by omega) pf
        rw [pl, hq] at k
        exact k) km
set_option maxRecDepth 100000 in
set_option maxHeartbeats 8000000 in
theorem upto_no (a : Option Addr) (c n : Nat) (p E V : Int) (w : World) (hl : n ≤ 140737488355328)
    (kc : ∀ w', Below w.heap.size w w' → CalcN 35 #[.slice a n c] w' (.int .i64 V)) (hV : V = 93 ∧ E = 93 ∨ V = 0 ∧ E = 91 ∧ (p = 0 ∨ 100000000 < p ∨ p < -100000000) ∨ V = 0 ∧ E = 90 ∧ n = 0 ∧ p ≠ 0 ∧ p ≤ 100000000 ∧ -100000000 ≤ p) :
    Calls Try.prog 20 #[.slice a n c, .int .i64 p] w fun e w' => e = .returned (.tuple #[zeroSh, .int .i64 E]) ∧ Below w.heap.size w w' := by
  rcases hV with ⟨rfl, rfl⟩ | ⟨rfl, rfl, h⟩ | ⟨rfl, rfl, rfl, h1, h2, h3⟩
  · go_enter Try.func20, Try.ntmps20
    go_wp2_with fail
    refine (kc _ (by go_grown)).mono ?_
    rintro e w1 ⟨rfl, rfl⟩
    clear kc
    go_wp2_with fail
    refine bodyPost_ret (by simp [results, Try.results20, go_sem]; try rfl) rfl ?_
    exact ⟨rfl, by go_grown⟩
  · rcases h with h | h | h
    · subst h
      go_enter Try.func20, Try.ntmps20
      go_wp2_with fail
      refine (kc _ (by go_grown)).mono ?_
      rintro e w1 ⟨rfl, rfl⟩
      clear kc
      go_wp2_with fail
      refine bodyPost_ret (by simp [results, Try.results20, go_sem]; try rfl) rfl ?_
      exact ⟨rfl, by go_grown⟩
    · have g3 : (p == 0) = false := by simp; omega
      go_enter Try.func20, Try.ntmps20
      go_wp2_with fail
      refine (kc _ (by go_grown)).mono ?_
      rintro e w1 ⟨rfl, rfl⟩
      clear kc
      go_wp2_with fail
      refine bodyPost_ret (by simp [results, Try.results20, go_sem]; try rfl) rfl ?_
      exact ⟨rfl, by go_grown⟩
    · have g3 : (p == 0) = false := by simp; omega
      have g1 : ¬ 100000000 < p := by omega
      go_enter Try.func20, Try.ntmps20
      go_wp2_with fail
      refine (kc _ (by go_grown)).mono ?_
      rintro e w1 ⟨rfl, rfl⟩
      clear kc
      go_wp2_with fail
      refine bodyPost_ret (by simp [results, Try.results20, go_sem]; try rfl) rfl ?_
      exact ⟨rfl, by go_grown⟩
  · have g3 : (p == 0) = false := by simpa using h1
    have g1 : ¬ 100000000 < p := by omega
    have g2 : ¬ p < -100000000 := by omega
    clear h1
    go_enter Try.func20, Try.ntmps20
    go_wp2_with fail
    refine (kc _ (by go_grown)).mono ?_
    rintro e w1 ⟨rfl, rfl⟩
    clear kc
    go_wp2_with fail
    refine bodyPost_ret (by simp [results, Try.results20, go_sem]; try rfl) rfl ?_
    exact ⟨rfl, by go_grown⟩
theorem upto_spec (a : Option Addr) (c : Nat) (xs : List Int) (p : Int) (w : World) (hx : IsInts .i64 w a xs) (hl : xs.length ≤ 17592186044416) :
    Calls Try.prog 20 #[.slice a xs.length c, .int .i64 p] w fun e w' => e = .returned (.tuple #[uptoV xs p, .int .i64 (uptoE xs p)]) ∧ Below w.heap.size w w' := by
  by_cases z : uptoE xs p = 0
  · have h := upOk_of z
    rw [uptoV_good z, z]
    have l0 := h.l0
    obtain ⟨g, o, rfl, la⟩ := hx.resolve_left (fun e => by rw [e] at l0; simp at l0)
    exact upto_ok g o c xs p w la hl h
  · rw [uptoV_bad z]
    refine upto_no a c xs.length p (uptoE xs p) (okE (fineB xs) 93) w (by omega) (fun w' K => check_spec a c xs w' (hx.later K) (by omega)) ?_
    unfold uptoE at *
    rcases hf : fineB xs with _ | _
    · exact .inl ⟨rfl, rfl⟩
    · simp only [hf, if_true] at *
      by_cases h : p = 0 ∨ 100000000 < p ∨ p < -100000000
      · exact .inr (.inl ⟨rfl, if_pos h, h⟩)
      · rw [if_neg h] at z ⊢
        by_cases n : xs.length = 0
        · exact .inr (.inr ⟨rfl, if_pos n, n, by omega, by omega, by omega⟩)
        · rw [if_neg n] at z; exact absurd rfl z
end Go.Proofs.Ytebiddmadmmfpaa
/- timer: bounds, bins: the plain mathematics; a row of counters of one's own. -/
namespace Go.Proofs.Ytebiddmadmmfpaa
set_option linter.unusedVariables false
set_option linter.unusedSimpArgs false
open Go.RowKit W T9
/-- May they be bounds? -/
def upB (bs : List Int) : Bool := decide (1 ≤ bs.length ∧ bs.length ≤ 32) && (bs.all (fun x => decide (0 ≤ x)) && decide (bs.Pairwise (· < ·)))
theorem up_iff (bs : List Int) : upB bs = true ↔ (1 ≤ bs.length ∧ bs.length ≤ 32) ∧ (∀ x ∈ bs, 0 ≤ x) ∧ bs.Pairwise (· < ·) := by
  simp [upB]
theorem pair_of {bs : List Int} (h : ∀ (j : Nat) (h : j + 1 < bs.length), bs[j] < bs[j + 1]) : bs.Pairwise (· < ·) := by
  rw [List.pairwise_iff_getElem]
  have aux : ∀ d i (h1 : i + d + 1 < bs.length), bs[i] < bs[i + d + 1] := by
    intro d
    induction d with
    | zero => intro i h1; exact h i h1
    | succ d ih =>
      intro i h1
      have a := ih i (by omega)
      have b := h (i + d + 1) (by omega)
      have e : i + (d + 1) + 1 = i + d + 1 + 1 := by omega
      simp only [e]
      omega
  intro i j hi hj lt
  obtain ⟨d, rfl⟩ : ∃ d, j = i + d + 1 := ⟨j - i - 1, by omega⟩
  exact aux d i hj
theorem up_of {bs : List Int} (h1 : 1 ≤ bs.length) (h2 : bs.length ≤ 32) (h3 : ∀ x : Int, bs[0]? = some x → 0 ≤ x) (h4 : ∀ (j : Nat) (h : j + 1 < bs.length), bs[j] < bs[j + 1]) : upB bs = true := by
  have p := pair_of h4
  refine (up_iff bs).2 ⟨⟨h1, h2⟩, fun x hx => ?_, p⟩
  obtain ⟨j, hj, rfl⟩ := List.getElem_of_mem hx
  have z := h3 bs[0] (by rw [List.getElem?_eq_getElem])
  rcases Nat.eq_zero_or_pos j with rfl | q
  · exact z
  · have := List.pairwise_iff_getElem.1 p 0 j (by omega) hj q; omega
theorem up_no {bs : List Int} (h : ¬ ((1 ≤ bs.length ∧ bs.length ≤ 32) ∧ (∀ x ∈ bs, 0 ≤ x) ∧ bs.Pairwise (· < ·))) : upB bs = false := by
  rcases q : upB bs with _ | _
  · rfl
  · exact absurd ((up_iff bs).1 q) h
theorem up_fall {bs : List Int} {j : Nat} (h : j + 1 < bs.length) (n : ¬ bs[j] < bs[j + 1]) : upB bs = false :=
  up_no fun ⟨_, _, p⟩ => n (List.pairwise_iff_getElem.1 p j (j + 1) (by omega) h (by omega))
theorem up_neg {bs : List Int} {j : Nat} (h : j < bs.length) (n : bs[j] < 0) : upB bs = false :=
  up_no fun ⟨_, p, _⟩ => by have := p bs[j] (List.getElem_mem h); omega
theorem up_pair {bs : List Int} (h : upB bs = true) : bs.Pairwise (· < ·) := ((up_iff bs).1 h).2.2
theorem takeWhile_all {p : Int → Bool} : ∀ {l : List Int}, (∀ x ∈ l, p x = true) → l.takeWhile p = l
  | [], _ => rfl
  | y :: r, h => by rw [List.takeWhile_cons, h y (by simp), takeWhile_all fun x hx => h x (by simp [hx])]; rfl
/-- The bin of a sample. -/
def binK (bs : List Int) (v : Int) : Nat := (bs.takeWhile fun b => decide (b ≤ v)).length
theorem binK_le (bs : List Int) (v : Int) : binK bs v ≤ bs.length := (List.takeWhile_prefix _).length_le
theorem binK_take {bs : List Int} {i : Nat} (h : i < bs.length) (p : bs.Pairwise (· < ·)) (v : Int) : binK (bs.take (i + 1)) v = if bs[i] ≤ v then i + 1 else binK (bs.take i) v := by
  have e : bs.take (i + 1) = bs.take i ++ [bs[i]] := List.take_succ_eq_append_getElem h
  have li : (bs.take i).length = i := by rw [List.length_take]; omega
  unfold binK
  rw [e, List.takeWhile_append]
  by_cases t : bs[i] ≤ v
  · have all : (bs.take i).takeWhile (fun b => decide (b ≤ v)) = bs.take i := by
      refine takeWhile_all fun x hx => ?_
      obtain ⟨j, hj, rfl⟩ := List.getElem_of_mem hx
      rw [li] at hj
      have := List.pairwise_iff_getElem.1 p j i (by omega) h hj
      rw [List.getElem_take]
      simp only [decide_eq_true_eq]; omega
    rw [all, if_pos rfl, if_pos t, List.length_append, li]
    simp [List.takeWhile_cons, t]
  · rw [if_neg t]
    split
    · rename_i q
      have q2 : (bs.take i).takeWhile (fun b => decide (b ≤ v)) = bs.take i := (List.takeWhile_prefix _).eq_of_length q
      rw [q2]
      simp [List.takeWhile_cons, t]
    · rfl
theorem binK_at {bs : List Int} {k : Nat} {v : Int} (h : k ≤ bs.length) (a : ∀ (j : Nat) (h : j < bs.length), j < k → bs[j] ≤ v) (b : ∀ (h : k < bs.length), ¬ bs[k] ≤ v) : binK bs v = k := by
  unfold binK
  have e : bs = bs.take k ++ bs.drop k := (List.take_append_drop k bs).symm
  have li : (bs.take k).length = k := by rw [List.length_take]; omega
  have all : (bs.take k).takeWhile (fun b => decide (b ≤ v)) = bs.take k := by
    refine takeWhile_all fun x hx => ?_
    obtain ⟨j, hj, rfl⟩ := List.getElem_of_mem hx
    rw [li] at hj
    rw [List.getElem_take]
    simpa using a j (by omega) hj
  have none_ : (bs.drop k).takeWhile (fun b => decide (b ≤ v)) = [] := by
    by_cases q : k < bs.length
    · rw [List.drop_eq_getElem_cons q, List.takeWhile_cons]
      have := b q
      simp [this]
    · rw [List.drop_eq_nil_of_le (by omega)]; rfl
  rw [e, List.takeWhile_append, all, if_pos rfl, none_]
  simp; omega
/-- The counters. -/
def cnt1 (bs : List Int) (c : List Int) (v : Int) : List Int := c.set (binK bs v) (c.getD (binK bs v) 0 + 1)
def cntF (bs xs : List Int) : List Int := xs.foldl (cnt1 bs) (List.replicate (bs.length + 1) 0)
theorem cntF_take {bs xs : List Int} {k : Nat} (h : k < xs.length) : cntF bs (xs.take (k + 1)) = cnt1 bs (cntF bs (xs.take k)) xs[k] := by
  unfold cntF; rw [List.take_succ_eq_append_getElem h, List.foldl_append]; rfl
theorem cntF_len (bs xs : List Int) : (cntF bs xs).length = bs.length + 1 := by
  unfold cntF
  have aux : ∀ (ys c : List Int), (ys.foldl (cnt1 bs) c).length = c.length := by
    intro ys
    induction ys with
    | nil => intro c; rfl
    | cons y r ih => intro c; rw [List.foldl_cons, ih]; simp [cnt1]
  rw [aux]; simp
theorem cntF_bound (bs xs : List Int) : ∀ k, ∀ x ∈ cntF bs (xs.take k), 0 ≤ x ∧ x ≤ k := by
  intro k
  induction k with
  | zero => intro x hx; simp only [List.take_zero, cntF, List.foldl_nil] at hx; have := List.eq_of_mem_replicate hx; omega
  | succ k ih =>
    by_cases h : k < xs.length
    · rw [cntF_take h]
      intro x hx
      unfold cnt1 at hx
      rcases List.mem_or_eq_of_mem_set hx with q | q
      · have := ih x q; omega
      · have hb : (cntF bs (xs.take k)).length = bs.length + 1 := cntF_len _ _
        have lt : binK bs xs[k] < (cntF bs (xs.take k)).length := by rw [hb]; have := binK_le bs xs[k]; omega
        have := ih _ (List.getElem_mem lt)
        rw [List.getD_eq_getElem?_getD, List.getElem?_eq_getElem lt] at q
        simp only [Option.getD_some] at q
        omega
    · rw [List.take_of_length_le (by omega)]
      rw [List.take_of_length_le (by omega)] at ih
      intro x hx; have := ih x hx; omega
def binL (bs xs : List Int) : List Int := if fineB xs then if upB bs then cntF bs xs else [] else []
def binE (bs xs : List Int) : Int := if fineB xs then if upB bs then 0 else 92 else 93
/-- A row of counters of one's own. -/
structure Cnt (w wr : World) (L : List Int) : Prop where
  own : wr.ownsRow w.heap.size 3 1 (.slice (some ⟨w.heap.size, 0, none⟩) L.length L.length) L.length (L.map (Value.int .i64))
  below : Below w.heap.size w wr
theorem Cnt.at_ {w wr : World} {L : List Int} (h : Cnt w wr L) (k : Nat) (hk : k < L.length) : wr.cell? ⟨w.heap.size, k, none⟩ = some (.int .i64 (L.getD k 0)) ∧ wr.frozen? ⟨w.heap.size, k, none⟩ = false := by
  refine ⟨?_, h.own.frozenAt k⟩
  rw [h.own.cellAt k (by omega)]
  simp [List.getElem?_eq_getElem hk, List.getD_eq_getElem?_getD]
theorem Cnt.set {w wr : World} {L : List Int} (h : Cnt w wr L) (k : Nat) (x : Int) (q : Nat) : Cnt w ((wr.drewN q).setCell ⟨w.heap.size, k, none⟩ (.int .i64 x)) (L.set k x) := by
  have h0 : (wr.drewN q).ownsRow w.heap.size 3 1 (.slice (some ⟨w.heap.size, 0, none⟩) L.length L.length) L.length (L.map (Value.int .i64)) := h.own
  have s := h0.stored k (.int .i64 x)
  refine ⟨?_, (below_drewN h.below q).setCell (Nat.le_refl _) _⟩
  rw [List.map_set, List.length_set]; exact s.1
theorem Cnt.lt {w wr : World} {L : List Int} (h : Cnt w wr L) : w.heap.size < wr.heap.size := (h.own.lt w.heap.size rfl).2
theorem Cnt.made (w : World) (n : Nat) (hm : n ≤ maxLen) : Cnt w (w.alloc (.cells (madeCells #[.int .i64 0] n) 3)) (List.replicate n 0) := by
  have := World.ownsRow_lit (size := 1) (e := 3) w (madeCells #[.int .i64 0] n) n (Nat.le_refl _) hm (by rw [size_madeCells]; omega)
  rw [toList_madeCells_one] at this
  exact ⟨by rw [List.map_replicate, List.length_replicate]; exact this, (Below.refl _ _).alloc (Nat.le_refl _) _⟩
theorem Cnt.is {w wr : World} {L : List Int} (h : Cnt w wr L) : IsInts .i64 wr (some ⟨w.heap.size, 0, none⟩) L :=
  .inr ⟨_, 0, rfl, ⟨fun j hj => by rw [Nat.zero_add, (h.at_ j hj).1]; simp [List.getD_eq_getElem?_getD, List.getElem?_eq_getElem hj], h.lt⟩⟩
/-- What Bins answers. -/
def BinsPost (bs xs : List Int) (w : World) (e : Ending) (w' : World) : Prop :=
  ∃ a c, e = .returned (.tuple #[.slice a (binL bs xs).length c, .int .i64 (binE bs xs)]) ∧ IsInts .i64 w' a (binL bs xs) ∧ Below w.heap.size w w'
end Go.Proofs.Ytebiddmadmmfpaa
/- timer: mayBound, Bins. -/
namespace Go.Proofs.Ytebiddmadmmfpaa
set_option linter.unusedVariables false
set_option linter.unusedSimpArgs false
open Go.RowKit W T9
theorem info_int9 : (Try.prog.info? 3).map (fun i => (i.zero, i.size, i.bytes)) = some (some (.int .i64 0), 1, 8) := by kernel_rfl
set_option maxRecDepth 100000 in
set_option maxHeartbeats 4000000 in
theorem may_spec (b : Option Addr) (c : Nat) (bs : List Int) (w : World) (hb : IsInts .i64 w b bs) (hl : bs.length ≤ 140737488355328) :
    Calls Try.prog 48 #[.slice b bs.length c] w fun e w' => e = .returned (.bool (upB bs)) ∧ Below w.heap.size w w' := by
  obtain ⟨R, hR⟩ : ∃ R, R = upB bs := ⟨_, rfl⟩
  rw [← hR]
  obtain ⟨n, hn⟩ : ∃ n, n = bs.length := ⟨_, rfl⟩
  rw [← hn] at hl ⊢
  by_cases z : n = 0
  · have e : R = false := by rw [hR]; exact up_no (by omega)
    subst e z
    clear hR hn hb
    go_enter Try.func48, Try.ntmps48
    go_wp2
    go_returns
    exact ⟨rfl, Below.refl _ _⟩
  by_cases m : 32 < n
  · have e : R = false := by rw [hR]; exact up_no (by omega)
    subst e
    have z1 : ((n : Int) == 0) = false := by simp; omega
    have z2 : 0 < n := by omega
    clear hR hn hb z
    go_enter Try.func48, Try.ntmps48
    go_wp2
    go_returns
    exact ⟨rfl, Below.refl _ _⟩
  obtain ⟨g, o, rfl, la⟩ := hb.resolve_left (fun h => by rw [h] at hn; exact z hn)
  have l0 : 0 < bs.length := by omega
  have c0 := la.cell 0 l0
  rw [Nat.add_zero] at c0
  obtain ⟨x0, hx0⟩ : ∃ x0, x0 = bs[0] := ⟨_, rfl⟩
  rw [← hx0] at c0
  have z1 : ((n : Int) == 0) = false := by simp; omega
  have m1 : decide ((32 : Int) < (n : Int)) = false := decide_eq_false (by omega)
  have z2 : 0 < n := by omega
  by_cases t : x0 < 0
  · have e : R = false := by rw [hR]; exact up_neg l0 (by rw [← hx0]; exact t)
    subst e
    clear hR hn hb z la m hx0 l0
    go_enter Try.func48, Try.ntmps48
    go_wp2
    go_returns
    exact ⟨rfl, Below.refl _ _⟩
  have H := hide la
  have RR := hide hR
  have N := hide hn
  have X0 := hide (And.intro hx0 (show 0 ≤ x0 by omega))
  have t1 : decide (x0 < 0) = false := decide_eq_false t
  have e1 : IntKind.i64.wrap ((n : Int) - 1) = (n : Int) - 1 := by rw [IntKind.wrap_i64]; omega
  obtain ⟨p, hp⟩ : ∃ p, n = p + 1 := ⟨n - 1, by omega⟩
  have e2 : (n : Int) - 1 = (p : Int) := by omega
  rw [e2] at e1
  have NP := hide hp
  have m2 : n ≤ 32 := by omega
  clear hR hn hb z la m hx0 t hp
  go_enter Try.func48, Try.ntmps48
  go_wp2_with fail
  go_loopw [21] (fun i wr => ∃ k : Nat, k ≤ p ∧ i = .int .i64 k ∧ Hid (Below w.heap.size w wr) ∧ Hid (∀ (j : Nat) (h : j + 1 < bs.length), j < k → bs[j] < bs[j + 1])) (fun i _ => p - (intOf i).toNat)
  case atStart => exact ⟨0, by omega, rfl, Below.refl _ _, fun j _ h => absurd h (by omega)⟩
  case round =>
    clear c0
    obtain ⟨k, hk, rfl, bl, up⟩ := hrel
    by_cases hlt : k < p
    · have k1 : k + 1 < bs.length := by have := NP.out; have := N.out; omega
      have e5 := (H.out.later bl.out).cell k (by omega)
      have e6 := (H.out.later bl.out).cell (k + 1) k1
      obtain ⟨x, hx⟩ : ∃ x, x = bs[k] := ⟨_, rfl⟩
      obtain ⟨y, hy⟩ : ∃ y, y = bs[k + 1] := ⟨_, rfl⟩
      rw [← hx] at e5
      rw [← hy] at e6
      have w1 : IntKind.i64.wrap ((k : Int) + 1) = ((k + 1 : Nat) : Int) := by rw [IntKind.wrap_i64]; omega
      have hlt' : (k : Int) < (p : Int) := by omega
      have hlt2 : k + 1 < n := by omega
      by_cases t : y ≤ x
      · have F : Hid (R = false) := by
          show R = false
          rw [RR.out]; exact up_fall k1 (by rw [← hx, ← hy]; omega)
        have td : decide (y ≤ x) = true := decide_eq_true t
        clear hx hy k1 up RR
        go_wp2_with fail
        go_quiet (fail)
        go_wp2_with fail
        go_returns
        exact ⟨by rw [F.out]; rfl, below_drewN bl.out _⟩
      · have U : Hid (∀ (j : Nat) (h : j + 1 < bs.length), j < k + 1 → bs[j] < bs[j + 1]) := by
          intro j h hj
          by_cases q : j = k
          · subst q; rw [← hx, ← hy]; omega
          · exact up.out j h (by omega)
        have td : decide (y ≤ x) = false := decide_eq_false t
        clear hx hy up
        go_wp2_with fail
        go_quiet (fail)
        go_wp2_with fail
        go_roundw
        case rel => exact ⟨k + 1, by omega, by go_num, below_drewN bl.out _, U⟩
        case measure => simp [intOf]; omega
    · have F : Hid (R = true) := by
        show R = true
        rw [RR.out]
        have q1 := NP.out
        have q2 := N.out
        refine up_of (by omega) (by omega) (fun x hx => ?_) (fun j h => up.out j h (by omega))
        rw [List.getElem?_eq_getElem (by omega)] at hx
        injection hx with hx
        rw [← hx, ← X0.out.1]; exact X0.out.2
      obtain rfl : k = p := by omega
      clear up RR
      go_wp2
      go_returns
      exact ⟨by rw [F.out]; rfl, bl.out⟩
theorem bins_bad (a : Option Addr) (c : Nat) (xs : List Int) (b : Option Addr) (d : Nat) (bs : List Int) (w : World) (hx : IsInts .i64 w a xs) (hl : xs.length ≤ 140737488355328) (hf : fineB xs = false) :
    Calls Try.prog 22 #[.slice a xs.length c, .slice b bs.length d] w (BinsPost bs xs w) := by
  have kc := check_spec a c xs w hx hl
  rw [hf, show okE false 93 = 93 from rfl] at kc
  have F : Hid (BinsPost bs xs w (.returned (.tuple #[.slice none 0 0, .int .i64 93])) w) := by
    refine ⟨none, 0, ?_, .inl ?_, Below.refl _ _⟩ <;> simp [binL, binE, hf]
  clear hx hf
  go_enter Try.func22, Try.ntmps22
  go_wp2_with fail
  refine kc.mono ?_
  rintro e w1 ⟨rfl, rfl⟩
  clear kc
  go_wp2_with fail
  go_returns
  exact F.out
theorem bins_not (a : Option Addr) (c : Nat) (xs : List Int) (b : Option Addr) (d : Nat) (bs : List Int) (w : World) (hx : IsInts .i64 w a xs) (hl : xs.length ≤ 140737488355328) (hb : IsInts .i64 w b bs) (hl2 : bs.length ≤ 140737488355328) (hf : fineB xs = true) (hu : upB bs = false) :
    Calls Try.prog 22 #[.slice a xs.length c, .slice b bs.length d] w (BinsPost bs xs w) := by
  have kc := check_spec a c xs w hx hl
  rw [hf, show okE true 93 = 0 from rfl] at kc
  have ku := may_spec b d bs w hb hl2
  rw [hu] at ku
  have F : Hid (∀ w', Below w.heap.size w w' → BinsPost bs xs w (.returned (.tuple #[.slice none 0 0, .int .i64 92])) w') := by
    intro w' B
    refine ⟨none, 0, ?_, .inl ?_, B⟩ <;> simp [binL, binE, hf, hu]
  clear hx hf hb hu
  go_enter Try.func22, Try.ntmps22
  go_wp2_with fail
  refine kc.mono ?_
  rintro e w1 ⟨rfl, rfl⟩
  clear kc
  go_wp2_with fail
  refine ku.mono ?_
  rintro e w1 ⟨rfl, h1⟩
  clear ku
  have H1 := hide h1
  clear h1
  go_wp2_with fail
  go_returns
  exact F.out _ H1.out
set_option maxRecDepth 100000 in
set_option maxHeartbeats 8000000 in
theorem bins_good (a : Option Addr) (c : Nat) (xs : List Int) (b : Option Addr) (d : Nat) (bs : List Int) (w : World) (hx : IsInts .i64 w a xs) (hl : xs.length ≤ 140737488355328) (hb : IsInts .i64 w b bs) (hf : fineB xs = true) (hu : upB bs = true) :
    Calls Try.prog 22 #[.slice a xs.length c, .slice b bs.length d] w (BinsPost bs xs w) := by
  obtain ⟨⟨u1, u2⟩, u3, u4⟩ := (up_iff bs).1 hu
  have kc := check_spec a c xs w hx hl
  rw [hf, show okE true 93 = 0 from rfl] at kc
  have ku := may_spec b d bs w hb (by omega)
  rw [hu] at ku
  have F : Hid (∀ W w' cap, Below w.heap.size w W → Cnt W w' (cntF bs xs) → BinsPost bs xs w (.returned (.tuple #[.slice (some ⟨W.heap.size, 0, none⟩) (bs.length + 1) cap, .int .i64 0])) w') := by
    intro W w' cap B C
    refine ⟨some ⟨W.heap.size, 0, none⟩, cap, ?_, ?_, B.trans (C.below.mono B.size)⟩
    · simp [binL, binE, hf, hu, cntF_len]
    · simp only [binL, hf, hu, if_true]; exact C.is
  obtain ⟨gb, ob, rfl, lb⟩ := hb.resolve_left (fun h => by rw [h] at u1; simp at u1)
  have HB := hide lb
  have HX := hide hx
  have UP := hide u4
  obtain ⟨n, hn⟩ : ∃ n, n = bs.length := ⟨_, rfl⟩
  obtain ⟨m, hm⟩ : ∃ m, m = xs.length := ⟨_, rfl⟩
  rw [← hn] at u1 u2 ku ⊢
  rw [← hm] at hl kc ⊢
  have NN := hide hn
  have MM := hide hm
  obtain ⟨i0, hi0, hz0, hz1, hz2⟩ := info_parts info_int9
  have hmk : ∀ v : World, (Instr.makeSlice 49 (.int .i64 ((n : Int) + 1)) (.int .i64 ((n : Int) + 1))).run Try.prog v = .ok (.slice (some ⟨v.heap.size, 0, none⟩) (n + 1) (n + 1)) (v.alloc (.cells (madeCells #[.int .i64 0] (n + 1)) 3)) := fun v => by
    have := run_make (P := Try.prog) v 49 3 i0 (.int .i64 0) Try.underlying49 hi0 hz0 .i64 .i64 ((n : Int) + 1) ((n : Int) + 1) (by omega) (by omega) (by rw [hz2]; omega) (by omega)
    rw [hz1] at this
    rw [this]
    have e : ((n : Int) + 1).toNat = n + 1 := by omega
    rw [e]
    simp [Value.cells]
  clear hx hf hb hu u3 u4 lb hn hm hi0 hz0 hz1 hz2
  go_enter Try.func22, Try.ntmps22
  go_wp2_with fail
  refine kc.mono ?_
  rintro e w1 ⟨rfl, rfl⟩
  clear kc
  go_wp2_with fail
  refine ku.mono ?_
  rintro e W ⟨rfl, hW⟩
  clear ku
  have HW := hide hW
  have gW : Hid (gb < W.heap.size) := Nat.lt_of_lt_of_le HB.out.lt hW.size
  have bW : Hid (LieI .i64 W gb ob bs) := HB.out.later hW
  have xW : Hid (IsInts .i64 W a xs) := HX.out.later hW
  clear hW
  go_wp2_with fail
  clear hmk
  have C0 : Hid (Cnt W (W.alloc (.cells (madeCells #[.int .i64 0] (n + 1)) 3)) (cntF bs (xs.take 0))) := by
    have := Cnt.made W (n + 1) (by unfold maxLen; omega)
    rw [show List.replicate (n + 1) (0 : Int) = cntF bs (xs.take 0) from by rw [NN.out]; rfl] at this
    exact this
  go_loopw [26] (fun i wr => ∃ k : Nat, k ≤ m ∧ i = .int .i64 k ∧ Hid (Cnt W wr (cntF bs (xs.take k)))) (fun i _ => m - (intOf i).toNat)
  case atStart => exact ⟨0, by omega, rfl, C0⟩
  case round =>
    obtain ⟨k, hk, rfl, C⟩ := hrel
    clear C0
    by_cases hlt : k < m
    · have k1 : k < xs.length := by have := MM.out; omega
      obtain ⟨x, hxk⟩ : ∃ x, x = xs[k] := ⟨_, rfl⟩
      obtain ⟨g, o, ea, lx⟩ := xW.out.resolve_left (fun h => by rw [h] at k1; simp at k1)
      subst ea
      have c0 := (C.out.below.cell (p := ⟨g, o + k, none⟩) lx.lt).trans (lx.cell k k1)
      rw [← hxk] at c0
      have ST := hide (cntF_take (bs := bs) k1)
      rw [← hxk] at ST
      have LL := cntF_len bs (xs.take k)
      have BD := cntF_bound bs xs k
      obtain ⟨L, hL⟩ : ∃ L, L = cntF bs (xs.take k) := ⟨_, rfl⟩
      rw [← hL] at ST LL BD C
      have C1 := hide C.out
      obtain ⟨wo, hwo⟩ : ∃ wo, wo = wr := ⟨_, rfl⟩
      clear C hxk lx k1 hL hwo
      have LLh := hide LL
      have BDh := hide BD
      clear LL BD
      go_wp2_with fail
      go_loop [10, 32] (fun bn j => ∃ q : Nat, q ≤ n ∧ j = .int .i64 q ∧ bn = .int .i64 (binK (bs.take q) x : Nat)) (fun _ j => n - (intOf j).toNat)
      case atStart => exact ⟨0, by omega, rfl, rfl⟩
      case round =>
        obtain ⟨q, hq, rfl, rfl⟩ := hrel
        by_cases hlq : q < n
        · have q1 : q < bs.length := by have := NN.out; omega
          have e1 := (C1.out.below.cell (p := ⟨gb, ob + q, none⟩) gW.out).trans (bW.out.cell q q1)
          have ST2 := binK_take q1 UP.out x
          obtain ⟨y, hy⟩ : ∃ y, y = bs[q] := ⟨_, rfl⟩
          rw [← hy] at e1 ST2
          have hlq2 : (q : Int) < (n : Int) := by omega
          have hlq3 : decide (q < n) = true := decide_eq_true hlq
          by_cases t : y ≤ x
          · rw [if_pos t] at ST2
            have td : decide (y ≤ x) = true := decide_eq_true t
            have S2 := hide ST2
            clear ST2 hy q1
            go_wp2_with fail
            go_round
            case rel => exact ⟨q + 1, by omega, by go_num, by rw [S2.out]; go_num⟩
            case measure => simp [intOf]; omega
          · rw [if_neg t] at ST2
            have td : decide (y ≤ x) = false := decide_eq_false t
            have S2 := hide ST2
            clear ST2 hy q1
            go_wp2_with fail
            go_round
            case rel => exact ⟨q + 1, by omega, by go_num, by rw [S2.out]⟩
            case measure => simp [intOf]; omega
        · obtain rfl : q = n := by omega
          rw [show bs.take q = bs from by rw [NN.out]; exact List.take_length]
          have bk := binK_le bs x
          obtain ⟨z, hz⟩ : ∃ z, z = binK bs x := ⟨_, rfl⟩
          have zl : z < L.length := by rw [LLh.out, hz]; omega
          have zn : z < q + 1 := by have := NN.out; omega
          obtain ⟨r1, r2⟩ := C1.out.at_ z zl
          obtain ⟨v, hv⟩ : ∃ v, v = L.getD z 0 := ⟨_, rfl⟩
          have vb : 0 ≤ v ∧ v ≤ k := by
            have := BDh.out _ (List.getElem_mem zl)
            rw [hv, List.getD_eq_getElem?_getD, List.getElem?_eq_getElem zl]
            exact this
          obtain ⟨v0, v1⟩ := vb
          have NC : Hid (Cnt W (wr.setCell ⟨W.heap.size, z, none⟩ (.int .i64 (v + 1))) (cntF bs (xs.take (k + 1)))) := by
            have := C1.out.set z (v + 1) 0
            rw [ST.out]
            unfold cnt1
            rw [← hz, ← hv]
            exact this
          rw [← hv] at r1
          have zlt := C1.out.lt
          rw [← hz]
          clear bk hz hv C1 BDh LLh ST zl
          go_wp2_with fail
          go_roundw
          case rel => exact ⟨k + 1, by omega, by go_num, NC⟩
          case measure => simp [intOf]; omega
    · obtain rfl : k = m := by omega
      have C1 : Hid (Cnt W wr (cntF bs xs)) := by
        have := C.out
        rw [show xs.take k = xs from by rw [MM.out]; exact List.take_length] at this
        exact this
      have F2 := F.out W wr (n + 1) HW.out C1.out
      rw [← NN.out] at F2
      have F3 := hide F2
      clear C F2 F
      go_wp2_with fail
      go_returns
      exact F3.out
theorem bins_spec (a : Option Addr) (c : Nat) (xs : List Int) (b : Option Addr) (d : Nat) (bs : List Int) (w : World) (hx : IsInts .i64 w a xs) (hl : xs.length ≤ 140737488355328) (hb : IsInts .i64 w b bs) (hl2 : bs.length ≤ 140737488355328) :
    Calls Try.prog 22 #[.slice a xs.length c, .slice b bs.length d] w (BinsPost bs xs w) := by
  rcases hf : fineB xs with _ | _
  · exact bins_bad a c xs b d bs w hx hl hf
  · rcases hu : upB bs with _ | _
    · exact bins_not a c xs b d bs w hx hl hb hl2 hf hu
    · exact bins_good a c xs b d bs w hx hl hb hf hu
end Go.Proofs.Ytebiddmadmmfpaa
/- timer: Of on every list; what no order turns. -/
namespace Go.Proofs.Ytebiddmadmmfpaa
set_option linter.unusedVariables false
set_option linter.unusedSimpArgs false
open Go.RowKit W T9
def ofE (xs : List Int) : Int := if fineB xs then (if xs.length = 0 then 90 else 0) else 93
def ofX (xs : List Int) (v : Int) : Int := if ofE xs = 0 then v else 0
/-- What Of says of any list, d being the deviation. -/
abbrev ofV (xs : List Int) (d : Int) : Value := .agg #[.int .i64 (ofX xs xs.length), .int .i64 (ofX xs (hi xs.sum)), .int .u64 (ofX xs (lo xs.sum)), .int .i64 (ofX xs ((srt xs).getD 0 0)), .int .i64 (ofX xs ((srt xs).getD (xs.length - 1) 0)), .int .i64 (ofX xs (xs.sum / xs.length)), .int .i64 (ofX xs (medL (srt xs))), .int .i64 (ofX xs d)]
structure OfOk (xs : List Int) : Prop where
  fine : fineB xs = true
  l0 : 0 < xs.length
theorem ofOk_of {xs : List Int} (h : ofE xs = 0) : OfOk xs := by
  unfold ofE at h
  split at h
  · split at h
    · omega
    · rename_i a b; exact ⟨a, by omega⟩
  · omega
theorem ofE_ok {xs : List Int} (h : OfOk xs) : ofE xs = 0 := by unfold ofE; rw [if_pos h.fine, if_neg (by have := h.l0; omega)]
theorem ofd_ex (xs : List Int) : ∃ d, ofE xs = 0 → IsRt (devQ xs) d := by
  by_cases h : ofE xs = 0
  · have k := ofOk_of h
    obtain ⟨d, hd⟩ := dev_ex k.fine k.l0
    exact ⟨d, fun _ => hd⟩
  · exact ⟨0, fun e => absurd e h⟩
theorem of_tot (a : Option Addr) (c : Nat) (xs : List Int) (d : Int) (w : World) (hx : IsInts .i64 w a xs) (hl : xs.length ≤ 17592186044416) (hd : ofE xs = 0 → IsRt (devQ xs) d) :
    Calls Try.prog 18 #[.slice a xs.length c] w fun e w' => e = .returned (.tuple #[ofV xs d, .int .i64 (ofE xs)]) ∧ Below w.heap.size w w' := by
  by_cases h : ofE xs = 0
  · have k := ofOk_of h
    have l0 := k.l0
    obtain ⟨g, o, rfl, la⟩ := hx.resolve_left (fun e => by rw [e] at l0; simp at l0)
    have r := of_spec g o c xs d w la hl k.fine k.l0 (hd h)
    unfold ofV ofX
    simp only [if_pos h]
    rw [h]
    exact r
  · unfold ofV ofX
    simp only [if_neg h]
    rcases hf : fineB xs with _ | _
    · have e : ofE xs = 93 := by unfold ofE; simp [hf]
      rw [e]; exact of_bad a c xs w hx hl hf
    · have z : xs.length = 0 := by
        by_cases z : xs.length = 0
        · exact z
        · exact absurd (by unfold ofE; simp [hf, z]) h
      have e : ofE xs = 90 := by unfold ofE; simp [hf, z]
      rw [e, z]; exact of_none a c w
theorem ofE_perm {xs ys : List Int} (p : xs.Perm ys) : ofE xs = ofE ys := by unfold ofE; rw [fine_perm p, p.length_eq]
theorem ofV_perm {xs ys : List Int} (p : xs.Perm ys) (d : Int) : ofV xs d = ofV ys d := by
  unfold ofV ofX; rw [ofE_perm p, p.length_eq, sum_perm p, srt_eq p]
theorem devQ_perm {xs ys : List Int} (p : xs.Perm ys) : devQ xs = devQ ys := by unfold devQ; rw [p.length_eq, sum_perm p, srt_eq p]
theorem uptoE_perm {xs ys : List Int} (p : xs.Perm ys) (q : Int) : uptoE xs q = uptoE ys q := by unfold uptoE; rw [fine_perm p, p.length_eq]
theorem uptoV_perm {xs ys : List Int} (p : xs.Perm ys) (q : Int) : uptoV xs q = uptoV ys q := by
  unfold uptoV uptoN uptoS uptoM uptoG upPart upEdge upR; rw [uptoE_perm p, p.length_eq, srt_eq p]
theorem cnt1_len (bs c : List Int) (v : Int) : (cnt1 bs c v).length = c.length := by simp [cnt1]
theorem getD_set9 (o : List Int) (i t : Nat) (x : Int) (h : i ≠ t) : (o.set i x).getD t 0 = o.getD t 0 := by simp [List.getD_eq_getElem?_getD, List.getElem?_set, h]
theorem cnt1_swap (bs c : List Int) (x y : Int) : cnt1 bs (cnt1 bs c x) y = cnt1 bs (cnt1 bs c y) x := by
  unfold cnt1
  generalize binK bs x = i
  generalize binK bs y = j
  by_cases e : i = j
  · subst e; rfl
  · rw [getD_set9 _ _ _ _ e, getD_set9 _ _ _ _ (Ne.symm e)]
    exact List.set_comm _ _ e
theorem foldl_perm {bs : List Int} {xs ys : List Int} (p : xs.Perm ys) : ∀ c, xs.foldl (cnt1 bs) c = ys.foldl (cnt1 bs) c := by
  induction p with
  | nil => intro c; rfl
  | cons x _ ih => intro c; rw [List.foldl_cons, List.foldl_cons]; exact ih _
  | swap x y l => intro c; simp only [List.foldl_cons]; rw [cnt1_swap]
  | trans _ _ h1 h2 => intro c; exact (h1 c).trans (h2 c)
theorem binL_perm {bs xs ys : List Int} (p : xs.Perm ys) : binL bs xs = binL bs ys := by unfold binL cntF; rw [fine_perm p, foldl_perm p]
theorem binE_perm {bs xs ys : List Int} (p : xs.Perm ys) : binE bs xs = binE bs ys := by unfold binE; rw [fine_perm p]
theorem set_sum : ∀ (c : List Int) (k : Nat), k < c.length → (c.set k (c.getD k 0 + 1)).sum = c.sum + 1
  | x :: r, 0, _ => by simp; omega
  | x :: r, k + 1, h => by
    have := set_sum r k (by simpa using h)
    simp only [List.set_cons_succ, List.getD_cons_succ, List.sum_cons]
    rw [this]; omega
theorem fold_sum (bs xs : List Int) : ∀ c : List Int, c.length = bs.length + 1 → (xs.foldl (cnt1 bs) c).sum = c.sum + xs.length := by
  induction xs with
  | nil => intro c _; simp
  | cons x r ih =>
    intro c h
    rw [List.foldl_cons, ih _ (by rw [cnt1_len, h])]
    have : (cnt1 bs c x).sum = c.sum + 1 := set_sum c _ (by rw [h]; have := binK_le bs x; omega)
    rw [this, List.length_cons]; omega
theorem cntF_sum (bs xs : List Int) : (cntF bs xs).sum = xs.length := by
  unfold cntF
  rw [fold_sum bs xs _ (by simp)]
  have : (List.replicate (bs.length + 1) (0 : Int)).sum = 0 := by simp
  omega
theorem binL_sum {bs xs : List Int} (h : binE bs xs = 0) : (binL bs xs).sum = xs.length := by
  unfold binE at h; unfold binL
  split at h
  · split at h
    · rename_i a b; rw [if_pos a, if_pos b]; exact cntF_sum bs xs
    · omega
  · omega
theorem binL_nonneg {bs xs : List Int} : ∀ x ∈ binL bs xs, 0 ≤ x ∧ x ≤ xs.length := by
  intro x hx
  unfold binL at hx
  split at hx
  · split at hx
    · have := cntF_bound bs xs xs.length x (by rw [List.take_length]; exact hx); exact this
    · simp at hx
  · simp at hx
theorem turn_perm (xs : List Int) (k : Nat) : ((xs.drop k).reverse ++ xs.take k).Perm xs := by
  refine (List.Perm.append_right _ (List.reverse_perm _)).trans ?_
  refine (List.perm_append_comm).trans ?_
  rw [List.take_append_drop]
end Go.Proofs.Ytebiddmadmmfpaa
/- timer: where mean, median, deviation lie; the lowest and the others: the plain mathematics. -/
namespace Go.Proofs.Ytebiddmadmmfpaa
set_option linter.unusedVariables false
set_option linter.unusedSimpArgs false
open Go.RowKit W T9
theorem up_at {s : List Int} (h : s.Pairwise (· ≤ ·)) {i j : Nat} (hij : i ≤ j) (hj : j < s.length) : s[i]'(by omega) ≤ s[j] := by
  rcases Nat.lt_or_ge i j with lt | ge
  · exact List.pairwise_iff_getElem.1 h i j (by omega) hj lt
  · have : i = j := by omega
    subst this; exact Int.le_refl _
theorem sum_ge {l : Int} : ∀ {xs : List Int}, (∀ x ∈ xs, l ≤ x) → xs.length * l ≤ xs.sum
  | [], _ => by simp
  | x :: r, h => by
    have h1 := h x (by simp)
    have h2 := sum_ge (xs := r) fun y hy => h y (by simp [hy])
    have e : ((x :: r).length : Int) * l = r.length * l + l := by rw [List.length_cons]; simp only [Int.natCast_add, Int.add_mul]; omega
    rw [List.sum_cons, e]; omega
theorem sum_up {u : Int} : ∀ {xs : List Int}, (∀ x ∈ xs, x ≤ u) → xs.sum ≤ xs.length * u
  | [], _ => by simp
  | x :: r, h => by
    have h1 := h x (by simp)
    have h2 := sum_up (xs := r) fun y hy => h y (by simp [hy])
    have e : ((x :: r).length : Int) * u = r.length * u + u := by rw [List.length_cons]; simp only [Int.natCast_add, Int.add_mul]; omega
    rw [List.sum_cons, e]; omega
/-- The least, the greatest. -/
def lowL (xs : List Int) : Int := (srt xs).getD 0 0
def topL (xs : List Int) : Int := (srt xs).getD (xs.length - 1) 0
theorem low_at {xs : List Int} (l0 : 0 < xs.length) : lowL xs = (srt xs)[0]'(by rw [srt_len]; exact l0) := at_getD (by rw [srt_len]; exact l0)
theorem top_at9 {xs : List Int} (l0 : 0 < xs.length) : topL xs = (srt xs)[xs.length - 1]'(by rw [srt_len]; omega) := at_getD (by rw [srt_len]; omega)
theorem in_range {xs : List Int} (l0 : 0 < xs.length) {x : Int} (hx : x ∈ xs) : lowL xs ≤ x ∧ x ≤ topL xs := by
  have hs : x ∈ srt xs := (srt_perm xs).mem_iff.2 hx
  obtain ⟨j, hj, rfl⟩ := List.getElem_of_mem hs
  have sl := srt_len xs
  rw [low_at l0, top_at9 l0]
  exact ⟨up_at (srt_up xs) (Nat.zero_le j) hj, up_at (srt_up xs) (by omega) (by omega)⟩
theorem mean_range {xs : List Int} (l0 : 0 < xs.length) : lowL xs ≤ xs.sum / xs.length ∧ xs.sum / xs.length ≤ topL xs := by
  have a := sum_ge (xs := xs) fun x hx => (in_range l0 hx).1
  have b := sum_up (xs := xs) fun x hx => (in_range l0 hx).2
  have p : (0 : Int) < xs.length := by omega
  refine ⟨(Int.le_ediv_iff_mul_le p).2 (by rw [Int.mul_comm]; exact a), ?_⟩
  have := Int.ediv_le_ediv p b
  rwa [Int.mul_ediv_cancel_left _ (by omega)] at this
theorem med_range {xs : List Int} (l0 : 0 < xs.length) : (∀ j (h : j < (srt xs).length), j ≤ (xs.length - 1) / 2 → (srt xs)[j] ≤ medL (srt xs)) ∧ (∀ j (h : j < (srt xs).length), xs.length / 2 ≤ j → medL (srt xs) ≤ (srt xs)[j]) := by
  have sl := srt_len xs
  have u := srt_up xs
  have hm : medL (srt xs) = if xs.length % 2 = 1 then (srt xs).getD (xs.length / 2) 0 else ((srt xs).getD (xs.length / 2 - 1) 0 + (srt xs).getD (xs.length / 2) 0) / 2 := by unfold medL; rw [sl]
  rw [hm]
  clear hm
  by_cases par : xs.length % 2 = 1
  · rw [if_pos par]
    have k : xs.length / 2 < (srt xs).length := by omega
    have e : (srt xs).getD (xs.length / 2) 0 = (srt xs)[xs.length / 2] := at_getD k
    rw [e]
    exact ⟨fun j h hj => up_at u (by omega) k, fun j h hj => up_at u hj h⟩
  · rw [if_neg par]
    have k : xs.length / 2 < (srt xs).length := by omega
    have k1 : xs.length / 2 - 1 < (srt xs).length := by omega
    have e : (srt xs).getD (xs.length / 2) 0 = (srt xs)[xs.length / 2] := at_getD k
    have e1 : (srt xs).getD (xs.length / 2 - 1) 0 = (srt xs)[xs.length / 2 - 1] := at_getD k1
    rw [e, e1]
    have le := up_at u (show xs.length / 2 - 1 ≤ xs.length / 2 by omega) k
    refine ⟨fun j h hj => ?_, fun j h hj => ?_⟩
    · have := up_at u (show j ≤ xs.length / 2 - 1 by omega) k1
      omega
    · have := up_at u hj h
      omega
theorem med_in {xs : List Int} (l0 : 0 < xs.length) : lowL xs ≤ medL (srt xs) ∧ medL (srt xs) ≤ topL xs := by
  have sl := srt_len xs
  rw [low_at l0, top_at9 l0]
  exact ⟨(med_range l0).1 0 (by omega) (by omega), (med_range l0).2 (xs.length - 1) (by omega) (by omega)⟩
theorem dev_range {xs : List Int} {d : Int} (hf : fineB xs = true) (l0 : 0 < xs.length) (hl : xs.length ≤ 17592186044416) (hd : IsRt (devQ xs) d) : 0 ≤ d ∧ d ≤ topL xs - lowL xs := by
  obtain ⟨_, _, m0, m1⟩ := mean_le hf l0
  obtain ⟨r0, r1⟩ := mean_range l0
  have near : ∀ x ∈ srt xs, -(topL xs - lowL xs) ≤ x - xs.sum / xs.length ∧ x - xs.sum / xs.length ≤ topL xs - lowL xs := by
    intro x hx
    have := in_range l0 ((srt_perm xs).mem_iff.1 hx)
    omega
  have b := sqC_le near (srt xs).length
  rw [List.take_length, srt_len] at b
  have q : devQ xs ≤ (topL xs - lowL xs) * (topL xs - lowL xs) := by
    unfold devQ
    have := Int.ediv_le_ediv (c := (xs.length : Int)) (by omega) b.2
    rwa [Int.mul_ediv_cancel_left _ (by omega)] at this
  exact ⟨hd.lo, rt_mono hd q (by omega) (Int.le_refl _)⟩
/-- How many are not above, not below. -/
def cntLe (e : Int) (xs : List Int) : Nat := xs.countP fun x => decide (x ≤ e)
def cntGe (e : Int) (xs : List Int) : Nat := xs.countP fun x => decide (e ≤ x)
def cntLt (e : Int) (xs : List Int) : Nat := xs.countP fun x => decide (x < e)
def sumGt (e : Int) (xs : List Int) : Int := (xs.filter fun x => decide (e < x)).sum
theorem countP_take {p : Int → Bool} {xs : List Int} {k : Nat} (h : k < xs.length) : (xs.take (k + 1)).countP p = (xs.take k).countP p + if p xs[k] then 1 else 0 := by
  rw [List.take_succ_eq_append_getElem h, List.countP_append]
  simp [List.countP_cons]
theorem sumGt_take {e : Int} {xs : List Int} {k : Nat} (h : k < xs.length) : sumGt e (xs.take (k + 1)) = sumGt e (xs.take k) + if e < xs[k] then xs[k] else 0 := by
  unfold sumGt
  rw [List.take_succ_eq_append_getElem h, List.filter_append, List.sum_append]
  by_cases q : e < xs[k] <;> simp [q]
theorem countP_le_len {p : Int → Bool} (xs : List Int) : xs.countP p ≤ xs.length := List.countP_le_length
theorem countP_part {p : Int → Bool} {s : List Int} {a b : Nat} (hb : b ≤ s.length) (h : ∀ j (hj : j < s.length), a ≤ j → j < b → p s[j] = true) : b - a ≤ s.countP p := by
  have e : s = s.take a ++ (s.drop a) := (List.take_append_drop a s).symm
  have e2 : s.drop a = (s.drop a).take (b - a) ++ (s.drop a).drop (b - a) := (List.take_append_drop _ _).symm
  have all : ((s.drop a).take (b - a)).countP p = ((s.drop a).take (b - a)).length := by
    rw [List.countP_eq_length]
    intro x hx
    obtain ⟨j, hj, rfl⟩ := List.getElem_of_mem hx
    rw [List.length_take, List.length_drop] at hj
    rw [List.getElem_take, List.getElem_drop]
    exact h (a + j) (by omega) (by omega) (by omega)
  have l : ((s.drop a).take (b - a)).length = min (b - a) (s.length - a) := by rw [List.length_take, List.length_drop]
  rw [e, List.countP_append, e2, List.countP_append, all, l]
  omega
theorem med_le {xs : List Int} (l0 : 0 < xs.length) : xs.length ≤ 2 * cntLe (medL (srt xs)) xs := by
  have sl := srt_len xs
  have q : cntLe (medL (srt xs)) xs = cntLe (medL (srt xs)) (srt xs) := ((srt_perm xs).countP_eq _).symm
  have k := countP_part (p := fun x => decide (x ≤ medL (srt xs))) (s := srt xs) (a := 0) (b := (xs.length - 1) / 2 + 1) (by omega) (fun j hj _ lt => decide_eq_true ((med_range l0).1 j hj (by omega)))
  rw [q]; unfold cntLe; omega
theorem med_ge {xs : List Int} (l0 : 0 < xs.length) : xs.length ≤ 2 * cntGe (medL (srt xs)) xs := by
  have sl := srt_len xs
  have q : cntGe (medL (srt xs)) xs = cntGe (medL (srt xs)) (srt xs) := ((srt_perm xs).countP_eq _).symm
  have k := countP_part (p := fun x => decide (medL (srt xs) ≤ x)) (s := srt xs) (a := xs.length / 2) (b := xs.length) (by omega) (fun j hj le _ => decide_eq_true ((med_range l0).2 j hj le))
  rw [q]; unfold cntGe; omega
/-- The rank's sample and the rest. -/
theorem drop_split {e : Int} : ∀ {s : List Int}, (∀ x ∈ s, e ≤ x) → s.sum = sumGt e s + e * (cntLe e s : Int)
  | [], _ => by simp [sumGt, cntLe]
  | x :: r, h => by
    have ih := drop_split (s := r) fun y hy => h y (by simp [hy])
    have h1 := h x (by simp)
    by_cases q : e < x
    · have n : ¬ x ≤ e := by omega
      have e1 : sumGt e (x :: r) = x + sumGt e r := by simp [sumGt, q]
      have e2 : cntLe e (x :: r) = cntLe e r := by simp [cntLe, n]
      rw [e1, e2, List.sum_cons, ih]; omega
    · have n : x ≤ e := by omega
      have e0 : x = e := by omega
      have e1 : sumGt e (x :: r) = sumGt e r := by simp [sumGt, q]
      have e2 : cntLe e (x :: r) = cntLe e r + 1 := by simp [cntLe, n]
      have e3 : e * ((cntLe e r + 1 : Nat) : Int) = e * (cntLe e r : Int) + e := by rw [Int.natCast_add, Int.mul_add]; omega
      rw [e1, e2, List.sum_cons, ih, e3]; omega
structure Halves (xs : List Int) (r : Nat) (e : Int) : Prop where
  below : cntLt e xs < r
  upto : r ≤ cntLe e xs
  all : ((srt xs).take r).sum + sumGt e xs + e * ((cntLe e xs : Int) - r) = xs.sum
theorem halves {xs : List Int} {r : Nat} (r1 : 1 ≤ r) (r2 : r ≤ xs.length) : Halves xs r ((srt xs).getD (r - 1) 0) := by
  have sl := srt_len xs
  have u := srt_up xs
  have p := srt_perm xs
  have lt : r - 1 < (srt xs).length := by omega
  have ee : (srt xs).getD (r - 1) 0 = (srt xs)[r - 1] := at_getD lt
  obtain ⟨e, he⟩ : ∃ e, e = (srt xs)[r - 1] := ⟨_, rfl⟩
  rw [ee, ← he]
  have q1 : cntLe e xs = cntLe e (srt xs) := (p.countP_eq _).symm
  have q2 : cntLt e xs = cntLt e (srt xs) := (p.countP_eq _).symm
  have q3 : sumGt e xs = sumGt e (srt xs) := (sum_perm (p.filter _)).symm
  have q4 : xs.sum = (srt xs).sum := (sum_perm p).symm
  have sp : srt xs = (srt xs).take r ++ (srt xs).drop r := (List.take_append_drop r _).symm
  have t1 : ∀ x ∈ (srt xs).take r, x ≤ e := by
    intro x hx
    obtain ⟨j, hj, rfl⟩ := List.getElem_of_mem hx
    rw [List.length_take] at hj
    rw [List.getElem_take, he]
    exact up_at u (by omega) lt
  have t2 : ∀ x ∈ (srt xs).drop r, e ≤ x := by
    intro x hx
    obtain ⟨j, hj, rfl⟩ := List.getElem_of_mem hx
    rw [List.length_drop] at hj
    rw [List.getElem_drop, he]
    exact up_at u (by omega) (by omega)
  have lr : ((srt xs).take r).length = r := by rw [List.length_take]; omega
  have c1 : cntLe e ((srt xs).take r) = r := by
    unfold cntLe
    rw [List.countP_eq_length.2 (fun x hx => decide_eq_true (t1 x hx)), lr]
  have c2 : cntLe e (srt xs) = r + cntLe e ((srt xs).drop r) := by
    conv => lhs; rw [sp]
    unfold cntLe; rw [List.countP_append]; unfold cntLe at c1; rw [c1]
  have c3 : sumGt e (srt xs) = sumGt e ((srt xs).drop r) := by
    conv => lhs; rw [sp]
    unfold sumGt; rw [List.filter_append, List.sum_append]
    have : ((srt xs).take r).filter (fun x => decide (e < x)) = [] := by
      rw [List.filter_eq_nil_iff]; intro x hx; have := t1 x hx; simp; omega
    rw [this]; simp
  have c4 : cntLt e (srt xs) ≤ r - 1 := by
    have sp2 : srt xs = (srt xs).take (r - 1) ++ (srt xs).drop (r - 1) := (List.take_append_drop _ _).symm
    have z : ((srt xs).drop (r - 1)).countP (fun x => decide (x < e)) = 0 := by
      rw [List.countP_eq_zero]
      intro x hx
      obtain ⟨j, hj, rfl⟩ := List.getElem_of_mem hx
      rw [List.length_drop] at hj
      have := up_at u (show r - 1 ≤ r - 1 + j by omega) (by omega)
      rw [List.getElem_drop, he]; simp; omega
    have l : ((srt xs).take (r - 1)).countP (fun x => decide (x < e)) ≤ r - 1 := Nat.le_trans (countP_le_len _) (by rw [List.length_take]; omega)
    unfold cntLt
    conv => lhs; rw [sp2]
    rw [List.countP_append, z]; omega
  have ds := drop_split t2
  refine ⟨by rw [q2]; omega, by rw [q1]; omega, ?_⟩
  have s0 : (srt xs).sum = ((srt xs).take r).sum + ((srt xs).drop r).sum := by rw [← List.sum_append, List.take_append_drop]
  rw [q1, q3, q4, s0, c2, c3, ds]
  have : ((r + cntLe e ((srt xs).drop r) : Nat) : Int) - r = (cntLe e ((srt xs).drop r) : Int) := by omega
  rw [this]; omega
end Go.Proofs.Ytebiddmadmmfpaa
/- Slices of numbers as they are read, with their capacity and their shape. -/
namespace Go.Proofs.Ytebiddmadmmfpaa
set_option linter.unusedVariables false
set_option linter.unusedSimpArgs false
open Go.RowKit W
open Go.ChangeShapes Go.WideShapes in
/-- A slice of numbers as it is read. -/
theorem isIntu_of {H : Type} {enc : TypeId × Value → H} {P : Program} {w : World} {base : Nat} {spare : Nat → Bool} {held : Bool} {n : Nat} {t e : TypeId} {k : IntKind} {v : Value} {y : DataW H × List MemPlace}
    (ht : P.underlying t = some (.slice e)) (he : P.underlying e = some (.int k)) (hc : P.cellsOf e = 1) (h : DataW.trod enc P w base spare held n t [v] = some y) :
    ∃ a c xs, v = .slice a (List.length xs) c ∧ xs.length ≤ c ∧ c ≤ 9223372036854775807 ∧ (a = none → xs.length = 0 ∧ c = 0) ∧ IsInts k w a xs ∧ (∀ x ∈ xs, (Lit.int k x).wf = true) ∧ (xs = [] ∨ ∃ el sp, y.1 = .slice el sp ∧ el.length = xs.length) := by
  rcases open_ints ht he hc h with ⟨hcs, _⟩ | ⟨a, len, cap, zs, hcs, _, hl, hm, hz, hy, hcell, hwf⟩
  · simp at hcs
    exact ⟨none, 0, [], hcs, by simp, by simp, by simp, .inl rfl, by simp, .inl rfl⟩
  · simp at hcs
    have lz : len ≤ zs.length := by rw [hz]; split <;> omega
    have lt : (zs.take len).length = len := by rw [List.length_take]; omega
    unfold maxLen at hm
    refine ⟨some a, cap, zs.take len, by rw [lt]; exact hcs, by rw [lt]; exact hl, by omega, (by intro e; cases e), ?_, fun x hx => hwf x (List.mem_of_mem_take hx), .inr ⟨lits k (zs.take len), lits k (zs.drop len), by rw [hy], by simp [lits]⟩⟩
    rcases Nat.eq_zero_or_pos len with rfl | hpos
    · exact .inl (by simp)
    · have g0 := hcell 0 (by omega)
      obtain ⟨b, off, spot⟩ := a
      have hspot : spot = none := by simpa [Addr.add] using World.cell?_spot g0
      subst hspot
      refine .inr ⟨b, off, rfl, ⟨fun j hj => ?_, ?_⟩⟩
      · rw [lt] at hj
        have := hcell j (by omega)
        rw [add_plain] at this
        rw [this]
        simp [List.getD_eq_getElem?_getD, List.getElem?_eq_getElem (show j < zs.length by omega)]
      · have := hcell 0 (by omega)
        rw [add_plain] at this
        exact cellb_lt this
end Go.Proofs.Ytebiddmadmmfpaa
/- timer: TimerWithin. (gen_tw.py) -/
namespace Go.Proofs.Ytebiddmadmmfpaa
set_option linter.unusedVariables false
set_option linter.unusedSimpArgs false
open Go.RowKit W T9
theorem Box8.ne {w : World} {b : Nat} {x0 x1 x2 x3 x4 x5 x6 x7 : Value} (h : Box8 w b x0 x1 x2 x3 x4 x5 x6 x7) {q : Nat} (hq : b ≠ q) (i : Nat) (x : Value) : Box8 (w.setCell ⟨q, i, none⟩ x) b x0 x1 x2 x3 x4 x5 x6 x7 := by
  have hb : (w.setCell ⟨q, i, none⟩ x).heap[b]? = w.heap[b]? := Below.heap_setCell w _ x b hq
  have c : ∀ o, (w.setCell ⟨q, i, none⟩ x).cell? ⟨b, o, none⟩ = w.cell? ⟨b, o, none⟩ := fun o => World.cell?_of_block hb
  have f : ∀ o, (w.setCell ⟨q, i, none⟩ x).frozen? ⟨b, o, none⟩ = w.frozen? ⟨b, o, none⟩ := fun o => by unfold World.frozen?; rw [hb]
  exact ⟨(c 0).trans h.x0, (c 1).trans h.x1, (c 2).trans h.x2, (c 3).trans h.x3, (c 4).trans h.x4, (c 5).trans h.x5, (c 6).trans h.x6, (c 7).trans h.x7, (f 0).trans h.f0, (f 1).trans h.f1, (f 2).trans h.f2, (f 3).trans h.f3, (f 4).trans h.f4, (f 5).trans h.f5, (f 6).trans h.f6, (f 7).trans h.f7, by simpa [World.setCell] using h.lt⟩
theorem IsInts.ne {k : IntKind} {w : World} {a : Option Addr} {xs : List Int} (h : IsInts k w a xs) {q : Nat} (hq : ∀ g, a = some g → g.block ≠ q) (i : Nat) (x : Value) : IsInts k (w.setCell ⟨q, i, none⟩ x) a xs := by
  rcases h with h | ⟨g, o, rfl, h⟩
  · exact .inl h
  · exact .inr ⟨g, o, rfl, ⟨fun j hj => (World.cell?_of_block (Below.heap_setCell w _ x g (hq _ rfl))).trans (h.cell j hj), by simpa [World.setCell] using h.lt⟩⟩
theorem eq_zero8 (w : World) : (binOp .eql 36 (.agg #[.int .i64 0, .int .i64 0, .int .u64 0, .int .i64 0, .int .i64 0, .int .i64 0, .int .i64 0, .int .i64 0]) (.agg #[.int .i64 0, .int .i64 0, .int .u64 0, .int .i64 0, .int .i64 0, .int .i64 0, .int .i64 0, .int .i64 0])).run Try.prog w = .ok (.bool true) w := by kernel_rfl
set_option maxRecDepth 100000 in
set_option maxHeartbeats 8000000 in
theorem within_bad (a : Option Addr) (n c : Nat) (E : Int) (w : World) (hE : E = 90 ∧ n = 0 ∨ E = 93 ∧ 0 < n)
    (k1 : Calls Try.prog 18 #[.slice a n c] w fun e w' => e = .returned (.tuple #[.agg #[.int .i64 0, .int .i64 0, .int .u64 0, .int .i64 0, .int .i64 0, .int .i64 0, .int .i64 0, .int .i64 0], .int .i64 E]) ∧ Below w.heap.size w w') :
    Calls Try.prog 9 #[.slice a n c] w fun e w' => e = .returned (.bool true) ∧ Below w.heap.size w w' := by
  have k4 := alive9
  have q := eq_zero8
  rcases hE with ⟨rfl, rfl⟩ | ⟨rfl, h⟩
  · have h0 : True := trivial
    go_enter Try.func9, Try.ntmps9
    go_wp2_with fail
    refine k1.mono ?_
    clear k1
    rintro e w1 ⟨rfl, b1⟩
    go_wp2_with fail
    refine (k4 _).mono ?_
    rintro e w4 ⟨rfl, h4⟩
    have b4 := hide (b1.trans (Below.trans ((Below.refl _ _).alloc (by first | exact b1.size | (simp; exact b1.size)) _) (h4.mono (by have := b1.size; simp; omega))))
    clear h4 k4
    go_wp2_with fail
    go_returns
    exact ⟨rfl, b4.out⟩
  · have h2 : (0 : Int) < (n : Int) := by omega
    go_enter Try.func9, Try.ntmps9
    go_wp2_with fail
    refine k1.mono ?_
    clear k1
    rintro e w1 ⟨rfl, b1⟩
    go_wp2_with fail
    refine (k4 _).mono ?_
    rintro e w4 ⟨rfl, h4⟩
    have b4 := hide (b1.trans (Below.trans ((Below.refl _ _).alloc (by first | exact b1.size | (simp; exact b1.size)) _) (h4.mono (by have := b1.size; simp; omega))))
    clear h4 k4
    go_wp2_with fail
    go_returns
    exact ⟨rfl, b4.out⟩
/-- The state of the loop: the sum's box T, the stats' box A. -/
structure WS (w wr : World) (A T : Nat) (a : Option Addr) (xs : List Int) (n s1 s0 lo_ hi_ m md d z : Int) : Prop where
  st : Box8 wr A (.int .i64 n) (.int .i64 s1) (.int .u64 s0) (.int .i64 lo_) (.int .i64 hi_) (.int .i64 m) (.int .i64 md) (.int .i64 d)
  t : Box2 wr T (.int .i64 (hi z)) (.int .u64 (lo z))
  l : IsInts .i64 wr a xs
  at_ : A ≠ T
  nl : ∀ g, a = some g → g.block ≠ T
  ge : w.heap.size ≤ T
  below : Below w.heap.size w wr
theorem WS.next {w wr v : World} {A T : Nat} {a : Option Addr} {xs : List Int} {n s1 s0 lo_ hi_ m md d z y : Int} (h : WS w wr A T a xs n s1 s0 lo_ hi_ m md d z) (k : Below wr.heap.size wr v) :
    WS w ((v.setCell ⟨T, 0, none⟩ (.int .i64 (hi y))).setCell ⟨T, 1, none⟩ (.int .u64 (lo y))) A T a xs n s1 s0 lo_ hi_ m md d y :=
  ⟨((h.st.later k).ne h.at_ _ _).ne h.at_ _ _, (h.t.later k).set _ _, ((h.l.later k).ne h.nl _ _).ne h.nl _ _, h.at_, h.nl, h.ge, ((h.below.trans (k.mono h.below.size)).setCell h.ge _).setCell h.ge _⟩
theorem WS.drewN {w wr : World} {A T : Nat} {a : Option Addr} {xs : List Int} {n s1 s0 lo_ hi_ m md d z : Int} (h : WS w wr A T a xs n s1 s0 lo_ hi_ m md d z) (q : Nat) : WS w (wr.drewN q) A T a xs n s1 s0 lo_ hi_ m md d z :=
  have k : Below wr.heap.size wr (wr.drewN q) := below_drewN (Below.refl _ _) q
  ⟨h.st.later k, h.t.later k, h.l.later k, h.at_, h.nl, h.ge, h.below.trans (k.mono h.below.size)⟩
set_option maxRecDepth 100000 in
set_option maxHeartbeats 16000000 in
theorem within_good (a : Option Addr) (n c : Nat) (xs : List Int) (s1 s0 lo_ hi_ m md d : Int) (w : World) (hn : n = xs.length) (l0 : 0 < n) (hl : n ≤ 17592186044416) (hx : IsInts .i64 w a xs) (hf : fineB xs = true)
    (h1 : lo_ ≤ m) (h2 : m ≤ hi_) (h3 : lo_ ≤ md) (h4 : md ≤ hi_) (h5 : 0 ≤ d) (h6 : d ≤ hi_ - lo_) (h7 : 0 ≤ lo_) (h8 : hi_ ≤ 100000000000000) (hr : ∀ x ∈ xs, lo_ ≤ x ∧ x ≤ hi_)
    (hle : n ≤ 2 * cntLe md xs) (hge : n ≤ 2 * cntGe md xs) (hs1 : s1 = hi xs.sum) (hs0 : s0 = lo xs.sum)
    (k1 : Calls Try.prog 18 #[.slice a n c] w fun e w' => e = .returned (.tuple #[.agg #[.int .i64 n, .int .i64 s1, .int .u64 s0, .int .i64 lo_, .int .i64 hi_, .int .i64 m, .int .i64 md, .int .i64 d], .int .i64 0]) ∧ Below w.heap.size w w')
    (q1 q0 r1 r0 d1 d0 m1 m0 : Int)
    (kl : ∀ w', Calls Try.prog 24 #[.int .i64 n] w' fun e w'' => e = .returned (.agg #[.int .i64 d1, .int .u64 d0]) ∧ Below w'.heap.size w' w'')
    (kq : ∀ w', Calls Try.prog 26 #[.agg #[.int .i64 s1, .int .u64 s0], .agg #[.int .i64 d1, .int .u64 d0]] w' fun e w'' => e = .returned (.tuple #[.agg #[.int .i64 m1, .int .u64 m0], .agg #[.int .i64 r1, .int .u64 r0], .int .i64 0]) ∧ Below w'.heap.size w' w'')
    (km : ∀ w', Calls Try.prog 24 #[.int .i64 m] w' fun e w'' => e = .returned (.agg #[.int .i64 m1, .int .u64 m0]) ∧ Below w'.heap.size w' w'') :
    Calls Try.prog 9 #[.slice a n c] w fun e w' => e = .returned (.bool true) ∧ Below w.heap.size w w' := by
  have k4 := alive9
  have k0 := wof_spec 0 ⟨by omega, by omega⟩
  unfold wideRes at k0
  rw [hi_0, lo_0] at k0
  have HX := hide hx
  have HF := hide hf
  have HN := hide hn
  have HR := hide hr
  have HLE := hide hle
  have HGE := hide hge
  have HS1 := hide hs1
  have HS0 := hide hs0
  have KL := hide kl
  have KQ := hide kq
  have KM := hide km
  have g1 : ((n : Int) == 0) = false := by simp; omega
  have g2 : ¬ m < lo_ := by omega
  have g3 : ¬ hi_ < m := by omega
  have g4 : ¬ md < lo_ := by omega
  have g5 : ¬ hi_ < md := by omega
  have g6 : ¬ d < 0 := by omega
  have g7 : IntKind.i64.wrap (hi_ - lo_) = hi_ - lo_ := by rw [IntKind.wrap_i64]; omega
  have g8 : ¬ hi_ - lo_ < d := by omega
  have g9 : ¬ hi_ < lo_ := by omega
  clear hn hx hf hr hle hge hs1 hs0 kl kq km h1 h2 h3 h4 h5 h6
  go_enter Try.func9, Try.ntmps9
  go_wp2_with fail
  refine k1.mono ?_
  clear k1
  rintro e w1 ⟨rfl, b1⟩
  have AL := hide (show ∀ o, Below w1.heap.size w1 (w1.alloc o) from fun o => (Below.refl _ _).alloc (Nat.le_refl _) o)
  go_wp2_with fail
  refine (k0 _).mono ?_
  clear k0
  rintro e w2 ⟨rfl, h2⟩
  have S2 := hide ((Box8.made (w := w1)).later h2)
  have B2 := hide (b1.trans (((AL.out _).trans (h2.mono (by simp))).mono b1.size))
  have z2 : w1.heap.size < w2.heap.size := by have := h2.size; simp at this; omega
  clear h2 b1 AL g1 g2 g3 g4 g5 g6 g7 g8 g9
  go_wp2_with fail
  have VS0 : Hid (WS w (w2.alloc (.cells #[.int .i64 0, .int .u64 0] 34)) w1.heap.size w2.heap.size a xs n s1 s0 lo_ hi_ m md d (xs.take 0).sum) := by
    have al : Below w2.heap.size w2 (w2.alloc (.cells #[.int .i64 0, .int .u64 0] 34)) := (Below.refl _ _).alloc (Nat.le_refl _) _
    refine ⟨S2.out.later al, ?_, (HX.out.later B2.out).later al, by omega, ?_, B2.out.size, B2.out.trans (al.mono B2.out.size)⟩
    · rw [show (xs.take 0).sum = 0 from rfl, hi_0, lo_0]
      refine ⟨?_, ?_, ?_, ?_, ?_⟩ <;> first | (simp [go_sem]; done) | (simp; done)
    · intro g e
      rcases HX.out with h | ⟨g', o', e2, h⟩
      · have := HN.out; rw [h] at this; simp at this; omega
      · rw [e2] at e; injection e with e; rw [← e]; have := h.lt; have := B2.out.size; show g' ≠ _; omega
  clear S2 B2
  go_loopw [6, 7, 8] (fun lw hg i wr => ∃ (k : Nat) (p q : Int), k ≤ n ∧ i = .int .i64 k ∧ lw = .int .i64 p ∧ hg = .int .i64 q ∧ Hid (p = (cntLe md (xs.take k) : Nat)) ∧ Hid (q = (cntGe md (xs.take k) : Nat)) ∧ 0 ≤ p ∧ p ≤ k ∧ 0 ≤ q ∧ q ≤ k ∧ Hid (WS w wr w1.heap.size w2.heap.size a xs n s1 s0 lo_ hi_ m md d (xs.take k).sum)) (fun _ _ i _ => n - (intOf i).toNat)
  case atStart => exact ⟨0, 0, 0, by omega, rfl, rfl, rfl, rfl, rfl, by omega, by omega, by omega, by omega, VS0⟩
  case round =>
    clear VS0
    obtain ⟨k, p, q, hk, rfl, rfl, rfl, HP, HQ, p0, p1, q0_, q1_, I⟩ := hrel
    by_cases hlt : k < n
    · have k1 : k < xs.length := by have := HN.out; omega
      obtain ⟨g, o, ea, la⟩ := I.out.l.resolve_left (fun h => by rw [h] at k1; simp at k1)
      have cx := la.cell k k1
      have gl := la.lt
      have st := sum_take k1
      have cp := countP_take (p := fun x => decide (x ≤ md)) k1
      have cq := countP_take (p := fun x => decide (md ≤ x)) k1
      obtain ⟨b1, b2⟩ := HR.out _ (List.getElem_mem k1)
      have f1 := fine_sum HF.out k
      have f2 := fine_sum HF.out (k + 1)
      have fx := fine_mem HF.out (List.getElem_mem k1)
      have HN1 := HN.out
      obtain ⟨x, hxk⟩ : ∃ x, x = xs[k] := ⟨_, rfl⟩
      rw [← hxk] at cx st cp cq b1 b2 fx
      obtain ⟨z, hz⟩ : ∃ z, z = (xs.take k).sum := ⟨_, rfl⟩
      obtain ⟨t, ht⟩ : ∃ t, t = (xs.take (k + 1)).sum := ⟨_, rfl⟩
      have I2 := I.out
      rw [← hz] at st f1 I2
      rw [← ht] at st f2
      have fz : Fits z := ⟨by omega, by omega⟩
      have ft : Fits t := ⟨by omega, by omega⟩
      have fxh : IsHi x := ⟨by omega, by omega⟩
      have kf := wof_spec x fxh
      unfold wideRes at kf
      have ka := add_spec (hi z) (lo z) (hi x) (lo x) (hiV_isW fz) (hiV_isW (fits_small fxh))
      unfold sumRes at ka
      rw [V_hi_lo, V_hi_lo, ← st, resV_fits ft, resE_fits ft] at ka
      have J := hide I2
      have TT := hide ht
      obtain ⟨u0, u1, u2, u3, u4⟩ := I2.t
      have A3 := I2.st.x3
      have A4 := I2.st.x4
      have A6 := I2.st.x6
      have Al := I2.st.lt
      have CP := hide cp
      have CQ := hide cq
      have kp1 : p + 1 ≤ ((k + 1 : Nat) : Int) := by omega
      have kq1 : q + 1 ≤ ((k + 1 : Nat) : Int) := by omega
      have X1 := hide (And.intro b1 b2)
      subst ea
      clear hxk st f1 f2 fx fz ft fxh hz ht I I2 la k1 HN1 cp cq b1 b2 h7 h8
      obtain ⟨t1, ht1⟩ : ∃ t1, t1 = hi t := ⟨_, rfl⟩
      obtain ⟨t0, ht0⟩ : ∃ t0, t0 = lo t := ⟨_, rfl⟩
      rw [← ht1, ← ht0] at ka
      have T1 := hide ht1
      have T0 := hide ht0
      clear ht1 ht0
      generalize hi z = z1 at *
      generalize lo z = z0 at *
      generalize hi x = y1 at *
      generalize lo x = y0 at *
      have hlt2 : (k : Int) < (n : Int) := by omega
      obtain ⟨wo, hwo⟩ : ∃ wo : World, wo = wr := ⟨_, rfl⟩
      clear hwo
      go_wp2_with fail
      go_cut [9, 10] from 99 to 153 (fun u f W' => ∃ U : Nat, u = .pointer (some ⟨U, 0, none⟩) ∧ f = .int .i64 0 ∧ Box2 W' U (.int .i64 t1) (.int .u64 t0) ∧ Keeps wr.heap.size wr W')
      case first =>
        have K0 := Keeps.start (Nat.le_refl wr.heap.size)
        have K1 := K0.drew
        go_region_held3 (fun w' => w'.cell? ⟨w2.heap.size, 0, none⟩ = some (.int .i64 z1) ∧ w'.cell? ⟨w2.heap.size, 1, none⟩ = some (.int .u64 z0) ∧ w'.cell? ⟨g, o + k, none⟩ = some (.int .i64 x) ∧ Keeps wr.heap.size wr w') ((refine (fun K => ⟨Keeps.cell K u0 u4, Keeps.cell K u1 u4, Keeps.cell K cx gl, K⟩) (?_ : Keeps wr.heap.size wr _); ((repeat (first | with_reducible assumption | with_reducible refine Keeps.alloc ?_ _ | with_reducible refine Keeps.drew ?_ | with_reducible refine Keeps.setCell ?_ ?_ _)); (all_goals (first | (simp; done) | omega | (simp; omega))))))
          (first
          | (go_at_call 24; (with_reducible refine (kf _).mono ?_); rintro e v20 ⟨rfl, hb20⟩; have K20 := Keeps.call (B := wr.heap.size) (W := wr) (by (repeat (first | with_reducible assumption | with_reducible refine Keeps.alloc ?_ _ | with_reducible refine Keeps.drew ?_ | with_reducible refine Keeps.setCell ?_ ?_ _)); (all_goals (first | (simp; done) | omega | (simp; omega)))) hb20; obtain ⟨bc20, bf20, bs20⟩ := bcell hb20; (try simp only [World.size_alloc, World.size_drew] at bc20 bf20 bs20); (try (have ov200 : wr.heap.size < v20.heap.size := by omega)); (try (have ov201 : wr.heap.size ≤ v20.heap.size := by omega)); (try (have ov202 : ¬ wr.heap.size = v20.heap.size := by omega)); (try (have ov203 : ¬ v20.heap.size = wr.heap.size := by omega)); (try (have ov204 : wr.heap.size + 1 < v20.heap.size := by omega)); (try (have ov205 : wr.heap.size + 1 ≤ v20.heap.size := by omega)); (try (have ov206 : ¬ wr.heap.size + 1 = v20.heap.size := by omega)); (try (have ov207 : ¬ v20.heap.size = wr.heap.size + 1 := by omega)))
          | (go_at_call 25; (with_reducible refine (ka _).mono ?_); rintro e v21 ⟨rfl, hb21⟩; have K21 := Keeps.call (B := wr.heap.size) (W := wr) (by (repeat (first | with_reducible assumption | with_reducible refine Keeps.alloc ?_ _ | with_reducible refine Keeps.drew ?_ | with_reducible refine Keeps.setCell ?_ ?_ _)); (all_goals (first | (simp; done) | omega | (simp; omega)))) hb21; obtain ⟨bc21, bf21, bs21⟩ := bcell hb21; (try simp only [World.size_alloc, World.size_drew] at bc21 bf21 bs21); (try (have ov210 : wr.heap.size < v21.heap.size := by omega)); (try (have ov211 : wr.heap.size ≤ v21.heap.size := by omega)); (try (have ov212 : ¬ wr.heap.size = v21.heap.size := by omega)); (try (have ov213 : ¬ v21.heap.size = wr.heap.size := by omega)); (try (have ov214 : wr.heap.size + 1 < v21.heap.size := by omega)); (try (have ov215 : wr.heap.size + 1 ≤ v21.heap.size := by omega)); (try (have ov216 : ¬ wr.heap.size + 1 = v21.heap.size := by omega)); (try (have ov217 : ¬ v21.heap.size = wr.heap.size + 1 := by omega)); (try (have ov218 : v20.heap.size < v21.heap.size := by omega)); (try (have ov219 : v20.heap.size ≤ v21.heap.size := by omega)); (try (have ov2110 : ¬ v20.heap.size = v21.heap.size := by omega)); (try (have ov2111 : ¬ v21.heap.size = v20.heap.size := by omega)); (try (have ov2112 : v20.heap.size + 1 < v21.heap.size := by omega)); (try (have ov2113 : v20.heap.size + 1 ≤ v21.heap.size := by omega)); (try (have ov2114 : ¬ v20.heap.size + 1 = v21.heap.size := by omega)); (try (have ov2115 : ¬ v21.heap.size = v20.heap.size + 1 := by omega))))
        all_goals
          go_wp2_with fail
          go_meet
          case rel =>
            refine ⟨_, rfl, rfl, ⟨?_, ?_, ?_, ?_, ?_⟩, ?_⟩
            · (first | (go_simp; done) | (go_simp; refine World.cell?_setCell_same' _ _ _ ?_; go_simp; done))
            · (first | (go_simp; done) | (go_simp; refine World.cell?_setCell_same' _ _ _ ?_; go_simp; done))
            · (first | (go_simp; done) | (go_simp; refine World.cell?_setCell_same' _ _ _ ?_; go_simp; done))
            · (first | (go_simp; done) | (go_simp; refine World.cell?_setCell_same' _ _ _ ?_; go_simp; done))
            · first | (simp; done) | omega | (simp; omega)
            · (repeat (first | with_reducible assumption | with_reducible refine Keeps.alloc ?_ _ | with_reducible refine Keeps.drew ?_ | with_reducible refine Keeps.setCell ?_ ?_ _)); (all_goals (first | (simp; done) | omega | (simp; omega)))
      case rest =>
        obtain ⟨U, rfl, rfl, bu, KK⟩ := hcut
        have KB := hide KK.below
        have B3 := KK.cell A3 Al
        have B4 := KK.cell A4 Al
        have B6 := KK.cell A6 Al
        have Bl : w1.heap.size < wc.heap.size := Nat.lt_of_lt_of_le Al KK.below.size
        have Bx := KK.cell cx gl
        have Bg : g < wc.heap.size := Nat.lt_of_lt_of_le gl KK.below.size
        have B20 := KK.free u2 u4
        have Bu0 := KK.cell u0 u4
        have Bu1 := KK.cell u1 u4
        have B21 := KK.free u3 u4
        have B2l : w2.heap.size < wc.heap.size := Nat.lt_of_lt_of_le u4 KK.below.size
        obtain ⟨v0, v1, v2, v3, v4⟩ := bu
        have NW := hide (fun w' (K : Below wc.heap.size wc w') => J.out.next (y := t) (KB.out.trans (K.mono KB.out.size)))
        have NW2 : Hid (∀ w', Below wc.heap.size wc w' → WS w ((w'.setCell ⟨w2.heap.size, 0, none⟩ (.int .i64 t1)).setCell ⟨w2.heap.size, 1, none⟩ (.int .u64 t0)) w1.heap.size w2.heap.size (some ⟨g, o, none⟩) xs n s1 s0 lo_ hi_ m md d (xs.take (k + 1)).sum) := by
          intro w' K
          have := NW.out w' K
          rw [← T1.out, ← T0.out] at this
          rw [← TT.out]
          exact this
        have gT : ¬ g = w2.heap.size := J.out.nl _ rfl
        have aT : ¬ w1.heap.size = w2.heap.size := J.out.at_
        clear KK A3 A4 A6 Al cx gl u0 u1 u2 u3 u4 NW J kf ka
        have gxl : ¬ x < lo_ := by have := X1.out.1; omega
        have gxh : ¬ hi_ < x := by have := X1.out.2; omega
        have dl : decide (x < lo_) = false := decide_eq_false gxl
        have dh : decide (hi_ < x) = false := decide_eq_false gxh
        clear gxl gxh
        go_wp2_with fail
        go_quiet (fail)
        have e3 := (show (wc.drewN nq).cell? ⟨w1.heap.size, 6, none⟩ = some (.int .i64 md) from B6)
        have e5 := (show (wc.drewN nq).cell? ⟨g, o + k, none⟩ = some (.int .i64 x) from Bx)
        have e6 := (show (wc.drewN nq).frozen? ⟨w2.heap.size, 0, none⟩ = false from B20)
        have e7 := (show (wc.drewN nq).frozen? ⟨w2.heap.size, 1, none⟩ = false from B21)
        have ea := (show (wc.drewN nq).cell? ⟨w2.heap.size, 0, none⟩ = some (.int .i64 z1) from Bu0)
        have eb := (show (wc.drewN nq).cell? ⟨w2.heap.size, 1, none⟩ = some (.int .u64 z0) from Bu1)
        have e8 := (show (wc.drewN nq).cell? ⟨U, 0, none⟩ = some (.int .i64 t1) from v0)
        have e9 := (show (wc.drewN nq).cell? ⟨U, 1, none⟩ = some (.int .u64 t0) from v1)
        have l1 := (show w1.heap.size < (wc.drewN nq).heap.size from Bl)
        have l2 := (show g < (wc.drewN nq).heap.size from Bg)
        have l3 := (show w2.heap.size < (wc.drewN nq).heap.size from B2l)
        have NW3 : Hid (∀ w', Below (wc.drewN nq).heap.size (wc.drewN nq) w' → WS w ((w'.setCell ⟨w2.heap.size, 0, none⟩ (.int .i64 t1)).setCell ⟨w2.heap.size, 1, none⟩ (.int .u64 t0)) w1.heap.size w2.heap.size (some ⟨g, o, none⟩) xs n s1 s0 lo_ hi_ m md d (xs.take (k + 1)).sum) := fun w' K => NW2.out w' ((below_drewN (Below.refl _ _) nq).trans K)
        clear B3 B4 B6 Bx B20 B21 Bu0 Bu1 v0 v1 v2 v3 v4 Bl Bg B2l NW2 KB
        generalize wc.drewN nq = V at e3 e5 e6 e7 e8 e9 ea eb l1 l2 l3 NW3 ⊢
        go_wp2_with fail
        refine abs_wp (fun Y => Y.cell? ⟨w1.heap.size, 6, none⟩ = some (.int .i64 md) ∧ Y.cell? ⟨g, o + k, none⟩ = some (.int .i64 x) ∧ w1.heap.size < Y.heap.size ∧ g < Y.heap.size ∧ Hid (WS w Y w1.heap.size w2.heap.size (some ⟨g, o, none⟩) xs n s1 s0 lo_ hi_ m md d (xs.take (k + 1)).sum)) ⟨by go_simp, by go_simp, by simpa [World.setCell] using l1, by simpa [World.setCell] using l2, NW3.out V (Below.refl _ _)⟩ ?_
        clear e3 e5 e6 e7 e8 e9 ea eb l1 l2 l3 NW3
        rintro Y ⟨e3, e5, l1, l2, I9⟩
        by_cases c1 : x ≤ md
        · have d1_ : decide (x ≤ md) = true := decide_eq_true c1
          have P2 : Hid (p + 1 = (cntLe md (xs.take (k + 1)) : Nat)) := by have a1 := CP.out; have a2 := HP.out; show _ = _; unfold cntLe at *; rw [a1, d1_]; simp; omega
          by_cases c2 : md ≤ x
          · have d2_ : decide (md ≤ x) = true := decide_eq_true c2
            have Q2 : Hid (q + 1 = (cntGe md (xs.take (k + 1)) : Nat)) := by have a1 := CQ.out; have a2 := HQ.out; show _ = _; unfold cntGe at *; rw [a1, d2_]; simp; omega
            clear c1 c2 HP HQ CP CQ
            go_wp2_with fail
            go_quiet (fail)
            go_wp2_with fail
            go_quiet (fail)
            go_wp2_with fail
            go_roundw
            case rel => exact ⟨k + 1, p + 1, q + 1, by omega, by go_num, rfl, rfl, P2, Q2, by omega, kp1, by omega, kq1, I9.out.drewN _⟩
            case measure => simp [intOf]; omega
          · have d2_ : decide (md ≤ x) = false := decide_eq_false c2
            have Q2 : Hid (q = (cntGe md (xs.take (k + 1)) : Nat)) := by have a1 := CQ.out; have a2 := HQ.out; show _ = _; unfold cntGe at *; rw [a1, d2_]; simp; omega
            clear c1 c2 HP HQ CP CQ
            go_wp2_with fail
            go_quiet (fail)
            go_wp2_with fail
            go_quiet (fail)
            go_wp2_with fail
            go_roundw
            case rel => exact ⟨k + 1, p + 1, q, by omega, by go_num, rfl, rfl, P2, Q2, by omega, kp1, by omega, by omega, I9.out.drewN _⟩
            case measure => simp [intOf]; omega
        · have d1_ : decide (x ≤ md) = false := decide_eq_false c1
          have P2 : Hid (p = (cntLe md (xs.take (k + 1)) : Nat)) := by have a1 := CP.out; have a2 := HP.out; show _ = _; unfold cntLe at *; rw [a1, d1_]; simp; omega
          have d2_ : decide (md ≤ x) = true := decide_eq_true (by omega)
          have Q2 : Hid (q + 1 = (cntGe md (xs.take (k + 1)) : Nat)) := by have a1 := CQ.out; have a2 := HQ.out; show _ = _; unfold cntGe at *; rw [a1, d2_]; simp; omega
          have trv : True := trivial
          · skip
            clear c1 HP HQ CP CQ trv
            go_wp2_with fail
            go_quiet (fail)
            go_wp2_with fail
            go_quiet (fail)
            go_wp2_with fail
            go_roundw
            case rel => exact ⟨k + 1, p, q + 1, by omega, by go_num, rfl, rfl, P2, Q2, by omega, by omega, by omega, kq1, I9.out.drewN _⟩
            case measure => simp [intOf]; omega
    · obtain rfl : k = n := by omega
      have I2 := I.out
      rw [show xs.take k = xs from by rw [HN.out]; exact List.take_length] at I2
      have pe : (k : Int) ≤ 2 * p := by
        have e := HP.out
        rw [show xs.take k = xs from by rw [HN.out]; exact List.take_length] at e
        have := HLE.out; omega
      have qe : (k : Int) ≤ 2 * q := by
        have e := HQ.out
        rw [show xs.take k = xs from by rw [HN.out]; exact List.take_length] at e
        have := HGE.out; omega
      obtain ⟨u0, u1, u2, u3, u4⟩ := I2.t
      rw [show hi xs.sum = s1 from HS1.out.symm] at u0
      rw [show lo xs.sum = s0 from HS0.out.symm] at u1
      obtain ⟨a0, a1, a2, a3, a4, a5, a6, a7, b0, b1, b2, b3, b4, b5, b6, b7, al⟩ := I2.st
      have BI := hide I2.below
      clear I I2 b0 b1 b2 b3 b4 b5 b6 b7 a0 a3 a4 a6 a7 u2 u3 HP HQ HLE HGE h7 h8
      have kl := hide KL.out
      have kq := hide KQ.out
      have km := hide KM.out
      clear KL KQ KM
      go_wp2_with fail
      go_cut [11, 12, 13] (fun u v f W' => ∃ Q U : Nat, u = .pointer (some ⟨Q, 0, none⟩) ∧ v = .pointer (some ⟨U, 0, none⟩) ∧ f = .int .i64 0 ∧ Box2 W' Q (.int .i64 m1) (.int .u64 m0) ∧ Keeps wr.heap.size wr W')
      case first =>
        have K0 := Keeps.start (Nat.le_refl wr.heap.size)
        have K1 := K0.drew
        go_region_held3 (fun w' => w'.cell? ⟨w2.heap.size, 0, none⟩ = some (.int .i64 s1) ∧ w'.cell? ⟨w2.heap.size, 1, none⟩ = some (.int .u64 s0) ∧ Keeps wr.heap.size wr w') ((refine (fun K => ⟨Keeps.cell K u0 u4, Keeps.cell K u1 u4, K⟩) (?_ : Keeps wr.heap.size wr _); ((repeat (first | with_reducible assumption | with_reducible refine Keeps.alloc ?_ _ | with_reducible refine Keeps.drew ?_ | with_reducible refine Keeps.setCell ?_ ?_ _)); (all_goals (first | (simp; done) | omega | (simp; omega))))))
          (first
          | (go_at_call 24; (with_reducible refine (kl.out _).mono ?_); rintro e v20 ⟨rfl, hb20⟩; have K20 := Keeps.call (B := wr.heap.size) (W := wr) (by (repeat (first | with_reducible assumption | with_reducible refine Keeps.alloc ?_ _ | with_reducible refine Keeps.drew ?_ | with_reducible refine Keeps.setCell ?_ ?_ _)); (all_goals (first | (simp; done) | omega | (simp; omega)))) hb20; obtain ⟨bc20, bf20, bs20⟩ := bcell hb20; (try simp only [World.size_alloc, World.size_drew] at bc20 bf20 bs20); (try (have ov200 : wr.heap.size < v20.heap.size := by omega)); (try (have ov201 : wr.heap.size ≤ v20.heap.size := by omega)); (try (have ov202 : ¬ wr.heap.size = v20.heap.size := by omega)); (try (have ov203 : ¬ v20.heap.size = wr.heap.size := by omega)); (try (have ov204 : wr.heap.size + 1 < v20.heap.size := by omega)); (try (have ov205 : wr.heap.size + 1 ≤ v20.heap.size := by omega)); (try (have ov206 : ¬ wr.heap.size + 1 = v20.heap.size := by omega)); (try (have ov207 : ¬ v20.heap.size = wr.heap.size + 1 := by omega)))
          | (go_at_call 26; (with_reducible refine (kq.out _).mono ?_); rintro e v21 ⟨rfl, hb21⟩; have K21 := Keeps.call (B := wr.heap.size) (W := wr) (by (repeat (first | with_reducible assumption | with_reducible refine Keeps.alloc ?_ _ | with_reducible refine Keeps.drew ?_ | with_reducible refine Keeps.setCell ?_ ?_ _)); (all_goals (first | (simp; done) | omega | (simp; omega)))) hb21; obtain ⟨bc21, bf21, bs21⟩ := bcell hb21; (try simp only [World.size_alloc, World.size_drew] at bc21 bf21 bs21); (try (have ov210 : wr.heap.size < v21.heap.size := by omega)); (try (have ov211 : wr.heap.size ≤ v21.heap.size := by omega)); (try (have ov212 : ¬ wr.heap.size = v21.heap.size := by omega)); (try (have ov213 : ¬ v21.heap.size = wr.heap.size := by omega)); (try (have ov214 : wr.heap.size + 1 < v21.heap.size := by omega)); (try (have ov215 : wr.heap.size + 1 ≤ v21.heap.size := by omega)); (try (have ov216 : ¬ wr.heap.size + 1 = v21.heap.size := by omega)); (try (have ov217 : ¬ v21.heap.size = wr.heap.size + 1 := by omega)); (try (have ov218 : v20.heap.size < v21.heap.size := by omega)); (try (have ov219 : v20.heap.size ≤ v21.heap.size := by omega)); (try (have ov2110 : ¬ v20.heap.size = v21.heap.size := by omega)); (try (have ov2111 : ¬ v21.heap.size = v20.heap.size := by omega)); (try (have ov2112 : v20.heap.size + 1 < v21.heap.size := by omega)); (try (have ov2113 : v20.heap.size + 1 ≤ v21.heap.size := by omega)); (try (have ov2114 : ¬ v20.heap.size + 1 = v21.heap.size := by omega)); (try (have ov2115 : ¬ v21.heap.size = v20.heap.size + 1 := by omega))))
        all_goals
          go_wp2_with fail
          go_meet
          case rel =>
            refine ⟨_, _, rfl, rfl, rfl, ⟨?_, ?_, ?_, ?_, ?_⟩, ?_⟩
            · (first | (go_simp; done) | (go_simp; refine World.cell?_setCell_same' _ _ _ ?_; go_simp; done))
            · (first | (go_simp; done) | (go_simp; refine World.cell?_setCell_same' _ _ _ ?_; go_simp; done))
            · (first | (go_simp; done) | (go_simp; refine World.cell?_setCell_same' _ _ _ ?_; go_simp; done))
            · (first | (go_simp; done) | (go_simp; refine World.cell?_setCell_same' _ _ _ ?_; go_simp; done))
            · first | (simp; done) | omega | (simp; omega)
            · (repeat (first | with_reducible assumption | with_reducible refine Keeps.alloc ?_ _ | with_reducible refine Keeps.drew ?_ | with_reducible refine Keeps.setCell ?_ ?_ _)); (all_goals (first | (simp; done) | omega | (simp; omega)))
      case rest =>
        obtain ⟨Q, U, rfl, rfl, rfl, bq, KK⟩ := hcut
        have BJ := hide (BI.out.trans (KK.below.mono BI.out.size))
        have a1' := KK.cell a1 al
        have a2' := KK.cell a2 al
        have a5' := KK.cell a5 al
        have al' : w1.heap.size < wc.heap.size := Nat.lt_of_lt_of_le al KK.below.size
        have u0' := KK.cell u0 u4
        have u1' := KK.cell u1 u4
        have u4' : w2.heap.size < wc.heap.size := Nat.lt_of_lt_of_le u4 KK.below.size
        obtain ⟨c0, c1, _, _, c4⟩ := bq
        clear KK a1 a2 a5 al u0 u1 u4 BI kl kq
        have gp : IntKind.i64.wrap (2 * p) = 2 * p := by rw [IntKind.wrap_i64]; omega
        have gq : IntKind.i64.wrap (2 * q) = 2 * q := by rw [IntKind.wrap_i64]; omega
        have dp : decide ((k : Int) ≤ 2 * p) = true := decide_eq_true pe
        have dq : decide ((k : Int) ≤ 2 * q) = true := decide_eq_true qe
        have K0 := Keeps.start (Nat.le_refl wc.heap.size)
        have K1 := K0.drew
        go_wp2_with fail
        go_region_held3 (fun w' => w'.cell? ⟨w2.heap.size, 0, none⟩ = some (.int .i64 s1) ∧ w'.cell? ⟨w2.heap.size, 1, none⟩ = some (.int .u64 s0) ∧ w'.cell? ⟨w1.heap.size, 1, none⟩ = some (.int .i64 s1) ∧ w'.cell? ⟨w1.heap.size, 2, none⟩ = some (.int .u64 s0) ∧ w'.cell? ⟨w1.heap.size, 5, none⟩ = some (.int .i64 m) ∧ w'.cell? ⟨Q, 0, none⟩ = some (.int .i64 m1) ∧ w'.cell? ⟨Q, 1, none⟩ = some (.int .u64 m0) ∧ Keeps wc.heap.size wc w')
          ((refine (fun K => ⟨Keeps.cell K u0' u4', Keeps.cell K u1' u4', Keeps.cell K a1' al', Keeps.cell K a2' al', Keeps.cell K a5' al', Keeps.cell K c0 c4, Keeps.cell K c1 c4, K⟩) (?_ : Keeps wc.heap.size wc _); (repeat (first | with_reducible assumption | with_reducible refine Keeps.alloc ?_ _ | with_reducible refine Keeps.drew ?_))))
          (first
          | (go_at_call 24; (with_reducible refine (km.out _).mono ?_); rintro e v20 ⟨rfl, hb20⟩; have K20 := Keeps.call (B := wc.heap.size) (W := wc) (by repeat (first | with_reducible assumption | with_reducible refine Keeps.alloc ?_ _ | with_reducible refine Keeps.drew ?_)) hb20)
          | (go_at_call 14; (with_reducible refine (k4 _).mono ?_); rintro e v21 ⟨rfl, hb21⟩; have K21 := Keeps.call (B := wc.heap.size) (W := wc) (by repeat (first | with_reducible assumption | with_reducible refine Keeps.alloc ?_ _ | with_reducible refine Keeps.drew ?_)) hb21))
        all_goals
          go_wp2_with fail
          go_returns
          refine ⟨rfl, ?_⟩
          have be := BJ.out.trans (K21.below.mono BJ.out.size)
          repeat (first | with_reducible assumption | with_reducible refine Below.drew ?_)
end Go.Proofs.Ytebiddmadmmfpaa
/- timer: TimerWithin: the law. (gen_tw.py) -/
namespace Go.Proofs.Ytebiddmadmmfpaa
set_option linter.unusedVariables false
set_option linter.unusedSimpArgs false
open Go.RowKit W T9
theorem law_TimerWithin (a : Option Addr) (ca : Nat) (xs : List Int)
    (wx : ∀ x ∈ xs, (Lit.int .i64 x).wf = true) (bx : xs.length ≤ 17592186044416) (hca : xs.length ≤ ca) (ha63 : ca ≤ 9223372036854775807) (hna : a = none → xs.length = 0 ∧ ca = 0)
    (w : World) (hx : IsInts .i64 w a xs) :
    Calls Try.prog 9 #[.slice a xs.length ca] w fun e w' => e = .returned (.bool true) ∧ Below w.heap.size w w' := by
  obtain ⟨d, hd⟩ := ofd_ex xs
  have k1 := of_tot a ca xs d w hx (by omega) hd
  by_cases h : ofE xs = 0
  · have o := ofOk_of h
    obtain ⟨s0, s1, m0, m1⟩ := mean_le o.fine o.l0
    have dr := dev_range o.fine o.l0 bx (hd h)
    have mr := mean_range o.l0
    have mi := med_in o.l0
    have rr : ∀ x ∈ xs, lowL xs ≤ x ∧ x ≤ topL xs := fun x hx => in_range o.l0 hx
    have bounds : 0 ≤ lowL xs ∧ topL xs ≤ 100000000000000 := by
      have sl := srt_len xs
      have l0 := o.l0
      have sf := fine_srt o.fine
      rw [low_at o.l0, top_at9 o.l0]
      exact ⟨(fine_mem sf (List.getElem_mem _)).1, (fine_mem sf (List.getElem_mem _)).2⟩
    have fs : xs.sum < 170141183460469231731687303715884105728 := by omega
    have kq := fun w' => quo_pos xs.sum xs.length s0 fs (by have := o.l0; omega) (by omega) w'
    have kl := fun w' => wof_spec (xs.length : Int) ⟨by omega, by omega⟩ w'
    have km := fun w' => wof_spec (xs.sum / (xs.length : Int)) ⟨by omega, by omega⟩ w'
    unfold wideRes at kl km
    unfold ofV ofX at k1
    simp only [if_pos h] at k1
    rw [h] at k1
    exact within_good a xs.length ca xs (hi xs.sum) (lo xs.sum) (lowL xs) (topL xs) (xs.sum / (xs.length : Int)) (medL (srt xs)) d w rfl o.l0 bx hx o.fine mr.1 mr.2 mi.1 mi.2 dr.1 dr.2 bounds.1 bounds.2 rr (med_le o.l0) (med_ge o.l0) rfl rfl k1 0 0 _ _ _ _ _ _ kl kq km
  · unfold ofV ofX at k1
    simp only [if_neg h] at k1
    refine within_bad a xs.length ca (ofE xs) w ?_ k1
    unfold ofE at *
    rcases hf : fineB xs with _ | _
    · refine .inr ⟨by simp, ?_⟩
      rcases Nat.eq_zero_or_pos xs.length with z | z
      · have : xs = [] := List.eq_nil_of_length_eq_zero z
        subst this; simp [fineB] at hf
      · exact z
    · simp only [hf, if_true] at *
      by_cases z : xs.length = 0
      · exact .inl ⟨if_pos z, z⟩
      · rw [if_neg z] at h; exact absurd rfl h
end Go.Proofs.Ytebiddmadmmfpaa
