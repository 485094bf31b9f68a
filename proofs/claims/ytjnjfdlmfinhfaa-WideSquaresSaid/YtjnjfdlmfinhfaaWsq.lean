/- WideSquares: a root's square, and the next one's. -/
import Derived.Test.YtjnjfdlmfinhfaaWroot
import Derived.Test.YtjnjfdlmfinhfaaWalive
import Derived.Test.YtjnjfdlmfinhfaaWadd
import Derived.Deep.RegionWith
import Derived.Deep.DeepCutAuto
import Derived.Test.YtjnjfdlmfinhfaaHid
namespace Go.Proofs.Ytjnjfdlmfinhfaa
set_option linter.unusedVariables false
open Go.RowKit W
set_option maxHeartbeats 4000000 in
theorem sq_neg (a1 a0 c : Int) (c0 : c < 0) (k0 : ∀ w, Calls Try.prog 27 #[] w fun e w' => e = .returned (.bool true) ∧ Below w.heap.size w w')
    (kR : ∀ w, Calls Try.prog 38 #[.agg #[.int .i64 a1, .int .u64 a0]] w fun e w' => e = .returned (.tuple #[.agg #[.int .i64 0, .int .u64 0], .int .i64 13]) ∧ Below w.heap.size w w')
    (kS : ∀ w, Calls Try.prog 25 #[.agg #[.int .i64 a1, .int .u64 a0]] w fun e w' => e = .returned (.int .i64 c) ∧ Below w.heap.size w w') (w : World) :
    Calls Try.prog 14 #[.agg #[.int .i64 a1, .int .u64 a0]] w fun e w' => e = .returned (.bool true) ∧ Below w.heap.size w w' := by
  go_enter Try.func14, Try.ntmps14
  go_wp2_with fail
  refine (kR _).mono ?_
  rintro e w1 ⟨rfl, h1⟩
  obtain ⟨kh10, fh10, zh10⟩ := live (.int .i64 a1) h1 (w.heap.size) 0 (by simp; try omega) (by simp [go_sem]) (by simp [go_sem]); obtain ⟨kh11, fh11, zh11⟩ := live (.int .u64 a0) h1 (w.heap.size) 1 (by simp; try omega) (by simp [go_sem]) (by simp [go_sem])
  have B1 : Below w.heap.size w w1 := Below.trans (by go_grown) (h1.mono (by simp))
  have y1 := B1.size
  clear h1
  go_wp2_with fail
  refine (kS _).mono ?_
  rintro e w2 ⟨rfl, h2⟩
  have B2 : Below w.heap.size w w2 := Below.trans (by go_grown) (h2.mono (by simp; omega))
  clear h2 B1
  go_wp2_with fail
  refine (k0 _).mono ?_
  rintro e w3 ⟨rfl, h3⟩
  have B3 : Below w.heap.size w w3 := B2.trans (h3.mono B2.size)
  go_wp2_with fail
  go_returns
  exact ⟨rfl, B3⟩
set_option maxHeartbeats 4000000 in
theorem sq_pos (a1 a0 c x s1 s0 t1 t0 u1 u0 h d q v : Int) (c0 : ¬ c < 0) (d0 : 0 ≤ d) (q0 : q ≤ 0) (hv : Hid ((h == 10) = true ∨ 0 < v)) (k0 : ∀ w, Calls Try.prog 27 #[] w fun e w' => e = .returned (.bool true) ∧ Below w.heap.size w w')
    (kR : ∀ w, Calls Try.prog 38 #[.agg #[.int .i64 a1, .int .u64 a0]] w fun e w' => e = .returned (.tuple #[.agg #[.int .i64 0, .int .u64 x], .int .i64 0]) ∧ Below w.heap.size w w')
    (kS : ∀ w, Calls Try.prog 25 #[.agg #[.int .i64 a1, .int .u64 a0]] w fun e w' => e = .returned (.int .i64 c) ∧ Below w.heap.size w w')
    (kM : ∀ w, Calls Try.prog 32 #[.agg #[.int .i64 0, .int .u64 x], .agg #[.int .i64 0, .int .u64 x]] w fun e w' => e = .returned (.tuple #[.agg #[.int .i64 s1, .int .u64 s0], .int .i64 0]) ∧ Below w.heap.size w w')
    (kO : ∀ w, Calls Try.prog 21 #[.int .i64 1] w fun e w' => e = .returned (.agg #[.int .i64 0, .int .u64 1]) ∧ Below w.heap.size w w')
    (kA : ∀ w, Calls Try.prog 28 #[.agg #[.int .i64 0, .int .u64 x], .agg #[.int .i64 0, .int .u64 1]] w fun e w' => e = .returned (.tuple #[.agg #[.int .i64 t1, .int .u64 t0], .int .i64 0]) ∧ Below w.heap.size w w')
    (kU : ∀ w, Calls Try.prog 32 #[.agg #[.int .i64 t1, .int .u64 t0], .agg #[.int .i64 t1, .int .u64 t0]] w fun e w' => e = .returned (.tuple #[.agg #[.int .i64 u1, .int .u64 u0], .int .i64 h]) ∧ Below w.heap.size w w')
    (kX : ∀ w, Calls Try.prog 25 #[.agg #[.int .i64 0, .int .u64 x]] w fun e w' => e = .returned (.int .i64 d) ∧ Below w.heap.size w w')
    (kQ : ∀ w, Calls Try.prog 23 #[.agg #[.int .i64 s1, .int .u64 s0], .agg #[.int .i64 a1, .int .u64 a0]] w fun e w' => e = .returned (.int .i64 q) ∧ Below w.heap.size w w')
    (kV : ∀ w, Calls Try.prog 23 #[.agg #[.int .i64 u1, .int .u64 u0], .agg #[.int .i64 a1, .int .u64 a0]] w fun e w' => e = .returned (.int .i64 v) ∧ Below w.heap.size w w') (w : World) :
    Calls Try.prog 14 #[.agg #[.int .i64 a1, .int .u64 a0]] w fun e w' => e = .returned (.bool true) ∧ Below w.heap.size w w' := by
  go_enter Try.func14, Try.ntmps14
  go_wp2_with fail
  refine (kR _).mono ?_
  rintro e w1 ⟨rfl, h1⟩
  obtain ⟨kh10, fh10, zh10⟩ := live (.int .i64 a1) h1 (w.heap.size) 0 (by simp; try omega) (by simp [go_sem]) (by simp [go_sem]); obtain ⟨kh11, fh11, zh11⟩ := live (.int .u64 a0) h1 (w.heap.size) 1 (by simp; try omega) (by simp [go_sem]) (by simp [go_sem])
  have B1 : Below w.heap.size w w1 := Below.trans (by go_grown) (h1.mono (by simp))
  have y1 := B1.size
  clear h1
  go_wp2_with fail
  refine (kS _).mono ?_
  rintro e w2 ⟨rfl, h2⟩
  obtain ⟨kA0, fA0, zA0⟩ := live (.int .i64 a1) h2 w.heap.size 0 (by simp; omega) (by simp [go_sem, kh10, zh10]) (by simp [go_sem, fh10, zh10])
  obtain ⟨kA1, fA1, zA1⟩ := live (.int .u64 a0) h2 w.heap.size 1 (by simp; omega) (by simp [go_sem, kh11, zh11]) (by simp [go_sem, fh11, zh11])
  obtain ⟨kA2, fA2, zA2⟩ := live (.int .i64 0) h2 w1.heap.size 0 (by simp) (by simp [go_sem]) (by simp [go_sem])
  obtain ⟨kA3, fA3, zA3⟩ := live (.int .u64 x) h2 w1.heap.size 1 (by simp) (by simp [go_sem]) (by simp [go_sem])
  have B2 : Below w.heap.size w w2 := Below.trans (by go_grown) (h2.mono (by simp; omega))
  have y2 := B2.size
  clear h2 B1
  go_wp2_with fail
  refine (kM _).mono ?_
  rintro e w3 ⟨rfl, h3⟩
  have kB0 := (h3.cell (p := ⟨w.heap.size, 0, none⟩) zA0).trans kA0
  have kB1 := (h3.cell (p := ⟨w.heap.size, 1, none⟩) zA1).trans kA1
  have kB2 := (h3.cell (p := ⟨w1.heap.size, 0, none⟩) zA2).trans kA2
  have kB3 := (h3.cell (p := ⟨w1.heap.size, 1, none⟩) zA3).trans kA3
  have gB0 := (h3.frozen (p := ⟨w.heap.size, 0, none⟩) zA0).trans fA0
  have gB1 := (h3.frozen (p := ⟨w.heap.size, 1, none⟩) zA1).trans fA1
  have gB2 := (h3.frozen (p := ⟨w1.heap.size, 0, none⟩) zA2).trans fA2
  have gB3 := (h3.frozen (p := ⟨w1.heap.size, 1, none⟩) zA3).trans fA3
  have zB0 := Nat.lt_of_lt_of_le zA0 h3.size
  have zB2 := Nat.lt_of_lt_of_le zA2 h3.size
  have B3 := B2.trans (h3.mono B2.size)
  clear h3 B2 kA0 kA1 kA2 kA3 fA0 fA1 fA2 fA3 zA0 zA1 zA2 zA3
  go_wp2_with fail
  have zB3 : w3.heap.size ≤ w3.heap.size := Nat.le_refl _
  refine abs_wp (fun W => W.cell? ⟨w.heap.size, 0, none⟩ = some (.int .i64 a1) ∧ W.cell? ⟨w.heap.size, 1, none⟩ = some (.int .u64 a0) ∧ W.cell? ⟨w1.heap.size, 0, none⟩ = some (.int .i64 0) ∧ W.cell? ⟨w1.heap.size, 1, none⟩ = some (.int .u64 x) ∧
    W.cell? ⟨w3.heap.size, 0, none⟩ = some (.int .i64 s1) ∧ W.cell? ⟨w3.heap.size, 1, none⟩ = some (.int .u64 s0) ∧ w.heap.size < W.heap.size ∧ w1.heap.size < W.heap.size ∧ w3.heap.size < W.heap.size ∧ Below w.heap.size w W ∧ W.frozen? ⟨w.heap.size, 0, none⟩ = false ∧ W.frozen? ⟨w.heap.size, 1, none⟩ = false ∧ W.frozen? ⟨w1.heap.size, 0, none⟩ = false ∧ W.frozen? ⟨w1.heap.size, 1, none⟩ = false ∧ W.frozen? ⟨w3.heap.size, 0, none⟩ = false ∧ W.frozen? ⟨w3.heap.size, 1, none⟩ = false) ?_ ?_
  · refine ⟨?_, ?_, ?_, ?_, ?_, ?_, ?_, ?_, ?_, ?_, ?_, ?_, ?_, ?_, ?_, ?_⟩
    all_goals first | (simp [go_sem, kB0, kB1, kB2, kB3, zB0, zB2]; done) | (simp [go_sem, gB0, gB1, gB2, gB3, zB0, zB2]; done) | (simp; done) | (simp; omega) | (have := B3.size; go_grown; done)
  clear kB0 kB1 kB2 kB3 gB0 gB1 gB2 gB3 zB0 zB2 B3 zB3
  rintro W ⟨e0, e1, e2, e3, e4, e5, z0, z1, z3, BW, e6, e7, e8, e9, e10, e11⟩
  go_cut [7, 8] (fun t g W' => ∃ X : Nat, t = .pointer (some ⟨X, 0, none⟩) ∧ g = .int .i64 0 ∧ Box2 W' X (.int .i64 t1) (.int .u64 t0) ∧ Keeps W.heap.size W W')
  case first =>
    have K0 := Keeps.start (Nat.le_refl W.heap.size)
    have K1 := K0.drew
    go_region_held3 (fun w' => w'.cell? ⟨w1.heap.size, 0, none⟩ = some (.int .i64 0) ∧ w'.cell? ⟨w1.heap.size, 1, none⟩ = some (.int .u64 x) ∧ Keeps W.heap.size W w') ((refine (fun K => ⟨Keeps.cell K e2 z1, Keeps.cell K e3 z1, K⟩) (?_ : Keeps W.heap.size W _); (repeat (first | assumption | refine Keeps.alloc ?_ _ | refine Keeps.drew ?_ | refine Keeps.setCell ?_ (by first | (simp; done) | omega | (simp; omega)) _))))
      (first
      | (go_at_call 21; refine (kO _).mono ?_; rintro e w4 ⟨rfl, hb⟩; have K2 := Keeps.call (B := W.heap.size) (W := W) (by repeat (first | assumption | refine Keeps.alloc ?_ _ | refine Keeps.drew ?_ | refine Keeps.setCell ?_ (by first | (simp; done) | omega | (simp; omega)) _)) hb; obtain ⟨bc2, bf2, bs2⟩ := bcell hb; (try simp only [World.size_alloc, World.size_drew] at bc2 bf2 bs2); (try (have ow40 : W.heap.size < w4.heap.size := by omega)); (try (have ow41 : W.heap.size ≤ w4.heap.size := by omega)); (try (have ow42 : ¬ W.heap.size = w4.heap.size := by omega)); (try (have ow43 : ¬ w4.heap.size = W.heap.size := by omega)); (try (have ow44 : W.heap.size + 1 < w4.heap.size := by omega)); (try (have ow45 : W.heap.size + 1 ≤ w4.heap.size := by omega)); (try (have ow46 : ¬ W.heap.size + 1 = w4.heap.size := by omega)); (try (have ow47 : ¬ w4.heap.size = W.heap.size + 1 := by omega)))
      | (go_at_call 28; refine (kA _).mono ?_; rintro e w5 ⟨rfl, hb'⟩; have K3 := Keeps.call (B := W.heap.size) (W := W) (by repeat (first | assumption | refine Keeps.alloc ?_ _ | refine Keeps.drew ?_ | refine Keeps.setCell ?_ (by first | (simp; done) | omega | (simp; omega)) _)) hb'; obtain ⟨bc3, bf3, bs3⟩ := bcell hb'; (try simp only [World.size_alloc, World.size_drew] at bc3 bf3 bs3); (try (have ow50 : W.heap.size < w5.heap.size := by omega)); (try (have ow51 : W.heap.size ≤ w5.heap.size := by omega)); (try (have ow52 : ¬ W.heap.size = w5.heap.size := by omega)); (try (have ow53 : ¬ w5.heap.size = W.heap.size := by omega)); (try (have ow54 : W.heap.size + 1 < w5.heap.size := by omega)); (try (have ow55 : W.heap.size + 1 ≤ w5.heap.size := by omega)); (try (have ow56 : ¬ W.heap.size + 1 = w5.heap.size := by omega)); (try (have ow57 : ¬ w5.heap.size = W.heap.size + 1 := by omega)); (try (have ow58 : w4.heap.size < w5.heap.size := by omega)); (try (have ow59 : w4.heap.size ≤ w5.heap.size := by omega)); (try (have ow510 : ¬ w4.heap.size = w5.heap.size := by omega)); (try (have ow511 : ¬ w5.heap.size = w4.heap.size := by omega)); (try (have ow512 : w4.heap.size + 1 < w5.heap.size := by omega)); (try (have ow513 : w4.heap.size + 1 ≤ w5.heap.size := by omega)); (try (have ow514 : ¬ w4.heap.size + 1 = w5.heap.size := by omega)); (try (have ow515 : ¬ w5.heap.size = w4.heap.size + 1 := by omega))))
    all_goals
      go_wp2_with fail
      go_meet
      case rel =>
        refine ⟨_, rfl, rfl, ⟨?_, ?_, ?_, ?_, ?_⟩, ?_⟩
        · first | (go_simp; done) | (go_simp; refine World.cell?_setCell_same' _ _ _ ?_; go_simp; done)
        · first | (go_simp; done) | (go_simp; refine World.cell?_setCell_same' _ _ _ ?_; go_simp; done)
        · first | (go_simp; done) | (go_simp; refine World.cell?_setCell_same' _ _ _ ?_; go_simp; done)
        · first | (go_simp; done) | (go_simp; refine World.cell?_setCell_same' _ _ _ ?_; go_simp; done)
        · first | (simp; done) | omega | (simp; omega)
        · repeat (first | assumption | refine Keeps.alloc ?_ _ | refine Keeps.drew ?_ | refine Keeps.setCell ?_ (by first | (simp; done) | omega | (simp; omega)) _)
  case rest =>
    obtain ⟨X, rfl, rfl, bx, KK⟩ := hcut
    have bl := BW.trans (KK.below.mono BW.size)
    have sz := KK.below.size
    have f0 := KK.cell e0 z0
    have f1 := KK.cell e1 z0
    have f2 := KK.cell e2 z1
    have f3 := KK.cell e3 z1
    have f4 := KK.cell e4 z3
    have f5 := KK.cell e5 z3
    have g0 := KK.free e6 z0
    have g1 := KK.free e7 z0
    have g2 := KK.free e8 z1
    have g3 := KK.free e9 z1
    have g4 := KK.free e10 z3
    have g5 := KK.free e11 z3
    have z0' : w.heap.size < wc.heap.size := by omega
    have z1' : w1.heap.size < wc.heap.size := by omega
    have z3' : w3.heap.size < wc.heap.size := by omega
    clear e0 e1 e2 e3 e4 e5 e6 e7 e8 e9 e10 e11 KK BW kO kA
    obtain ⟨x0, x1, x2, x3, x4⟩ := bx
    go_wp2_with fail
    refine (kU _).mono ?_
    rintro e v1 ⟨rfl, h1⟩
    have B1 : Below w.heap.size w v1 := Below.trans (by go_grown) (h1.mono (by first | (simp; done) | omega | (simp; omega)))
    have yy1 := B1.size
    have A0 := box2 h1 (w.heap.size) (.int .i64 a1) (.int .u64 a0) (by first | assumption | (simp [go_sem]; done) | (simp [go_sem]; done)) (by first | assumption | (simp [go_sem]; done) | (simp [go_sem]; done)) (by first | assumption | (simp [go_sem]; done) | (simp [go_sem]; done)) (by first | assumption | (simp [go_sem]; done) | (simp [go_sem]; done)) (by first | assumption | omega | (simp; done) | (simp; omega))
    have A1 := box2 h1 (w1.heap.size) (.int .i64 0) (.int .u64 x) (by first | assumption | (simp [go_sem]; done) | (simp [go_sem]; done)) (by first | assumption | (simp [go_sem]; done) | (simp [go_sem]; done)) (by first | assumption | (simp [go_sem]; done) | (simp [go_sem]; done)) (by first | assumption | (simp [go_sem]; done) | (simp [go_sem]; done)) (by first | assumption | omega | (simp; done) | (simp; omega))
    have A2 := box2 h1 (w3.heap.size) (.int .i64 s1) (.int .u64 s0) (by first | assumption | (simp [go_sem]; done) | (simp [go_sem]; done)) (by first | assumption | (simp [go_sem]; done) | (simp [go_sem]; done)) (by first | assumption | (simp [go_sem]; done) | (simp [go_sem]; done)) (by first | assumption | (simp [go_sem]; done) | (simp [go_sem]; done)) (by first | assumption | omega | (simp; done) | (simp; omega))
    obtain ⟨A0c0, A0c1, A0f0, A0f1, A0z⟩ := A0
    obtain ⟨A1c0, A1c1, A1f0, A1f1, A1z⟩ := A1
    obtain ⟨A2c0, A2c1, A2f0, A2f1, A2z⟩ := A2
    clear h1 kU bl
    go_wp2_with fail
    refine (kX _).mono ?_
    rintro e v2 ⟨rfl, h2⟩
    have B2 : Below w.heap.size w v2 := Below.trans (by go_grown) (h2.mono (by first | (simp; done) | omega | (simp; omega)))
    have yy2 := B2.size
    have B0 := box2 h2 (w.heap.size) (.int .i64 a1) (.int .u64 a0) (by first | assumption | (refine (Below.cell ?_ A0z).trans A0c0; go_grown; done) | (simp [go_sem, A0c0]; done) | (simp [go_sem, A0c0, A0z]; done) | (simp [go_sem, A0c0, A0c1, A0f0, A0f1, A0z, A1c0, A1c1, A1f0, A1f1, A1z, A2c0, A2c1, A2f0, A2f1, A2z]; done)) (by first | assumption | (refine (Below.cell ?_ A0z).trans A0c1; go_grown; done) | (simp [go_sem, A0c1]; done) | (simp [go_sem, A0c1, A0z]; done) | (simp [go_sem, A0c0, A0c1, A0f0, A0f1, A0z, A1c0, A1c1, A1f0, A1f1, A1z, A2c0, A2c1, A2f0, A2f1, A2z]; done)) (by first | assumption | (refine (Below.frozen ?_ A0z).trans A0f0; go_grown; done) | (simp [go_sem, A0f0]; done) | (simp [go_sem, A0f0, A0z]; done) | (simp [go_sem, A0c0, A0c1, A0f0, A0f1, A0z, A1c0, A1c1, A1f0, A1f1, A1z, A2c0, A2c1, A2f0, A2f1, A2z]; done)) (by first | assumption | (refine (Below.frozen ?_ A0z).trans A0f1; go_grown; done) | (simp [go_sem, A0f1]; done) | (simp [go_sem, A0f1, A0z]; done) | (simp [go_sem, A0c0, A0c1, A0f0, A0f1, A0z, A1c0, A1c1, A1f0, A1f1, A1z, A2c0, A2c1, A2f0, A2f1, A2z]; done)) (by first | assumption | omega | (simp; done) | (simp; omega))
    have B1 := box2 h2 (w3.heap.size) (.int .i64 s1) (.int .u64 s0) (by first | assumption | (refine (Below.cell ?_ A2z).trans A2c0; go_grown; done) | (simp [go_sem, A2c0]; done) | (simp [go_sem, A2c0, A2z]; done) | (simp [go_sem, A0c0, A0c1, A0f0, A0f1, A0z, A1c0, A1c1, A1f0, A1f1, A1z, A2c0, A2c1, A2f0, A2f1, A2z]; done)) (by first | assumption | (refine (Below.cell ?_ A2z).trans A2c1; go_grown; done) | (simp [go_sem, A2c1]; done) | (simp [go_sem, A2c1, A2z]; done) | (simp [go_sem, A0c0, A0c1, A0f0, A0f1, A0z, A1c0, A1c1, A1f0, A1f1, A1z, A2c0, A2c1, A2f0, A2f1, A2z]; done)) (by first | assumption | (refine (Below.frozen ?_ A2z).trans A2f0; go_grown; done) | (simp [go_sem, A2f0]; done) | (simp [go_sem, A2f0, A2z]; done) | (simp [go_sem, A0c0, A0c1, A0f0, A0f1, A0z, A1c0, A1c1, A1f0, A1f1, A1z, A2c0, A2c1, A2f0, A2f1, A2z]; done)) (by first | assumption | (refine (Below.frozen ?_ A2z).trans A2f1; go_grown; done) | (simp [go_sem, A2f1]; done) | (simp [go_sem, A2f1, A2z]; done) | (simp [go_sem, A0c0, A0c1, A0f0, A0f1, A0z, A1c0, A1c1, A1f0, A1f1, A1z, A2c0, A2c1, A2f0, A2f1, A2z]; done)) (by first | assumption | omega | (simp; done) | (simp; omega))
    have B2 := box2 h2 (v1.heap.size) (.int .i64 u1) (.int .u64 u0) (by first | assumption | (simp [go_sem]; done) | (simp [go_sem, A0c0, A0c1, A0f0, A0f1, A0z, A1c0, A1c1, A1f0, A1f1, A1z, A2c0, A2c1, A2f0, A2f1, A2z]; done)) (by first | assumption | (simp [go_sem]; done) | (simp [go_sem, A0c0, A0c1, A0f0, A0f1, A0z, A1c0, A1c1, A1f0, A1f1, A1z, A2c0, A2c1, A2f0, A2f1, A2z]; done)) (by first | assumption | (simp [go_sem]; done) | (simp [go_sem, A0c0, A0c1, A0f0, A0f1, A0z, A1c0, A1c1, A1f0, A1f1, A1z, A2c0, A2c1, A2f0, A2f1, A2z]; done)) (by first | assumption | (simp [go_sem]; done) | (simp [go_sem, A0c0, A0c1, A0f0, A0f1, A0z, A1c0, A1c1, A1f0, A1f1, A1z, A2c0, A2c1, A2f0, A2f1, A2z]; done)) (by first | assumption | omega | (simp; done) | (simp; omega))
    clear A0c0 A0c1 A0f0 A0f1 A0z A1c0 A1c1 A1f0 A1f1 A1z A2c0 A2c1 A2f0 A2f1 A2z
    obtain ⟨B0c0, B0c1, B0f0, B0f1, B0z⟩ := B0
    obtain ⟨B1c0, B1c1, B1f0, B1f1, B1z⟩ := B1
    obtain ⟨B2c0, B2c1, B2f0, B2f1, B2z⟩ := B2
    clear h2 kX B1
    go_wp2_with fail
    refine (kQ _).mono ?_
    rintro e v3 ⟨rfl, h3⟩
    have B3 : Below w.heap.size w v3 := Below.trans (by go_grown) (h3.mono (by first | (simp; done) | omega | (simp; omega)))
    have yy3 := B3.size
    have C0 := box2 h3 (w.heap.size) (.int .i64 a1) (.int .u64 a0) (by first | assumption | (refine (Below.cell ?_ B0z).trans B0c0; go_grown; done) | (simp [go_sem, B0c0]; done) | (simp [go_sem, B0c0, B0z]; done) | (simp [go_sem, B0c0, B0c1, B0f0, B0f1, B0z, B1c0, B1c1, B1f0, B1f1, B1z, B2c0, B2c1, B2f0, B2f1, B2z]; done)) (by first | assumption | (refine (Below.cell ?_ B0z).trans B0c1; go_grown; done) | (simp [go_sem, B0c1]; done) | (simp [go_sem, B0c1, B0z]; done) | (simp [go_sem, B0c0, B0c1, B0f0, B0f1, B0z, B1c0, B1c1, B1f0, B1f1, B1z, B2c0, B2c1, B2f0, B2f1, B2z]; done)) (by first | assumption | (refine (Below.frozen ?_ B0z).trans B0f0; go_grown; done) | (simp [go_sem, B0f0]; done) | (simp [go_sem, B0f0, B0z]; done) | (simp [go_sem, B0c0, B0c1, B0f0, B0f1, B0z, B1c0, B1c1, B1f0, B1f1, B1z, B2c0, B2c1, B2f0, B2f1, B2z]; done)) (by first | assumption | (refine (Below.frozen ?_ B0z).trans B0f1; go_grown; done) | (simp [go_sem, B0f1]; done) | (simp [go_sem, B0f1, B0z]; done) | (simp [go_sem, B0c0, B0c1, B0f0, B0f1, B0z, B1c0, B1c1, B1f0, B1f1, B1z, B2c0, B2c1, B2f0, B2f1, B2z]; done)) (by first | assumption | omega | (simp; done) | (simp; omega))
    have C1 := box2 h3 (v1.heap.size) (.int .i64 u1) (.int .u64 u0) (by first | assumption | (refine (Below.cell ?_ B2z).trans B2c0; go_grown; done) | (simp [go_sem, B2c0]; done) | (simp [go_sem, B2c0, B2z]; done) | (simp [go_sem, B0c0, B0c1, B0f0, B0f1, B0z, B1c0, B1c1, B1f0, B1f1, B1z, B2c0, B2c1, B2f0, B2f1, B2z]; done)) (by first | assumption | (refine (Below.cell ?_ B2z).trans B2c1; go_grown; done) | (simp [go_sem, B2c1]; done) | (simp [go_sem, B2c1, B2z]; done) | (simp [go_sem, B0c0, B0c1, B0f0, B0f1, B0z, B1c0, B1c1, B1f0, B1f1, B1z, B2c0, B2c1, B2f0, B2f1, B2z]; done)) (by first | assumption | (refine (Below.frozen ?_ B2z).trans B2f0; go_grown; done) | (simp [go_sem, B2f0]; done) | (simp [go_sem, B2f0, B2z]; done) | (simp [go_sem, B0c0, B0c1, B0f0, B0f1, B0z, B1c0, B1c1, B1f0, B1f1, B1z, B2c0, B2c1, B2f0, B2f1, B2z]; done)) (by first | assumption | (refine (Below.frozen ?_ B2z).trans B2f1; go_grown; done) | (simp [go_sem, B2f1]; done) | (simp [go_sem, B2f1, B2z]; done) | (simp [go_sem, B0c0, B0c1, B0f0, B0f1, B0z, B1c0, B1c1, B1f0, B1f1, B1z, B2c0, B2c1, B2f0, B2f1, B2z]; done)) (by first | assumption | omega | (simp; done) | (simp; omega))
    clear B0c0 B0c1 B0f0 B0f1 B0z B1c0 B1c1 B1f0 B1f1 B1z B2c0 B2c1 B2f0 B2f1 B2z
    obtain ⟨C0c0, C0c1, C0f0, C0f1, C0z⟩ := C0
    obtain ⟨C1c0, C1c1, C1f0, C1f1, C1z⟩ := C1
    clear h3 kQ B2
    by_cases hh : (h == 10) = true
    · skip
      go_wp2_with fail
      refine (k0 _).mono ?_
      rintro e v9 ⟨rfl, h9⟩
      go_wp2_with fail
      go_returns
      exact ⟨rfl, B3.trans (h9.mono B3.size)⟩
    · have vp : 0 < v := hv.out.resolve_left hh
      have hh' : (h == 10) = false := by simpa using hh
      go_wp2_with fail
      refine (kV _).mono ?_
      rintro e v4 ⟨rfl, h4⟩
      have B4 : Below w.heap.size w v4 := Below.trans (by go_grown) (h4.mono (by first | (simp; done) | omega | (simp; omega)))
      have yy4 := B4.size
      clear h4 kV B3
      go_wp2_with fail
      refine (k0 _).mono ?_
      rintro e v9 ⟨rfl, h9⟩
      go_wp2_with fail
      go_returns
      exact ⟨rfl, B4.trans (h9.mono B4.size)⟩
theorem V_zero (x : Int) : V 0 x = x := by unfold V; omega
theorem root_ex (m : Int) (a : 0 ≤ m) (b : m < 340282366920938463463374607431768211456) : ∃ r, RootAt m r 0 := by
  have go : ∀ (k : Nat) (r : Int), RootAt m r k → ∃ r, RootAt m r 0 := by
    intro k
    induction k with
    | zero => exact fun r h => ⟨r, h⟩
    | succ k ih =>
      intro r h
      by_cases s : (r + 2 ^ k) * (r + 2 ^ k) ≤ m
      · exact ih _ (h.yes s)
      · exact ih _ (h.no (by omega))
  exact go 64 0 (RootAt.start m a b)
theorem root_le {m r q : Int} (h : RootAt m r 0) (g : RootAt m q 0) : r ≤ q := by
  obtain ⟨_, a, _, _, s, _⟩ := h
  obtain ⟨_, b, _, _, _, u⟩ := g
  rw [Int.pow_zero] at u
  by_cases l : r ≤ q
  · exact l
  · have : (q + 1) * (q + 1) ≤ r * r := Int.mul_le_mul (by omega) (by omega) (by omega) a
    omega
theorem law_WideSquares (a0 b0 : Int) (wa0 : (Lit.int .i64 a0).wf = true) (wb0 : (Lit.int .u64 b0).wf = true) (w : World) :
    Calls Try.prog 14 #[.agg #[.int .i64 a0, .int .u64 b0]] w fun e w' => e = .returned (.bool true) ∧ Below w.heap.size w w' := by
  have i : IsW (a0, b0) := ⟨hi_of_wf wa0, lo_of_wf wb0⟩
  have fa : Fits (V a0 b0) := fits_V i.a i.b
  have ks := sign_spec a0 b0 i.b
  have ka := amount_spec a0 b0 i.b i.a
  by_cases n : V a0 b0 < 0
  · have c := cmp_lt n
    rw [c] at ks
    exact sq_neg a0 b0 _ (by omega) alive_ok (root_neg a0 b0 _ (by omega) ks) ks w
  have c0 : ¬ cmpI (V a0 b0) 0 < 0 := by rcases cmp_cases (V a0 b0) 0 with ⟨h, e⟩ | ⟨h, e⟩ | ⟨h, e⟩ <;> omega
  have ea : ab (V a0 b0) = V a0 b0 := by unfold ab; rw [if_neg n]
  have a1 := fa.b
  obtain ⟨x, rx⟩ := root_ex (V a0 b0) (by omega) (by omega)
  have kR : ∀ w, Calls Try.prog 38 #[.agg #[.int .i64 a0, .int .u64 b0]] w fun e w' => e = .returned (.tuple #[.agg #[.int .i64 0, .int .u64 x], .int .i64 0]) ∧ Below w.heap.size w w' := fun w => by
    refine (root_pos a0 b0 _ _ _ _ c0 (lo_ab fa) (isLo_lo _) ks ka w).mono ?_
    rintro e w' ⟨⟨r, rfl, hr⟩, hb⟩
    rw [V_hi_lo, ea] at hr
    have e1 : r = x := Int.le_antisymm (root_le hr rx) (root_le rx hr)
    rw [e1]
    exact ⟨rfl, hb⟩
  obtain ⟨_, x0, x1, _, sq, up⟩ := rx
  rw [Int.pow_zero] at x1 up
  have ix : IsLo x := ⟨x0, by omega⟩
  have wx : IsW (0, x) := ⟨isHi_0, ix⟩
  have s0 := Int.mul_nonneg x0 x0
  have f1 : Fits (x * x) := ⟨by omega, by omega⟩
  have kM := mul_spec 0 x 0 x wx wx
  rw [V_zero] at kM
  unfold sumRes at kM
  rw [resV_fits f1, resE_fits f1] at kM
  have kO := wof_spec 1 ⟨by omega, by omega⟩
  unfold wideRes at kO
  rw [show hi 1 = 0 by decide, show lo 1 = 1 by decide] at kO
  have kA := add_spec 0 x 0 1 wx ⟨isHi_0, ⟨by omega, by omega⟩⟩
  rw [V_zero, V_zero] at kA
  have f2 : Fits (x + 1) := ⟨by omega, by omega⟩
  unfold sumRes at kA
  rw [resV_fits f2, resE_fits f2] at kA
  have wt : IsW (hi (x + 1), lo (x + 1)) := ⟨isHi_hi f2, isLo_lo _⟩
  have kU := mul_spec (hi (x + 1)) (lo (x + 1)) (hi (x + 1)) (lo (x + 1)) wt wt
  rw [V_hi_lo] at kU
  have kX := sign_spec 0 x ix
  rw [V_zero] at kX
  have kQ := cmp_spec (hi (x * x)) (lo (x * x)) a0 b0 (isLo_lo _) i.b
  rw [V_hi_lo] at kQ
  have kV := cmp_spec (hi (resV ((x + 1) * (x + 1)))) (lo (resV ((x + 1) * (x + 1)))) a0 b0 (isLo_lo _) i.b
  rw [V_hi_lo] at kV
  have d0 : 0 ≤ cmpI x 0 := by rcases cmp_cases x 0 with ⟨h, e⟩ | ⟨h, e⟩ | ⟨h, e⟩ <;> omega
  have q0 : cmpI (x * x) (V a0 b0) ≤ 0 := by rcases cmp_cases (x * x) (V a0 b0) with ⟨h, e⟩ | ⟨h, e⟩ | ⟨h, e⟩ <;> omega
  have hv : (resE ((x + 1) * (x + 1)) == 10) = true ∨ 0 < cmpI (resV ((x + 1) * (x + 1))) (V a0 b0) := by
    by_cases f : Fits ((x + 1) * (x + 1))
    · right; rw [resV_fits f, cmp_gt up]; omega
    · left; rw [resE_not f]; rfl
  exact sq_pos a0 b0 _ x _ _ _ _ _ _ _ _ _ _ c0 d0 q0 hv alive_ok kR ks kM kO kA kU kX kQ kV w
end Go.Proofs.Ytjnjfdlmfinhfaa
