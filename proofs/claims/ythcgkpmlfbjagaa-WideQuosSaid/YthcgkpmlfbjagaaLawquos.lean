/- The reference of layer 1: its faces: Quo; WideQuos. -/
import Derived.Test.YthcgkpmlfbjagaaLquo
import Derived.Deep.DeepCutAuto
import Derived.Test.YthcgkpmlfbjagaaQuo
import Derived.Test.YthcgkpmlfbjagaaWalive
namespace Go.Proofs.Ythcgkpmlfbjagaa
set_option linter.unusedVariables false
set_option linter.unusedSimpArgs false
open Go.RowKit W Lb
theorem mkZ_quo (x y : Int) : mkZ (decide (x < 0) != decide (y < 0)) (Lb.ab x / Lb.ab y) = Int.tdiv x y := by
  have := tdiv_sg x y
  rw [this]; rfl
theorem mkZ_rem (x y : Int) : mkZ (decide (x < 0)) (Lb.ab x % Lb.ab y) = Int.tmod x y := by
  have := tmod_sg x y
  rw [this]; rfl
theorem quoN_spec (s s' : Bool) (pa pb : Option Addr) (ca cb : Nat) (la lb : List Int) (x y : Int) (w : World) (Ha : IsNum w s pa ca la x) (Hb : IsNum w s' pb cb lb y) (y0 : y ≠ 0) (na : la.length ≤ 100) (nb : lb.length ≤ 100) :
    Calls Try.prog 53 #[.agg #[.bool s, .slice pa la.length ca], .agg #[.bool s', .slice pb lb.length cb]] w (QuoPost w (Int.tdiv x y) (Int.tmod x y)) := by
  have pb0 : 0 < Lb.ab y := by have := (Lb.ab_zero (v := y)); have := Lb.ab_nonneg y; omega
  have hv := Hb.mag.val
  have e1 := mkZ_quo x y
  have e2 := mkZ_rem x y
  rw [← Ha.neg] at e1 e2
  rw [← Hb.neg] at e1
  refine quoN_walk s s' pa pb ca cb la lb _ _ (Lb.ab x) (Lb.ab y) w pb0 (fun w' h => ?_) ?_ e1 e2 (Lb.ab_nonneg x)
  · have := divL_spec pa pb ca cb la lb (Lb.ab y) w' (Ha.lim.later h) (Hb.lim.later h) Ha.mag.ok Hb.mag pb0 na nb
    rwa [Ha.mag.val] at this
  · intro sg m r hm hle pv cv lv w' h1 h2
    have lt : lv.length ≤ 1000 := by
      have a1 := val_lt' Ha.mag.ok na
      have b1 := val_lt' Hb.mag.ok nb
      rw [Ha.mag.val] at a1
      rw [Hb.mag.val] at b1
      have := h2.len (n := 100) (by omega)
      omega
    have := make2_spec sg pv cv lv w' h1 h2.ok lt
    rwa [h2.val, hm] at this
/-- Behind the quotient: the two boxes. -/
def QCut (W W' : World) (x y : Int) (q r : Value) : Prop := ∃ (X Y : Nat) (s1 : Bool) (p1 : Option Addr) (c1 : Nat) (l1 : List Int) (s2 : Bool) (p2 : Option Addr) (c2 : Nat) (l2 : List Int), q = .pointer (some ⟨X, 0, none⟩) ∧ r = .pointer (some ⟨Y, 0, none⟩) ∧
  W'.cell? ⟨X, 0, none⟩ = some (.bool s1) ∧ W'.cell? ⟨X, 1, none⟩ = some (.slice p1 l1.length c1) ∧ W'.cell? ⟨Y, 0, none⟩ = some (.bool s2) ∧ W'.cell? ⟨Y, 1, none⟩ = some (.slice p2 l2.length c2) ∧
  IsNum W' s1 p1 c1 l1 x ∧ IsNum W' s2 p2 c2 l2 y ∧ X < W'.heap.size ∧ Y < W'.heap.size ∧ Keeps W.heap.size W W'
theorem eqW_a (n : Nat) (y : Int) (w : World) : (binOp .eql 24 (.agg #[.int .i64 ((n + 1 : Nat) : Int), .int .u64 y]) (.agg #[.int .i64 0, .int .u64 0])).run Try.prog w = .ok (.bool false) w := by kernel_rfl
theorem eqW_b (n : Nat) (y : Int) (w : World) : (binOp .eql 24 (.agg #[.int .i64 (Int.negSucc n), .int .u64 y]) (.agg #[.int .i64 0, .int .u64 0])).run Try.prog w = .ok (.bool false) w := by kernel_rfl
theorem eqW_c (n : Nat) (w : World) : (binOp .eql 24 (.agg #[.int .i64 0, .int .u64 ((n + 1 : Nat) : Int)]) (.agg #[.int .i64 0, .int .u64 0])).run Try.prog w = .ok (.bool false) w := by kernel_rfl
theorem eqW (c d : Int) (i : IsLo d) (h : V c d ≠ 0) (w : World) : (binOp .eql 24 (.agg #[.int .i64 c, .int .u64 d]) (.agg #[.int .i64 0, .int .u64 0])).run Try.prog w = .ok (.bool false) w := by
  obtain ⟨m, rfl⟩ := Int.eq_ofNat_of_zero_le i.a
  rcases c with (_ | n) | n
  · rcases m with _ | m
    · exact absurd rfl h
    · exact eqW_c m w
  · exact eqW_a n _ w
  · exact eqW_b n _ w
theorem few_tdiv {x y : Int} (f : Fits x) (g : Fits y) : Lb.ab (Int.tdiv x y) < pw 9 := by
  have e : pw 9 = 22300745198530623141535718272648361505980416 := by decide
  have h1 : (Int.tdiv x y).natAbs = x.natAbs / y.natAbs := Int.natAbs_tdiv x y
  have h2 := Nat.div_le_self x.natAbs y.natAbs
  obtain ⟨_, _⟩ := f
  unfold Lb.ab; split <;> omega
set_option maxRecDepth 100000 in
set_option maxHeartbeats 64000000 in
theorem rquo_some (a b c d m1 m0 n1 n0 ee : Int) (ia : IsW (a, b)) (ic : IsW (c, d)) (nz : V c d ≠ 0) (hh : (Fits (Int.tdiv (V a b) (V c d)) ∧ m1 = hi (Int.tdiv (V a b) (V c d)) ∧ m0 = lo (Int.tdiv (V a b) (V c d)) ∧ n1 = hi (Int.tmod (V a b) (V c d)) ∧ n0 = lo (Int.tmod (V a b) (V c d)) ∧ ee = 0) ∨ (¬ Fits (Int.tdiv (V a b) (V c d)) ∧ m1 = 0 ∧ m0 = 0 ∧ n1 = 0 ∧ n0 = 0 ∧ ee = 10)) (w : World) :
    Calls Try.prog 33 #[.agg #[.int .i64 a, .int .u64 b], .agg #[.int .i64 c, .int .u64 d]] w
      fun e w' => e = .returned (.tuple #[.agg #[.int .i64 m1, .int .u64 m0], .agg #[.int .i64 n1, .int .u64 n0], .int .i64 ee]) ∧ Below w.heap.size w w' := by
  have HH := hide hh
  clear hh
  have kfa := from_spec a b ia
  have kfc := from_spec c d ic
  have fa := isW_fits ia
  have fc := isW_fits ic
  have HNZ := hide nz
  have qe := eqW c d ic.b nz
  have ft := tmod_fits fa fc nz
  clear nz
  go_enter Try.func33, Try.ntmps33
  go_wp2_with fail
  refine abs_wp (fun W => W.cell? ⟨w.heap.size, 0, none⟩ = some (.int .i64 a) ∧ W.cell? ⟨w.heap.size, 1, none⟩ = some (.int .u64 b) ∧ W.cell? ⟨w.heap.size + 1, 0, none⟩ = some (.int .i64 c) ∧ W.cell? ⟨w.heap.size + 1, 1, none⟩ = some (.int .u64 d) ∧ W.cell? ⟨w.heap.size + 1 + 1, 0, none⟩ = some (.int .i64 0) ∧ W.cell? ⟨w.heap.size + 1 + 1, 1, none⟩ = some (.int .u64 0) ∧ W.cell? ⟨w.heap.size + 1 + 1 + 1, 0, none⟩ = some (.int .i64 0) ∧ W.cell? ⟨w.heap.size + 1 + 1 + 1, 1, none⟩ = some (.int .u64 0) ∧ W.frozen? ⟨w.heap.size + 1 + 1, 0, none⟩ = false ∧ W.frozen? ⟨w.heap.size + 1 + 1, 1, none⟩ = false ∧ W.frozen? ⟨w.heap.size + 1 + 1 + 1, 0, none⟩ = false ∧ W.frozen? ⟨w.heap.size + 1 + 1 + 1, 1, none⟩ = false ∧ w.heap.size + 1 + 1 + 1 < W.heap.size ∧ Below w.heap.size w W) ?_ ?_
  · refine ⟨?_, ?_, ?_, ?_, ?_, ?_, ?_, ?_, ?_, ?_, ?_, ?_, ?_, ?_⟩
    all_goals first | assumption | (go_grown; done) | (simp [go_sem]; done) | (simp; done) | (simp; omega)
  rintro W ⟨c0, c1, c2, c3, r0, r1, r2, r3, g0, g1, g2, g3, zW, BW⟩
  go_cut [7, 8] (fun q r W' => QCut W W' (Int.tdiv (V a b) (V c d)) (Int.tmod (V a b) (V c d)) q r)
  case first =>
    have K0 := Keeps.start (Nat.le_refl W.heap.size)
    have K1 := K0.drew
    go_region_held3 (fun w' => w'.cell? ⟨w.heap.size, 0, none⟩ = some (.int .i64 a) ∧ w'.cell? ⟨w.heap.size, 1, none⟩ = some (.int .u64 b) ∧ w'.cell? ⟨w.heap.size + 1, 0, none⟩ = some (.int .i64 c) ∧ w'.cell? ⟨w.heap.size + 1, 1, none⟩ = some (.int .u64 d) ∧ Keeps W.heap.size W w') ((refine (fun K => ⟨Keeps.cell K c0 (by omega), Keeps.cell K c1 (by omega), Keeps.cell K c2 (by omega), Keeps.cell K c3 (by omega), K⟩) (?_ : Keeps W.heap.size W _); (repeat (first | assumption | refine Keeps.alloc ?_ _ | refine Keeps.drew ?_ | refine Keeps.setCell ?_ (by first | (simp; done) | omega | (simp; omega)) _))))
      (first
      | (go_at_call 44; (with_reducible refine (kfa _).mono ?_); rintro e v20 ⟨s0, p0, q0, l0, rfl, N0, hb20⟩; have K20 := Keeps.call (B := W.heap.size) (W := W) (by repeat (first | assumption | refine Keeps.alloc ?_ _ | refine Keeps.drew ?_ | refine Keeps.setCell ?_ (by first | (simp; done) | omega | (simp; omega)) _)) hb20; obtain ⟨bc20, bf20, bs20⟩ := bcell hb20; (try simp only [World.size_alloc, World.size_drew] at bc20 bf20 bs20); (try (have ov200 : W.heap.size < v20.heap.size := by omega)); (try (have ov201 : W.heap.size ≤ v20.heap.size := by omega)); (try (have ov202 : ¬ W.heap.size = v20.heap.size := by omega)); (try (have ov203 : ¬ v20.heap.size = W.heap.size := by omega)); (try (have ov204 : W.heap.size + 1 < v20.heap.size := by omega)); (try (have ov205 : W.heap.size + 1 ≤ v20.heap.size := by omega)); (try (have ov206 : ¬ W.heap.size + 1 = v20.heap.size := by omega)); (try (have ov207 : ¬ v20.heap.size = W.heap.size + 1 := by omega)); have L0 := N0.few 9 (few_fits fa))
      | (go_at_call 44; (with_reducible refine (kfc _).mono ?_); rintro e v21 ⟨s1, p1, q1, l1, rfl, N1, hb21⟩; have K21 := Keeps.call (B := W.heap.size) (W := W) (by repeat (first | assumption | refine Keeps.alloc ?_ _ | refine Keeps.drew ?_ | refine Keeps.setCell ?_ (by first | (simp; done) | omega | (simp; omega)) _)) hb21; obtain ⟨bc21, bf21, bs21⟩ := bcell hb21; (try simp only [World.size_alloc, World.size_drew] at bc21 bf21 bs21); (try (have ov210 : W.heap.size < v21.heap.size := by omega)); (try (have ov211 : W.heap.size ≤ v21.heap.size := by omega)); (try (have ov212 : ¬ W.heap.size = v21.heap.size := by omega)); (try (have ov213 : ¬ v21.heap.size = W.heap.size := by omega)); (try (have ov214 : W.heap.size + 1 < v21.heap.size := by omega)); (try (have ov215 : W.heap.size + 1 ≤ v21.heap.size := by omega)); (try (have ov216 : ¬ W.heap.size + 1 = v21.heap.size := by omega)); (try (have ov217 : ¬ v21.heap.size = W.heap.size + 1 := by omega)); (try (have ov218 : v20.heap.size < v21.heap.size := by omega)); (try (have ov219 : v20.heap.size ≤ v21.heap.size := by omega)); (try (have ov2110 : ¬ v20.heap.size = v21.heap.size := by omega)); (try (have ov2111 : ¬ v21.heap.size = v20.heap.size := by omega)); (try (have ov2112 : v20.heap.size + 1 < v21.heap.size := by omega)); (try (have ov2113 : v20.heap.size + 1 ≤ v21.heap.size := by omega)); (try (have ov2114 : ¬ v20.heap.size + 1 = v21.heap.size := by omega)); (try (have ov2115 : ¬ v21.heap.size = v20.heap.size + 1 := by omega)); have L1 := N1.few 9 (few_fits fc); have M0 := N0.later (w' := v21) (by refine Below.trans ?_ (hb21.mono ?_); (case refine_1 => repeat (first | exact Below.refl _ _ | assumption | refine Below.setCell ?_ (by first | (simp; done) | omega | (simp; omega)) _ | refine Below.drew ?_ | refine below_drewN ?_ _ | refine Below.alloc ?_ (by first | (simp; done) | omega | (simp; omega)) _)); (case refine_2 => first | exact Nat.le_refl _ | (simp; done) | (simp; omega))))
      | (go_at_call 53; (with_reducible refine (quoN_spec _ _ _ _ _ _ _ _ _ _ _ (M0.later (by repeat (first | exact Below.refl _ _ | assumption | refine Below.setCell ?_ (by first | (simp; done) | omega | (simp; omega)) _ | refine Below.drew ?_ | refine below_drewN ?_ _ | refine Below.alloc ?_ (by first | (simp; done) | omega | (simp; omega)) _))) (N1.later (by repeat (first | exact Below.refl _ _ | assumption | refine Below.setCell ?_ (by first | (simp; done) | omega | (simp; omega)) _ | refine Below.drew ?_ | refine below_drewN ?_ _ | refine Below.alloc ?_ (by first | (simp; done) | omega | (simp; omega)) _))) HNZ.out (by omega) (by omega)).mono ?_); rintro e v22 ⟨s2, p2, u2, l2, s3, p3, u3, l3, rfl, N2, N3, hb22⟩; have K22 := Keeps.call (B := W.heap.size) (W := W) (by repeat (first | assumption | refine Keeps.alloc ?_ _ | refine Keeps.drew ?_ | refine Keeps.setCell ?_ (by first | (simp; done) | omega | (simp; omega)) _)) hb22; obtain ⟨bc22, bf22, bs22⟩ := bcell hb22; (try simp only [World.size_alloc, World.size_drew] at bc22 bf22 bs22); (try (have ov220 : W.heap.size < v22.heap.size := by omega)); (try (have ov221 : W.heap.size ≤ v22.heap.size := by omega)); (try (have ov222 : ¬ W.heap.size = v22.heap.size := by omega)); (try (have ov223 : ¬ v22.heap.size = W.heap.size := by omega)); (try (have ov224 : W.heap.size + 1 < v22.heap.size := by omega)); (try (have ov225 : W.heap.size + 1 ≤ v22.heap.size := by omega)); (try (have ov226 : ¬ W.heap.size + 1 = v22.heap.size := by omega)); (try (have ov227 : ¬ v22.heap.size = W.heap.size + 1 := by omega)); (try (have ov228 : v20.heap.size < v22.heap.size := by omega)); (try (have ov229 : v20.heap.size ≤ v22.heap.size := by omega)); (try (have ov2210 : ¬ v20.heap.size = v22.heap.size := by omega)); (try (have ov2211 : ¬ v22.heap.size = v20.heap.size := by omega)); (try (have ov2212 : v20.heap.size + 1 < v22.heap.size := by omega)); (try (have ov2213 : v20.heap.size + 1 ≤ v22.heap.size := by omega)); (try (have ov2214 : ¬ v20.heap.size + 1 = v22.heap.size := by omega)); (try (have ov2215 : ¬ v22.heap.size = v20.heap.size + 1 := by omega)); (try (have ov2216 : v21.heap.size < v22.heap.size := by omega)); (try (have ov2217 : v21.heap.size ≤ v22.heap.size := by omega)); (try (have ov2218 : ¬ v21.heap.size = v22.heap.size := by omega)); (try (have ov2219 : ¬ v22.heap.size = v21.heap.size := by omega)); (try (have ov2220 : v21.heap.size + 1 < v22.heap.size := by omega)); (try (have ov2221 : v21.heap.size + 1 ≤ v22.heap.size := by omega)); (try (have ov2222 : ¬ v21.heap.size + 1 = v22.heap.size := by omega)); (try (have ov2223 : ¬ v22.heap.size = v21.heap.size + 1 := by omega)); skip))
    all_goals
      have NX := N2
      have NY := N3
      go_wp2_with fail
      go_meet
      case rel =>
        refine ⟨_, _, s2, p2, u2, l2, s3, p3, u3, l3, rfl, rfl, ?_, ?_, ?_, ?_, ?_, ?_, ?_, ?_, ?_⟩
        · first | (go_simp; done) | (go_simp; refine World.cell?_setCell_same' _ _ _ ?_; go_simp; done)
        · first | (go_simp; done) | (go_simp; refine World.cell?_setCell_same' _ _ _ ?_; go_simp; done)
        · first | (go_simp; done) | (go_simp; refine World.cell?_setCell_same' _ _ _ ?_; go_simp; done)
        · first | (go_simp; done) | (go_simp; refine World.cell?_setCell_same' _ _ _ ?_; go_simp; done)
        · have sz22 := hb22.size; (try simp only [World.size_alloc, World.size_drew] at sz22); (repeat (first | exact NX | refine IsNum.set (t := 57) (m := 2) ?_ ?_ (by decide) _ | refine IsNum.later ?_ ((Below.refl _ _).alloc (Nat.le_refl _) _) | refine IsNum.later ?_ ((Below.refl _ _).drew))); (all_goals (repeat (first | (refine shape_top _ _ _ _ ?_; (focus (first | (with_reducible rfl) | omega | (simp; done) | (simp; omega))); done) | rw [shape_set] | (refine Eq.trans (shape_old _ _ ?_) ?_; (focus (first | (with_reducible rfl) | omega | (simp; done) | (simp; omega)))) | (refine Eq.trans (shape_later hb22 ?_) ?_; (focus (first | (with_reducible rfl) | omega | (simp; done) | (simp; omega)))) | (refine Eq.trans (shape_later hb21 ?_) ?_; (focus (first | (with_reducible rfl) | omega | (simp; done) | (simp; omega)))) | (refine Eq.trans (shape_later hb20 ?_) ?_; (focus (first | (with_reducible rfl) | omega | (simp; done) | (simp; omega)))))))
        · have sz22 := hb22.size; (try simp only [World.size_alloc, World.size_drew] at sz22); (repeat (first | exact NY | refine IsNum.set (t := 57) (m := 2) ?_ ?_ (by decide) _ | refine IsNum.later ?_ ((Below.refl _ _).alloc (Nat.le_refl _) _) | refine IsNum.later ?_ ((Below.refl _ _).drew))); (all_goals (repeat (first | (refine shape_top _ _ _ _ ?_; (focus (first | (with_reducible rfl) | omega | (simp; done) | (simp; omega))); done) | rw [shape_set] | (refine Eq.trans (shape_old _ _ ?_) ?_; (focus (first | (with_reducible rfl) | omega | (simp; done) | (simp; omega)))) | (refine Eq.trans (shape_later hb22 ?_) ?_; (focus (first | (with_reducible rfl) | omega | (simp; done) | (simp; omega)))) | (refine Eq.trans (shape_later hb21 ?_) ?_; (focus (first | (with_reducible rfl) | omega | (simp; done) | (simp; omega)))) | (refine Eq.trans (shape_later hb20 ?_) ?_; (focus (first | (with_reducible rfl) | omega | (simp; done) | (simp; omega)))))))
        · first | (simp; done) | omega | (simp; omega)
        · first | (simp; done) | omega | (simp; omega)
        · repeat (first | assumption | refine Keeps.alloc ?_ _ | refine Keeps.drew ?_ | refine Keeps.setCell ?_ (by first | (simp; done) | omega | (simp; omega)) _)
  case rest =>
    obtain ⟨X, Y, s1, p1, c1', l1, s2, p2, c2', l2, rfl, rfl, x0, x1, y0, y1, NX, NY, zX, zY, KK⟩ := hcut
    have LX := NX.few 9 (few_tdiv fa fc)
    have LY := NY.few 9 (few_fits ft)
    have ko := over_spec s1 p1 c1' l1 _ _ NX (by omega)
    have r0' := KK.cell r0 (by omega)
    have r1' := KK.cell r1 (by omega)
    have r2' := KK.cell r2 (by omega)
    have r3' := KK.cell r3 (by omega)
    have g0' := KK.free g0 (by omega)
    have g1' := KK.free g1 (by omega)
    have g2' := KK.free g2 (by omega)
    have g3' := KK.free g3 (by omega)
    have zr : w.heap.size + 1 + 1 + 1 < wc.heap.size := by have := KK.size; omega
    have BC := hide (BW.trans (KK.below.mono BW.size))
    have FR := hide ft
    clear qe r0 r1 r2 r3 g0 g1 g2 g3 c0 c1 c2 c3 zW BW KK kfa kfc HNZ ft LX NX fa fc
    have FT := hide (resV_fits FR.out)
    unfold sumRes at ko
    rcases HH.out with ⟨fq, h1e, h0e, h3e, h2e, rfl⟩ | ⟨fq, rfl, rfl, rfl, rfl, rfl⟩
    · rw [resV_fits fq, resE_fits fq, ← h1e, ← h0e] at ko
      have kt := fun w' (k : Below wc.heap.size wc w') => to_spec s2 p2 c2' l2 _ w' (NY.later k) (by omega)
      simp only [toRes, FT.out, decide_eq_true FR.out] at kt
      rw [← h3e, ← h2e] at kt
      clear fq FT h1e h0e h3e h2e HH
      go_wp2_with fail
      refine ko.mono ?_
      clear ko
      rintro e w1 ⟨rfl, h1⟩
      have x0' := (h1.cell (p := ⟨Y, 0, none⟩) zY).trans y0
      have x1' := (h1.cell (p := ⟨Y, 1, none⟩) zY).trans y1
      have z2 : w.heap.size + 1 + 1 < wc.heap.size := by omega
      have r0 := (h1.cell (p := ⟨w.heap.size + 1 + 1, 0, none⟩) z2).trans r0'
      have r1 := (h1.cell (p := ⟨w.heap.size + 1 + 1, 1, none⟩) z2).trans r1'
      have r2 := (h1.cell (p := ⟨w.heap.size + 1 + 1 + 1, 0, none⟩) zr).trans r2'
      have r3 := (h1.cell (p := ⟨w.heap.size + 1 + 1 + 1, 1, none⟩) zr).trans r3'
      have g0 := (h1.frozen (p := ⟨w.heap.size + 1 + 1, 0, none⟩) z2).trans g0'
      have g1 := (h1.frozen (p := ⟨w.heap.size + 1 + 1, 1, none⟩) z2).trans g1'
      have g2 := (h1.frozen (p := ⟨w.heap.size + 1 + 1 + 1, 0, none⟩) zr).trans g2'
      have g3 := (h1.frozen (p := ⟨w.heap.size + 1 + 1 + 1, 1, none⟩) zr).trans g3'
      have zy := Nat.lt_of_lt_of_le zY h1.size
      have zq := Nat.lt_of_lt_of_le zr h1.size
      have zp := Nat.lt_of_lt_of_le z2 h1.size
      have B1 := hide (BC.out.trans (h1.mono BC.out.size))
      have hb1 := hide h1
      clear h1 x0 x1 y0 y1 r0' r1' r2' r3' g0' g1' g2' g3' zX zY zr z2 BC
      have kt2 := fun w' (k : Below w1.heap.size w1 w') => kt w' (hb1.out.trans (k.mono hb1.out.size))
      clear kt hb1
      go_wp2_with fail
      refine (kt2 _ (by go_grown)).mono ?_
      clear kt2
      rintro e w2 ⟨rfl, h2⟩
      have hb2 : Below w1.heap.size w1 w2 := Below.trans (by go_grown) (h2.mono (by first | (simp; done) | omega | (simp; omega)))
      obtain ⟨v0, v2, v4⟩ := live (.int .i64 m1) h2 w1.heap.size 0 (by simp) (by simp [go_sem]) (by simp [go_sem])
      obtain ⟨v1, v3, v4⟩ := live (.int .u64 m0) h2 w1.heap.size 1 (by simp) (by simp [go_sem]) (by simp [go_sem])
      have s0 := (hb2.cell (p := ⟨w.heap.size + 1 + 1, 0, none⟩) zp).trans r0
      have s1 := (hb2.cell (p := ⟨w.heap.size + 1 + 1, 1, none⟩) zp).trans r1
      have s2 := (hb2.cell (p := ⟨w.heap.size + 1 + 1 + 1, 0, none⟩) zq).trans r2
      have s3 := (hb2.cell (p := ⟨w.heap.size + 1 + 1 + 1, 1, none⟩) zq).trans r3
      have t0 := (hb2.frozen (p := ⟨w.heap.size + 1 + 1, 0, none⟩) zp).trans g0
      have t1 := (hb2.frozen (p := ⟨w.heap.size + 1 + 1, 1, none⟩) zp).trans g1
      have t2 := (hb2.frozen (p := ⟨w.heap.size + 1 + 1 + 1, 0, none⟩) zq).trans g2
      have t3 := (hb2.frozen (p := ⟨w.heap.size + 1 + 1 + 1, 1, none⟩) zq).trans g3
      have u4 := Nat.lt_of_lt_of_le zp hb2.size
      have u5 := Nat.lt_of_lt_of_le zq hb2.size
      have B2 := B1.out.trans (hb2.mono B1.out.size)
      have n1' : ¬ w.heap.size + 1 + 1 = w1.heap.size := by omega
      have n2' : ¬ w.heap.size + 1 + 1 + 1 = w1.heap.size := by omega
      clear h2 hb2 r0 r1 r2 r3 g0 g1 g2 g3 zp zq B1
      go_wp2_with fail
      go_region
      all_goals
        go_wp2_with fail
        refine bodyPost_ret (by simp [results, Try.results33, go_sem, s0, s1, s2, s3, t0, t1, t2, t3, u4, u5]; try rfl) rfl ?_
        refine ⟨rfl, ?_⟩
        repeat (first | exact Below.refl _ _ | assumption | refine Below.setCell ?_ (by first | (simp; done) | omega | (simp; omega)) _ | refine Below.drew ?_ | refine below_drewN ?_ _ | refine Below.alloc ?_ (by first | (simp; done) | omega | (simp; omega)) _)
    · have e1 : hi (resV (Int.tdiv (V a b) (V c d))) = 0 := by rw [resV_not fq]; rfl
      have e0 : lo (resV (Int.tdiv (V a b) (V c d))) = 0 := by rw [resV_not fq]; rfl
      rw [resE_not fq, e1, e0] at ko
      clear fq FT FR HH e1 e0
      go_wp2_with fail
      refine ko.mono ?_
      clear ko
      rintro e w1 ⟨rfl, h1⟩
      have x0' := (h1.cell (p := ⟨Y, 0, none⟩) zY).trans y0
      have x1' := (h1.cell (p := ⟨Y, 1, none⟩) zY).trans y1
      have z2 : w.heap.size + 1 + 1 < wc.heap.size := by omega
      have r0 := (h1.cell (p := ⟨w.heap.size + 1 + 1, 0, none⟩) z2).trans r0'
      have r1 := (h1.cell (p := ⟨w.heap.size + 1 + 1, 1, none⟩) z2).trans r1'
      have r2 := (h1.cell (p := ⟨w.heap.size + 1 + 1 + 1, 0, none⟩) zr).trans r2'
      have r3 := (h1.cell (p := ⟨w.heap.size + 1 + 1 + 1, 1, none⟩) zr).trans r3'
      have g0 := (h1.frozen (p := ⟨w.heap.size + 1 + 1, 0, none⟩) z2).trans g0'
      have g1 := (h1.frozen (p := ⟨w.heap.size + 1 + 1, 1, none⟩) z2).trans g1'
      have g2 := (h1.frozen (p := ⟨w.heap.size + 1 + 1 + 1, 0, none⟩) zr).trans g2'
      have g3 := (h1.frozen (p := ⟨w.heap.size + 1 + 1 + 1, 1, none⟩) zr).trans g3'
      have zy := Nat.lt_of_lt_of_le zY h1.size
      have zq := Nat.lt_of_lt_of_le zr h1.size
      have zp := Nat.lt_of_lt_of_le z2 h1.size
      have B1 := hide (BC.out.trans (h1.mono BC.out.size))
      have hb1 := hide h1
      clear h1 x0 x1 y0 y1 r0' r1' r2' r3' g0' g1' g2' g3' zX zY zr z2 BC
      clear hb1
      have B2 := B1.out
      go_wp2_with fail
      refine bodyPost_ret (by simp [results, Try.results33, go_sem, r0, r1, r2, r3, g0, g1, g2, g3, zq, zp]; try rfl) rfl ?_
      refine ⟨rfl, ?_⟩
      repeat (first | exact Below.refl _ _ | assumption | refine Below.setCell ?_ (by first | (simp; done) | omega | (simp; omega)) _ | refine Below.drew ?_ | refine below_drewN ?_ _ | refine Below.alloc ?_ (by first | (simp; done) | omega | (simp; omega)) _)
set_option maxRecDepth 100000 in
set_option maxHeartbeats 1000000 in
theorem rquo_zero (a b : Int) (w : World) :
    Calls Try.prog 33 #[.agg #[.int .i64 a, .int .u64 b], .agg #[.int .i64 0, .int .u64 0]] w
      fun e w' => e = .returned (.tuple #[.agg #[.int .i64 0, .int .u64 0], .agg #[.int .i64 0, .int .u64 0], .int .i64 11]) ∧ Below w.heap.size w w' := by
  go_enter Try.func33, Try.ntmps33
  go_wp2_with fail
  refine bodyPost_ret (by simp [results, Try.results33, go_sem]; try rfl) rfl ?_
  exact ⟨rfl, by go_grown⟩
set_option maxHeartbeats 4000000 in
theorem quos_walk (a b c d x1 x0 t1 t0 er : Int)
    (k0 : ∀ w, Calls Try.prog 25 #[] w fun e w' => e = .returned (.bool true) ∧ Below w.heap.size w w')
    (k1 : ∀ w, Calls Try.prog 32 #[.agg #[.int .i64 a, .int .u64 b], .agg #[.int .i64 c, .int .u64 d]] w fun e w' => e = .returned (.tuple #[.agg #[.int .i64 x1, .int .u64 x0], .agg #[.int .i64 t1, .int .u64 t0], .int .i64 er]) ∧ Below w.heap.size w w')
    (k2 : ∀ w, Calls Try.prog 33 #[.agg #[.int .i64 a, .int .u64 b], .agg #[.int .i64 c, .int .u64 d]] w fun e w' => e = .returned (.tuple #[.agg #[.int .i64 x1, .int .u64 x0], .agg #[.int .i64 t1, .int .u64 t0], .int .i64 er]) ∧ Below w.heap.size w w')
    (w : World) : Calls Try.prog 6 #[.agg #[.int .i64 a, .int .u64 b], .agg #[.int .i64 c, .int .u64 d]] w fun e w' => e = .returned (.bool true) ∧ Below w.heap.size w w' := by
  go_enter Try.func6, Try.ntmps6
  go_wp2_with fail
  refine (k1 _).mono ?_
  rintro e w1 ⟨rfl, h1⟩
  have B1 : Below w.heap.size w w1 := Below.trans (by go_grown) (h1.mono (by first | (simp; done) | omega | (simp; omega)))
  have y1 := B1.size
  have A0 := box2 h1 (w.heap.size) (.int .i64 a) (.int .u64 b) (by first | assumption | (simp [go_sem]; done) | (simp [go_sem]; done)) (by first | assumption | (simp [go_sem]; done) | (simp [go_sem]; done)) (by first | assumption | (simp [go_sem]; done) | (simp [go_sem]; done)) (by first | assumption | (simp [go_sem]; done) | (simp [go_sem]; done)) (by first | assumption | omega | (simp; done) | (simp; omega))
  have A1 := box2 h1 (w.heap.size + 1) (.int .i64 c) (.int .u64 d) (by first | assumption | (simp [go_sem]; done) | (simp [go_sem]; done)) (by first | assumption | (simp [go_sem]; done) | (simp [go_sem]; done)) (by first | assumption | (simp [go_sem]; done) | (simp [go_sem]; done)) (by first | assumption | (simp [go_sem]; done) | (simp [go_sem]; done)) (by first | assumption | omega | (simp; done) | (simp; omega))
  obtain ⟨A0c0, A0c1, A0f0, A0f1, A0z⟩ := A0
  obtain ⟨A1c0, A1c1, A1f0, A1f1, A1z⟩ := A1
  clear h1 k1
  go_wp2_with fail
  refine (k2 _).mono ?_
  rintro e w2 ⟨rfl, h2⟩
  have B2 : Below w.heap.size w w2 := Below.trans (by go_grown) (h2.mono (by first | (simp; done) | omega | (simp; omega)))
  have y2 := B2.size
  have B0 := box2 h2 (w1.heap.size) (.int .i64 x1) (.int .u64 x0) (by first | assumption | (simp [go_sem]; done) | (simp [go_sem, A0c0, A0c1, A0f0, A0f1, A0z, A1c0, A1c1, A1f0, A1f1, A1z]; done)) (by first | assumption | (simp [go_sem]; done) | (simp [go_sem, A0c0, A0c1, A0f0, A0f1, A0z, A1c0, A1c1, A1f0, A1f1, A1z]; done)) (by first | assumption | (simp [go_sem]; done) | (simp [go_sem, A0c0, A0c1, A0f0, A0f1, A0z, A1c0, A1c1, A1f0, A1f1, A1z]; done)) (by first | assumption | (simp [go_sem]; done) | (simp [go_sem, A0c0, A0c1, A0f0, A0f1, A0z, A1c0, A1c1, A1f0, A1f1, A1z]; done)) (by first | assumption | omega | (simp; done) | (simp; omega))
  have B1 := box2 h2 (w1.heap.size + 1) (.int .i64 t1) (.int .u64 t0) (by first | assumption | (simp [go_sem]; done) | (simp [go_sem, A0c0, A0c1, A0f0, A0f1, A0z, A1c0, A1c1, A1f0, A1f1, A1z]; done)) (by first | assumption | (simp [go_sem]; done) | (simp [go_sem, A0c0, A0c1, A0f0, A0f1, A0z, A1c0, A1c1, A1f0, A1f1, A1z]; done)) (by first | assumption | (simp [go_sem]; done) | (simp [go_sem, A0c0, A0c1, A0f0, A0f1, A0z, A1c0, A1c1, A1f0, A1f1, A1z]; done)) (by first | assumption | (simp [go_sem]; done) | (simp [go_sem, A0c0, A0c1, A0f0, A0f1, A0z, A1c0, A1c1, A1f0, A1f1, A1z]; done)) (by first | assumption | omega | (simp; done) | (simp; omega))
  clear A0c0 A0c1 A0f0 A0f1 A0z A1c0 A1c1 A1f0 A1f1 A1z
  obtain ⟨B0c0, B0c1, B0f0, B0f1, B0z⟩ := B0
  obtain ⟨B1c0, B1c1, B1f0, B1f1, B1z⟩ := B1
  clear h2 k2 B1
  go_wp2_with fail
  refine (k0 _).mono ?_
  rintro e w3 ⟨rfl, h3⟩
  have B3 : Below w.heap.size w w3 := Below.trans (by go_grown) (h3.mono (by first | (simp; done) | omega | (simp; omega)))
  have y3 := B3.size
  clear B0c0 B0c1 B0f0 B0f1 B0z B1c0 B1c1 B1f0 B1f1 B1z
  clear h3 k0 B2
  go_wp2_with fail
  go_returns
  exact ⟨rfl, by go_grown⟩
theorem law_WideQuos (a0 b0 a1 b1 : Int) (wa0 : (Lit.int .i64 a0).wf = true) (wb0 : (Lit.int .u64 b0).wf = true) (wa1 : (Lit.int .i64 a1).wf = true) (wb1 : (Lit.int .u64 b1).wf = true) (w : World) :
    Calls Try.prog 6 #[.agg #[.int .i64 a0, .int .u64 b0], .agg #[.int .i64 a1, .int .u64 b1]] w fun e w' => e = .returned (.bool true) ∧ Below w.heap.size w w' := by
  have i : IsW (a0, b0) := ⟨hi_of_wf wa0, lo_of_wf wb0⟩
  have j : IsW (a1, b1) := ⟨hi_of_wf wa1, lo_of_wf wb1⟩
  have jb := j.b
  by_cases z : V a1 b1 = 0
  · have z1 : a1 = 0 := by obtain ⟨_, _⟩ := jb; unfold V at z; omega
    have z0 : b1 = 0 := by obtain ⟨_, _⟩ := jb; unfold V at z; omega
    subst z1 z0
    exact quos_walk a0 b0 0 0 _ _ _ _ _ alive_ok (quo_none a0 b0 0 0 jb z) (rquo_zero a0 b0) w
  · refine quos_walk a0 b0 a1 b1 _ _ _ _ _ alive_ok (quo_spec a0 b0 a1 b1 i j z) (fun w => rquo_some a0 b0 a1 b1 _ _ _ _ _ i j z ?_ w) w
    by_cases fq : Fits (Int.tdiv (V a0 b0) (V a1 b1))
    · left
      unfold quoQ quoR
      rw [if_pos fq, if_pos fq, resE_fits fq]
      exact ⟨fq, rfl, rfl, rfl, rfl, rfl⟩
    · right
      unfold quoQ quoR
      rw [if_neg fq, if_neg fq, resE_not fq]
      exact ⟨fq, rfl, rfl, rfl, rfl, rfl⟩
end Go.Proofs.Ythcgkpmlfbjagaa
