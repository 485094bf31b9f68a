/- Texts that belong together: Trank Tup Tups Tbin Tbins Tshufm Tmerge Trmg Intu Lawshu Lawshv. -/
import Derived.Test.YtebiddmadmmfpaaG02
import Derived.Deep.DeepCutAuto
import Derived.Test.YtebiddmadmmfpaaG03
import Derived.Test.YtebiddmadmmfpaaG01
import Derived.Deep.OwnRows
import Derived.Deep.QuietTactic
import Derived.BigQuiet
import Derived.Laws.MakeOwn
import Derived.Deep.AppendLies
import Derived.Laws.OwnMore
import Derived.OwnWalk
import Derived.Laws.AppendOwnNone
import Derived.Deep.CutRange
set_option linter.unusedSimpArgs false
set_option linter.unusedVariables false
/- timer: rank; Rank. (gen_tm2.py) -/
namespace Go.Proofs.Ytebiddmadmmfpaa
set_option linter.unusedVariables false
set_option linter.unusedSimpArgs false
open Go.RowKit W T9
set_option maxRecDepth 100000 in
set_option maxHeartbeats 8000000 in
theorem rank_walk (n p n1 n0 p1 p0 s1 s0 d1 d0 q1 q0 r1 r0 er er2 v g res : Int) (b : Bool) (v0 : 0 ≤ v) (v2 : v ≤ 9223372036854775807) (v1 : Hid (0 < g → v < 9223372036854775807)) (hy : Hid (0 < g → res = v + 1)) (hn : Hid (¬ 0 < g → res = v))
    (k1 : ∀ w, Calls Try.prog 24 #[.int .i64 n] w fun e w' => e = .returned (.agg #[.int .i64 n1, .int .u64 n0]) ∧ Below w.heap.size w w')
    (k2 : ∀ w, Calls Try.prog 24 #[.int .i64 p] w fun e w' => e = .returned (.agg #[.int .i64 p1, .int .u64 p0]) ∧ Below w.heap.size w w')
    (k3 : ∀ w, Calls Try.prog 27 #[.agg #[.int .i64 n1, .int .u64 n0], .agg #[.int .i64 p1, .int .u64 p0]] w fun e w' => e = .returned (.tuple #[.agg #[.int .i64 s1, .int .u64 s0], .int .i64 er2]) ∧ Below w.heap.size w w')
    (kf : ∀ w, Calls Try.prog 24 #[.int .i64 100000000] w fun e w' => e = .returned (.agg #[.int .i64 d1, .int .u64 d0]) ∧ Below w.heap.size w w')
    (kq : ∀ w, Calls Try.prog 26 #[.agg #[.int .i64 s1, .int .u64 s0], .agg #[.int .i64 d1, .int .u64 d0]] w fun e w' => e = .returned (.tuple #[.agg #[.int .i64 q1, .int .u64 q0], .agg #[.int .i64 r1, .int .u64 r0], .int .i64 er]) ∧ Below w.heap.size w w')
    (km : ∀ w, Calls Try.prog 55 #[.agg #[.int .i64 q1, .int .u64 q0]] w fun e w' => e = .returned (.tuple #[.int .i64 v, .bool b]) ∧ Below w.heap.size w w')
    (kg : ∀ w, Calls Try.prog 49 #[.agg #[.int .i64 r1, .int .u64 r0]] w fun e w' => e = .returned (.int .i64 g) ∧ Below w.heap.size w w')
    (w : World) : Calls Try.prog 29 #[.int .i64 n, .int .i64 p] w fun e w' => e = .returned (.int .i64 res) ∧ Below w.heap.size w w' := by
  go_enter Try.func29, Try.ntmps29
  go_wp2_with fail
  refine (k1 _).mono ?_
  rintro e w1 ⟨rfl, h1⟩
  clear k1
  go_wp2_with fail
  refine (k2 _).mono ?_
  rintro e w2 ⟨rfl, h2⟩
  clear k2
  go_wp2_with fail
  refine (k3 _).mono ?_
  rintro e w3 ⟨rfl, h3⟩
  clear k3
  have b3 : Below w.heap.size w w3 := (h1.trans (h2.mono h1.size)).trans (h3.mono (Nat.le_trans h1.size h2.size))
  have y3 := b3.size
  clear h1 h2 h3
  go_wp2_with fail
  refine abs_wp (fun W => W.cell? ⟨w3.heap.size, 0, none⟩ = some (.int .i64 s1) ∧ W.cell? ⟨w3.heap.size, 1, none⟩ = some (.int .u64 s0) ∧ w3.heap.size < W.heap.size ∧ Below w.heap.size w W) ?_ ?_
  · refine ⟨?_, ?_, ?_, ?_⟩
    all_goals first | assumption | (go_grown; done) | (simp [go_sem]; done) | (simp; done) | omega | (simp; omega)
  rintro W ⟨c0, c1, zW, BW⟩
  go_cut [7, 8] (fun q7 q8 W' => ∃ X Y : Nat, q7 = .pointer (some ⟨X, 0, none⟩) ∧ q8 = .pointer (some ⟨Y, 0, none⟩) ∧ Box2 W'  X (.int .i64 q1) (.int .u64 q0) ∧ Box2 W'  Y (.int .i64 r1) (.int .u64 r0) ∧ Keeps W.heap.size W W')
  case first =>
    have K0 := Keeps.start (Nat.le_refl W.heap.size)
    have K1 := K0.drew
    go_region_held3 (fun w' => w'.cell? ⟨w3.heap.size, 0, none⟩ = some (.int .i64 s1) ∧ w'.cell? ⟨w3.heap.size, 1, none⟩ = some (.int .u64 s0) ∧ Keeps W.heap.size W w') ((refine (fun K => ⟨Keeps.cell K c0 (by omega), Keeps.cell K c1 (by omega), K⟩) (?_ : Keeps W.heap.size W _); ((repeat (first | with_reducible assumption | with_reducible refine Keeps.alloc ?_ _ | with_reducible refine Keeps.drew ?_ | with_reducible refine Keeps.setCell ?_ ?_ _)); (all_goals (first | (simp; done) | omega | (simp; omega))))))
      (first
      | (go_at_call 24; refine (kf _).mono ?_; rintro e v20 ⟨rfl, hb20⟩; have K20 := Keeps.call (B := W.heap.size) (W := W) (by (repeat (first | with_reducible assumption | with_reducible refine Keeps.alloc ?_ _ | with_reducible refine Keeps.drew ?_ | with_reducible refine Keeps.setCell ?_ ?_ _)); (all_goals (first | (simp; done) | omega | (simp; omega)))) hb20; obtain ⟨bc20, bf20, bs20⟩ := bcell hb20; (try simp only [World.size_alloc, World.size_drew] at bc20 bf20 bs20); (try (have ov200 : W.heap.size < v20.heap.size := by omega)); (try (have ov201 : W.heap.size ≤ v20.heap.size := by omega)); (try (have ov202 : ¬ W.heap.size = v20.heap.size := by omega)); (try (have ov203 : ¬ v20.heap.size = W.heap.size := by omega)); (try (have ov204 : W.heap.size + 1 < v20.heap.size := by omega)); (try (have ov205 : W.heap.size + 1 ≤ v20.heap.size := by omega)); (try (have ov206 : ¬ W.heap.size + 1 = v20.heap.size := by omega)); (try (have ov207 : ¬ v20.heap.size = W.heap.size + 1 := by omega)))
      | (go_at_call 26; refine (kq _).mono ?_; rintro e v21 ⟨rfl, hb21⟩; have K21 := Keeps.call (B := W.heap.size) (W := W) (by (repeat (first | with_reducible assumption | with_reducible refine Keeps.alloc ?_ _ | with_reducible refine Keeps.drew ?_ | with_reducible refine Keeps.setCell ?_ ?_ _)); (all_goals (first | (simp; done) | omega | (simp; omega)))) hb21; obtain ⟨bc21, bf21, bs21⟩ := bcell hb21; (try simp only [World.size_alloc, World.size_drew] at bc21 bf21 bs21); (try (have ov210 : W.heap.size < v21.heap.size := by omega)); (try (have ov211 : W.heap.size ≤ v21.heap.size := by omega)); (try (have ov212 : ¬ W.heap.size = v21.heap.size := by omega)); (try (have ov213 : ¬ v21.heap.size = W.heap.size := by omega)); (try (have ov214 : W.heap.size + 1 < v21.heap.size := by omega)); (try (have ov215 : W.heap.size + 1 ≤ v21.heap.size := by omega)); (try (have ov216 : ¬ W.heap.size + 1 = v21.heap.size := by omega)); (try (have ov217 : ¬ v21.heap.size = W.heap.size + 1 := by omega)); (try (have ov218 : v20.heap.size < v21.heap.size := by omega)); (try (have ov219 : v20.heap.size ≤ v21.heap.size := by omega)); (try (have ov2110 : ¬ v20.heap.size = v21.heap.size := by omega)); (try (have ov2111 : ¬ v21.heap.size = v20.heap.size := by omega)); (try (have ov2112 : v20.heap.size + 1 < v21.heap.size := by omega)); (try (have ov2113 : v20.heap.size + 1 ≤ v21.heap.size := by omega)); (try (have ov2114 : ¬ v20.heap.size + 1 = v21.heap.size := by omega)); (try (have ov2115 : ¬ v21.heap.size = v20.heap.size + 1 := by omega))))
    all_goals
      go_wp2_with fail
      go_meet
      case rel =>
        refine ⟨_, _, rfl, rfl, ⟨?_, ?_, ?_, ?_, ?_⟩, ⟨?_, ?_, ?_, ?_, ?_⟩, ?_⟩
        · first | (go_simp; done) | (go_simp; refine World.cell?_setCell_same' _ _ _ ?_; go_simp; done)
        · first | (go_simp; done) | (go_simp; refine World.cell?_setCell_same' _ _ _ ?_; go_simp; done)
        · first | (go_simp; done) | (go_simp; refine World.cell?_setCell_same' _ _ _ ?_; go_simp; done)
        · first | (go_simp; done) | (go_simp; refine World.cell?_setCell_same' _ _ _ ?_; go_simp; done)
        · first | (simp; done) | omega | (simp; omega)
        · first | (go_simp; done) | (go_simp; refine World.cell?_setCell_same' _ _ _ ?_; go_simp; done)
        · first | (go_simp; done) | (go_simp; refine World.cell?_setCell_same' _ _ _ ?_; go_simp; done)
        · first | (go_simp; done) | (go_simp; refine World.cell?_setCell_same' _ _ _ ?_; go_simp; done)
        · first | (go_simp; done) | (go_simp; refine World.cell?_setCell_same' _ _ _ ?_; go_simp; done)
        · first | (simp; done) | omega | (simp; omega)
        · (repeat (first | with_reducible assumption | with_reducible refine Keeps.alloc ?_ _ | with_reducible refine Keeps.drew ?_ | with_reducible refine Keeps.setCell ?_ ?_ _)); (all_goals (first | (simp; done) | omega | (simp; omega)))
  case rest =>
    obtain ⟨X, Y, rfl, rfl, bx, by_, KK⟩ := hcut
    have bl := BW.trans (KK.below.mono BW.size)
    clear KK BW kf kq c0 c1 zW b3
    obtain ⟨x0, x1, x2, x3, x4⟩ := bx
    go_wp2_with fail
    refine (km _).mono ?_
    rintro e w9 ⟨rfl, h9⟩
    have b9 := bl.trans (h9.mono bl.size)
    obtain ⟨z0, z1, z2, z3, z4⟩ := by_.later h9
    clear h9 km bl x0 x1 x2 x3 x4 by_
    go_wp2_with fail
    refine (kg _).mono ?_
    rintro e w10 ⟨rfl, h10⟩
    have b10 := b9.trans (h10.mono b9.size)
    clear h10 kg b9
    by_cases hg : 0 < g
    · obtain rfl : res = v + 1 := hy.out hg
      have v3 := v1.out hg
      go_wp2_with fail
      go_returns
      refine ⟨rfl, ?_⟩
      repeat (first | exact Below.refl _ _ | assumption | refine Below.setCell ?_ (by first | (simp; done) | omega | (simp; omega)) _ | refine Below.drew ?_ | refine below_drewN ?_ _ | refine Below.alloc ?_ (by first | (simp; done) | omega | (simp; omega)) _)
    · obtain rfl : res = v := hn.out (by omega)
      go_wp2_with fail
      go_returns
      refine ⟨rfl, ?_⟩
      repeat (first | exact Below.refl _ _ | assumption | refine Below.setCell ?_ (by first | (simp; done) | omega | (simp; omega)) _ | refine Below.drew ?_ | refine below_drewN ?_ _ | refine Below.alloc ?_ (by first | (simp; done) | omega | (simp; omega)) _)
/-- rank: the nearest rank. -/
theorem rank_spec (n p : Int) (w : World) (h1 : 1 ≤ n) (h2 : n ≤ 9223372036854775807) (p1 : 1 ≤ p) (p2 : p ≤ 100000000) :
    Calls Try.prog 29 #[.int .i64 n, .int .i64 p] w fun e w' => e = .returned (.int .i64 (rnk n p)) ∧ Below w.heap.size w w' := by
  have hn : IsHi n := ⟨by omega, by omega⟩
  have hp : IsHi p := ⟨by omega, by omega⟩
  have k1 := wof_spec n hn
  have k2 := wof_spec p hp
  have kf := wof_spec 100000000 ⟨by omega, by omega⟩
  have k3 := mul_spec (hi n) (lo n) (hi p) (lo p) (hiV_isW (fits_small hn)) (hiV_isW (fits_small hp))
  have a : n * p ≤ n * 100000000 := Int.mul_le_mul_of_nonneg_left p2 (by omega)
  have b : 0 ≤ n * p := Int.mul_nonneg (by omega) (by omega)
  have fm : Fits (n * p) := ⟨by omega, by omega⟩
  rw [V_hi_lo, V_hi_lo] at k3
  unfold sumRes at k3
  unfold wideRes at k1 k2 kf
  rw [resV_fits fm, resE_fits fm] at k3
  have q0 : 0 ≤ n * p / 100000000 := by omega
  have q1 : n * p / 100000000 ≤ n := by omega
  have r0 : 0 ≤ n * p % 100000000 := by omega
  have r1 : n * p % 100000000 < 100000000 := by omega
  have fr : Fits (n * p % 100000000) := ⟨by omega, by omega⟩
  have kg := sign_spec (hi (n * p % 100000000)) (lo (n * p % 100000000)) (isLo_lo _)
  rw [V_hi_lo] at kg
  have c1 : 0 < cmpI (n * p % 100000000) 0 ↔ ¬ n * p % 100000000 = 0 := by
    unfold cmpI; split <;> (try split) <;> omega
  refine rank_walk n p _ _ _ _ _ _ _ _ _ _ _ _ _ _ (n * p / 100000000) _ _ _ q0 (by omega) ?_ ?_ ?_ k1 k2 k3 kf (quo_pos (n * p) 100000000 b (by omega) (by omega) (by omega)) (small_pos _ ⟨by omega, by omega⟩) kg w
  · intro h; rw [c1] at h; omega
  · intro h; rw [c1] at h; unfold rnk; rw [if_neg h]
  · intro h; rw [c1] at h; unfold rnk; rw [if_pos (by omega)]; omega
end Go.Proofs.Ytebiddmadmmfpaa
/- timer: Upto. (gen_tup.py) -/
namespace Go.Proofs.Ytebiddmadmmfpaa
set_option linter.unusedVariables false
set_option linter.unusedSimpArgs false
open Go.RowKit W T9
/-- A box of 5 cells that may be written. -/
structure Box5 (w : World) (b : Nat) (x0 x1 x2 x3 x4 : Value) : Prop where
  x0 : w.cell? ⟨b, 0, none⟩ = some x0
  x1 : w.cell? ⟨b, 1, none⟩ = some x1
  x2 : w.cell? ⟨b, 2, none⟩ = some x2
  x3 : w.cell? ⟨b, 3, none⟩ = some x3
  x4 : w.cell? ⟨b, 4, none⟩ = some x4
  f0 : w.frozen? ⟨b, 0, none⟩ = false
  f1 : w.frozen? ⟨b, 1, none⟩ = false
  f2 : w.frozen? ⟨b, 2, none⟩ = false
  f3 : w.frozen? ⟨b, 3, none⟩ = false
  f4 : w.frozen? ⟨b, 4, none⟩ = false
  lt : b < w.heap.size
theorem Box5.later {w w' : World} {b : Nat} {x0 x1 x2 x3 x4 : Value} (h : Box5 w b x0 x1 x2 x3 x4) (k : Below w.heap.size w w') : Box5 w' b x0 x1 x2 x3 x4 :=
  ⟨(k.cell (p := ⟨b, 0, none⟩) h.lt).trans h.x0, (k.cell (p := ⟨b, 1, none⟩) h.lt).trans h.x1, (k.cell (p := ⟨b, 2, none⟩) h.lt).trans h.x2, (k.cell (p := ⟨b, 3, none⟩) h.lt).trans h.x3, (k.cell (p := ⟨b, 4, none⟩) h.lt).trans h.x4, (k.frozen (p := ⟨b, 0, none⟩) h.lt).trans h.f0, (k.frozen (p := ⟨b, 1, none⟩) h.lt).trans h.f1, (k.frozen (p := ⟨b, 2, none⟩) h.lt).trans h.f2, (k.frozen (p := ⟨b, 3, none⟩) h.lt).trans h.f3, (k.frozen (p := ⟨b, 4, none⟩) h.lt).trans h.f4, Nat.lt_of_lt_of_le h.lt k.size⟩
theorem Box5.made {w : World} {x0 x1 x2 x3 x4 : Value} {t : TypeId} : Box5 (w.alloc (.cells #[x0, x1, x2, x3, x4] t)) w.heap.size x0 x1 x2 x3 x4 := by
  refine ⟨?_, ?_, ?_, ?_, ?_, ?_, ?_, ?_, ?_, ?_, ?_⟩ <;> first | (simp [go_sem]; done) | (simp; done)
theorem size_i64u (w : World) : (Go.sizeOf (Try.prog.elem 29)).run Try.prog w = .ok 1 w := by kernel_rfl
theorem ints_upto (a : Option Addr) (n cap r : Nat) (hr : r ≤ n) (hc : n ≤ cap) (v : World) : (Instr.slice 29 (.slice a n cap) none (some (.int .i64 (r : Int))) none).run Try.prog v = .ok (.slice a r cap) v := by
  rw [run_slice_h (P := Try.prog) (w := v) 29 a n cap (by kernel_rfl) .i64 (r : Int) (by omega) (by omega), size_i64u]
  cases a <;> simp [Result.andThen, sliced, Addr.add]
theorem ints_from (h n cap d : Nat) (hd : d < n) (hc : n ≤ cap) (h63 : n ≤ 9223372036854775807) (v : World) : (Instr.slice 29 (.slice (some ⟨h, 0, none⟩) n cap) (some (.int .i64 (d : Int))) none none).run Try.prog v = .ok (.slice (some ⟨h, d, none⟩) (n - d) (cap - d)) v := by
  rw [run_slice_l (P := Try.prog) (w := v) 29 (some ⟨h, 0, none⟩) n cap (by kernel_rfl) .i64 (d : Int) (by omega) (by omega), size_i64u]
  have : ¬ cap = d := by omega
  simp [Result.andThen, sliced, Addr.add, this]
  intro h; exact h.symm
set_option maxRecDepth 100000 in
set_option maxHeartbeats 8000000 in
theorem upto_pos (b off c n q d : Nat) (p x s1 s0 m : Int) (w : World) (hn : n ≤ 17592186044416) (hd : n = d + (q + 1)) (lt : b < w.heap.size) (L : World → Nat → Prop) (p0 : 0 < p) (p1 : p ≤ 100000000)
    (LL : ∀ w' h w'', L w' h → Below w'.heap.size w' w'' → L w'' h) (L0 : ∀ w' h, L w' h → h < w'.heap.size ∧ w'.cell? ⟨h, q, none⟩ = some (.int .i64 x))
    (kc : ∀ w', Below w.heap.size w w' → CalcN 35 #[.slice (some ⟨b, off, none⟩) n c] w' (.int .i64 0))
    (ks : ∀ w', Below w.heap.size w w' → Calls Try.prog 36 #[.slice (some ⟨b, off, none⟩) n c] w' fun e w'' => ∃ h cap, e = .returned (.slice (some ⟨h, 0, none⟩) n cap) ∧ L w'' h ∧ w'.heap.size ≤ h ∧ n ≤ cap ∧ Below w'.heap.size w' w'')
    (kr : ∀ w', Calls Try.prog 29 #[.int .i64 n, .int .i64 p] w' fun e w'' => e = .returned (.int .i64 ((q : Int) + 1)) ∧ Below w'.heap.size w' w'')
    (ku : ∀ g c2 w', L w' g → Calls Try.prog 37 #[.slice (some ⟨g, 0, none⟩) (q + 1) c2] w' fun e w'' => e = .returned (.agg #[.int .i64 s1, .int .u64 s0]) ∧ Below w'.heap.size w' w'')
    (km : ∀ w', Calls Try.prog 38 #[.agg #[.int .i64 s1, .int .u64 s0], .int .i64 ((q : Int) + 1)] w' fun e w'' => e = .returned (.int .i64 m) ∧ Below w'.heap.size w' w'') :
    Calls Try.prog 20 #[.slice (some ⟨b, off, none⟩) n c, .int .i64 p] w fun e w' => e = .returned (.tuple #[.agg #[.int .i64 ((q : Int) + 1), .int .i64 s1, .int .u64 s0, .int .i64 m, .int .i64 x], .int .i64 0]) ∧ Below w.heap.size w w' := by
  have KS := hide ks
  have KU := hide ku
  have HL := hide LL
  have HC := hide L0
  have g1 : ¬ 100000000 < p := by omega
  have g2 : ¬ p < -100000000 := by omega
  have g3 : (p == 0) = false := by simp; omega
  have g4 : 0 < n := by omega
  have g5 : ((n : Int) == 0) = false := by simp; omega
  have g6 : (0 : Int) < (n : Int) := by omega
  have hqn : q + 1 ≤ n := by omega
  have gp : decide (0 < p) = true := decide_eq_true p0
  have DD := hide hd
  clear ku LL L0 hd
  go_enter Try.func20, Try.ntmps20
  go_wp2_with fail
  refine (kc _ (by go_grown)).mono ?_
  rintro e w1 ⟨rfl, rfl⟩
  clear kc
  clear ks
  go_wp2_with fail
  refine (KS.out _ (by go_grown)).mono ?_
  clear KS
  rintro e w2 ⟨h, cap, rfl, H, hh, hc, hb⟩
  have R1 := (Box5.made (w := w)).later hb
  have B1 : Below w.heap.size w w2 := Below.trans (by go_grown) (hb.mono (by simp))
  have nh : h ≠ w.heap.size := by have := hh; simp at this; omega
  clear hb
  have HH1 := hide H
  clear H
  go_wp2_with fail
  refine (kr _).mono ?_
  clear kr
  rintro e w2b ⟨rfl, hr⟩
  have R2 := R1.later hr
  have B2 := B1.trans (hr.mono B1.size)
  have HH := hide (HL.out _ _ _ HH1.out hr)
  clear hr R1 B1 HH1
  have sl : ∀ v, (Instr.slice 29 (.slice (some ⟨h, 0, none⟩) n cap) none (some (.int .i64 ((q : Int) + 1))) none).run Try.prog v = .ok (.slice (some ⟨h, 0, none⟩) (q + 1) cap) v := fun v => by
    have := ints_upto (some ⟨h, 0, none⟩) n cap (q + 1) (by omega) hc v
    rw [show ((q + 1 : Nat) : Int) = (q : Int) + 1 by omega] at this
    exact this
  obtain ⟨hw4, l0⟩ := HC.out _ _ HH.out
  go_wp2_with fail
  clear sl l0 hw4
  refine (KU.out h cap w2b HH.out).mono ?_
  clear KU
  rintro e w3 ⟨rfl, h3⟩
  have B3 := B2.trans (h3.mono B2.size)
  have y3 := h3.size
  go_wp2_with fail
  refine abs_wp (fun W => W.cell? ⟨w3.heap.size, 0, none⟩ = some (.int .i64 s1) ∧ W.cell? ⟨w3.heap.size, 1, none⟩ = some (.int .u64 s0) ∧ w3.heap.size < W.heap.size ∧ Below w3.heap.size w3 W) ?_ ?_
  · exact ⟨by simp [go_sem], by simp [go_sem], by simp, by go_grown⟩
  rintro W ⟨c0, c1, zW, hW⟩
  have BW := hide (B3.trans (hW.mono B3.size))
  have RB := hide (R2.later (h3.trans (hW.mono h3.size)))
  have nz1 : w3.heap.size ≠ w.heap.size := by have := R2.lt; have := h3.size; omega
  have X0 := KeepX.start (r := w.heap.size) (W := W)
  have X1 := X0.drew
  have K0 := Keeps.start (Nat.le_refl W.heap.size)
  have K1 := K0.drew
  clear hW h3 B3 B2 R2 HH y3
  go_region_held3 (fun w' => w'.cell? ⟨w3.heap.size, 0, none⟩ = some (.int .i64 s1) ∧ w'.cell? ⟨w3.heap.size, 1, none⟩ = some (.int .u64 s0) ∧ KeepX W.heap.size w.heap.size W w')
    ((refine (fun K => ⟨(KeepX.cell K _ _ zW nz1).trans c0, (KeepX.cell K _ _ zW nz1).trans c1, K⟩) (?_ : KeepX W.heap.size w.heap.size W _); (repeat (first | with_reducible assumption | with_reducible refine KeepX.setR ?_ _ _ | with_reducible refine KeepX.alloc ?_ _ | with_reducible refine KeepX.drew ?_))))
    (first
    | (go_at_call 38; (with_reducible refine (km _).mono ?_); rintro e v20 ⟨rfl, hb20⟩; have X20 := KeepX.call (B := W.heap.size) (r := w.heap.size) (W := W) (by repeat (first | with_reducible assumption | with_reducible refine KeepX.setR ?_ _ _ | with_reducible refine KeepX.alloc ?_ _ | with_reducible refine KeepX.drew ?_)) hb20; have K20 := Keeps.call (B := W.heap.size) (W := W) (by repeat (first | with_reducible assumption | with_reducible refine Keeps.alloc ?_ _ | with_reducible refine Keeps.drew ?_)) hb20; obtain ⟨rr0, rr1, rr2, rr3, rr4, gg0, gg1, gg2, gg3, gg4, zz⟩ := RB.out.later (Keeps.below K20)))
  all_goals
    go_wp2_with fail
    refine bodyPost_ret (by simp [results, Try.results20, go_sem, *]; try rfl) rfl ?_
    refine ⟨rfl, ?_⟩
    have b20 := BW.out.trans (K20.below.mono BW.out.size)
    repeat (first | with_reducible assumption | with_reducible refine below_setR ?_ _ _ | with_reducible refine Below.drew ?_)
set_option maxRecDepth 100000 in
set_option maxHeartbeats 8000000 in
theorem upto_neg (b off c n q d : Nat) (p x s1 s0 m : Int) (w : World) (hn : n ≤ 17592186044416) (hd : n = d + (q + 1)) (lt : b < w.heap.size) (L : World → Nat → Prop) (p0 : p < 0) (p1 : -100000000 ≤ p)
    (LL : ∀ w' h w'', L w' h → Below w'.heap.size w' w'' → L w'' h) (L0 : ∀ w' h, L w' h → h < w'.heap.size ∧ w'.cell? ⟨h, d, none⟩ = some (.int .i64 x))
    (kc : ∀ w', Below w.heap.size w w' → CalcN 35 #[.slice (some ⟨b, off, none⟩) n c] w' (.int .i64 0))
    (ks : ∀ w', Below w.heap.size w w' → Calls Try.prog 36 #[.slice (some ⟨b, off, none⟩) n c] w' fun e w'' => ∃ h cap, e = .returned (.slice (some ⟨h, 0, none⟩) n cap) ∧ L w'' h ∧ w'.heap.size ≤ h ∧ n ≤ cap ∧ Below w'.heap.size w' w'')
    (kr : ∀ w', Calls Try.prog 29 #[.int .i64 n, .int .i64 (-p)] w' fun e w'' => e = .returned (.int .i64 ((q : Int) + 1)) ∧ Below w'.heap.size w' w'')
    (ku : ∀ g c2 w', L w' g → Calls Try.prog 37 #[.slice (some ⟨g, d, none⟩) (q + 1) c2] w' fun e w'' => e = .returned (.agg #[.int .i64 s1, .int .u64 s0]) ∧ Below w'.heap.size w' w'')
    (km : ∀ w', Calls Try.prog 38 #[.agg #[.int .i64 s1, .int .u64 s0], .int .i64 ((q : Int) + 1)] w' fun e w'' => e = .returned (.int .i64 m) ∧ Below w'.heap.size w' w'') :
    Calls Try.prog 20 #[.slice (some ⟨b, off, none⟩) n c, .int .i64 p] w fun e w' => e = .returned (.tuple #[.agg #[.int .i64 ((q : Int) + 1), .int .i64 s1, .int .u64 s0, .int .i64 m, .int .i64 x], .int .i64 0]) ∧ Below w.heap.size w w' := by
  have KS := hide ks
  have KU := hide ku
  have HL := hide LL
  have HC := hide L0
  have g1 : ¬ 100000000 < p := by omega
  have g2 : ¬ p < -100000000 := by omega
  have g3 : (p == 0) = false := by simp; omega
  have g4 : 0 < n := by omega
  have g5 : ((n : Int) == 0) = false := by simp; omega
  have g6 : (0 : Int) < (n : Int) := by omega
  have gp : decide (0 < p) = false := decide_eq_false (by omega)
  have gw : IntKind.i64.wrap (-p) = -p := by rw [IntKind.wrap_i64]; omega
  have gd : IntKind.i64.wrap ((n : Int) - ((q : Int) + 1)) = (d : Int) := by rw [IntKind.wrap_i64]; omega
  have gd2 : (n : Int) - ((q : Int) + 1) = (d : Int) := by omega
  have DD := hide hd
  clear ku LL L0 hd
  go_enter Try.func20, Try.ntmps20
  go_wp2_with fail
  refine (kc _ (by go_grown)).mono ?_
  rintro e w1 ⟨rfl, rfl⟩
  clear kc
  clear ks
  go_wp2_with fail
  refine (KS.out _ (by go_grown)).mono ?_
  clear KS
  rintro e w2 ⟨h, cap, rfl, H, hh, hc, hb⟩
  have R1 := (Box5.made (w := w)).later hb
  have B1 : Below w.heap.size w w2 := Below.trans (by go_grown) (hb.mono (by simp))
  have nh : h ≠ w.heap.size := by have := hh; simp at this; omega
  clear hb
  have HH1 := hide H
  clear H
  go_wp2_with fail
  refine (kr _).mono ?_
  clear kr
  rintro e w2b ⟨rfl, hr⟩
  have R2 := R1.later hr
  have B2 := B1.trans (hr.mono B1.size)
  have HH := hide (HL.out _ _ _ HH1.out hr)
  clear hr R1 B1 HH1
  have sl : ∀ v, (Instr.slice 29 (.slice (some ⟨h, 0, none⟩) n cap) (some (.int .i64 (d : Int))) none none).run Try.prog v = .ok (.slice (some ⟨h, d, none⟩) (q + 1) (cap - d)) v := fun v => by
    have e := DD.out
    have := ints_from h n cap d (by omega) hc (by omega) v
    rw [show n - d = q + 1 by omega] at this
    exact this
  obtain ⟨hw4, l0⟩ := HC.out _ _ HH.out
  go_wp2_with fail
  clear sl l0 hw4
  refine (KU.out h (cap - d) w2b HH.out).mono ?_
  clear KU
  rintro e w3 ⟨rfl, h3⟩
  have B3 := B2.trans (h3.mono B2.size)
  have y3 := h3.size
  go_wp2_with fail
  refine abs_wp (fun W => W.cell? ⟨w3.heap.size, 0, none⟩ = some (.int .i64 s1) ∧ W.cell? ⟨w3.heap.size, 1, none⟩ = some (.int .u64 s0) ∧ w3.heap.size < W.heap.size ∧ Below w3.heap.size w3 W) ?_ ?_
  · exact ⟨by simp [go_sem], by simp [go_sem], by simp, by go_grown⟩
  rintro W ⟨c0, c1, zW, hW⟩
  have BW := hide (B3.trans (hW.mono B3.size))
  have RB := hide (R2.later (h3.trans (hW.mono h3.size)))
  have nz1 : w3.heap.size ≠ w.heap.size := by have := R2.lt; have := h3.size; omega
  have X0 := KeepX.start (r := w.heap.size) (W := W)
  have X1 := X0.drew
  have K0 := Keeps.start (Nat.le_refl W.heap.size)
  have K1 := K0.drew
  clear hW h3 B3 B2 R2 HH y3
  go_region_held3 (fun w' => w'.cell? ⟨w3.heap.size, 0, none⟩ = some (.int .i64 s1) ∧ w'.cell? ⟨w3.heap.size, 1, none⟩ = some (.int .u64 s0) ∧ KeepX W.heap.size w.heap.size W w')
    ((refine (fun K => ⟨(KeepX.cell K _ _ zW nz1).trans c0, (KeepX.cell K _ _ zW nz1).trans c1, K⟩) (?_ : KeepX W.heap.size w.heap.size W _); (repeat (first | with_reducible assumption | with_reducible refine KeepX.setR ?_ _ _ | with_reducible refine KeepX.alloc ?_ _ | with_reducible refine KeepX.drew ?_))))
    (first
    | (go_at_call 38; (with_reducible refine (km _).mono ?_); rintro e v20 ⟨rfl, hb20⟩; have X20 := KeepX.call (B := W.heap.size) (r := w.heap.size) (W := W) (by repeat (first | with_reducible assumption | with_reducible refine KeepX.setR ?_ _ _ | with_reducible refine KeepX.alloc ?_ _ | with_reducible refine KeepX.drew ?_)) hb20; have K20 := Keeps.call (B := W.heap.size) (W := W) (by repeat (first | with_reducible assumption | with_reducible refine Keeps.alloc ?_ _ | with_reducible refine Keeps.drew ?_)) hb20; obtain ⟨rr0, rr1, rr2, rr3, rr4, gg0, gg1, gg2, gg3, gg4, zz⟩ := RB.out.later (Keeps.below K20)))
  all_goals
    go_wp2_with fail
    refine bodyPost_ret (by simp [results, Try.results20, go_sem, *]; try rfl) rfl ?_
    refine ⟨rfl, ?_⟩
    have b20 := BW.out.trans (K20.below.mono BW.out.size)
    repeat (first | with_reducible assumption | with_reducible refine below_setR ?_ _ _ | with_reducible refine Below.drew ?_)
end Go.Proofs.Ytebiddmadmmfpaa
/- timer: Upto, whole. -/
namespace Go.Proofs.Ytebiddmadmmfpaa
set_option linter.unusedVariables false
set_option linter.unusedSimpArgs false
open Go.RowKit W T9
/-- What Upto says: its error, how many, which, the edge. -/
def uptoE (xs : List Int) (p : Int) : Int := if fineB xs then (if p = 0 ∨ 100000000 < p ∨ p < -100000000 then 91 else if xs.length = 0 then 90 else 0) else 93
def upP (p : Int) : Int := if 0 < p then p else -p
def upR (xs : List Int) (p : Int) : Nat := (rnk xs.length (upP p)).toNat
def upPart (xs : List Int) (p : Int) : List Int := if 0 < p then (srt xs).take (upR xs p) else (srt xs).drop (xs.length - upR xs p)
def upEdge (xs : List Int) (p : Int) : Int := if 0 < p then (srt xs).getD (upR xs p - 1) 0 else (srt xs).getD (xs.length - upR xs p) 0
abbrev zeroSh : Value := .agg #[.int .i64 0, .int .i64 0, .int .u64 0, .int .i64 0, .int .i64 0]
abbrev shareV (n s m e : Int) : Value := .agg #[.int .i64 n, .int .i64 (hi s), .int .u64 (lo s), .int .i64 m, .int .i64 e]
def uptoN (xs : List Int) (p : Int) : Int := if uptoE xs p = 0 then (upR xs p : Int) else 0
def uptoS (xs : List Int) (p : Int) : Int := if uptoE xs p = 0 then (upPart xs p).sum else 0
def uptoM (xs : List Int) (p : Int) : Int := if uptoE xs p = 0 then (upPart xs p).sum / (upR xs p : Int) else 0
def uptoG (xs : List Int) (p : Int) : Int := if uptoE xs p = 0 then upEdge xs p else 0
abbrev uptoV (xs : List Int) (p : Int) : Value := shareV (uptoN xs p) (uptoS xs p) (uptoM xs p) (uptoG xs p)
theorem hi_0 : hi 0 = 0 := by unfold hi; omega
theorem lo_0 : lo 0 = 0 := by unfold lo; omega
theorem uptoV_bad {xs : List Int} {p : Int} (h : uptoE xs p ≠ 0) : uptoV xs p = zeroSh := by
  unfold uptoV shareV uptoN uptoS uptoM uptoG
  simp only [if_neg h, hi_0, lo_0]
theorem uptoV_good {xs : List Int} {p : Int} (h : uptoE xs p = 0) : uptoV xs p = shareV (upR xs p) (upPart xs p).sum ((upPart xs p).sum / (upR xs p : Int)) (upEdge xs p) := by
  unfold uptoV shareV uptoN uptoS uptoM uptoG
  simp only [if_pos h]
structure UpOk (xs : List Int) (p : Int) : Prop where
  fine : fineB xs = true
  p0 : p ≠ 0
  p1 : p ≤ 100000000
  p2 : -100000000 ≤ p
  l0 : 0 < xs.length
theorem upOk_of {xs : List Int} {p : Int} (h : uptoE xs p = 0) : UpOk xs p := by
  unfold uptoE at h
  split at h
  · split at h
    · omega
    · split at h
      · omega
      · rename_i a b c; exact ⟨a, by omega, by omega, by omega, by omega⟩
  · omega
theorem UpOk.rank {xs : List Int} {p : Int} (h : UpOk xs p) : 1 ≤ upR xs p ∧ upR xs p ≤ xs.length ∧ (upR xs p : Int) = rnk xs.length (upP p) ∧ 1 ≤ upP p ∧ upP p ≤ 100000000 := by
  have a1 := h.p0; have a2 := h.p1; have a3 := h.p2; have a4 := h.l0
  have b : 1 ≤ upP p ∧ upP p ≤ 100000000 := by unfold upP; split <;> omega
  have k := rnk_le (n := (xs.length : Int)) (p := upP p) (by omega) b.1 b.2
  unfold upR; omega
theorem UpOk.partLen {xs : List Int} {p : Int} (h : UpOk xs p) : (upPart xs p).length = upR xs p := by
  have r := h.rank
  have l := srt_len xs
  unfold upPart; split
  · rw [List.length_take]; omega
  · rw [List.length_drop]; omega
theorem fine_sub {xs ys : List Int} (h : fineB ys = true) (s : ∀ x ∈ xs, x ∈ ys) : fineB xs = true := List.all_eq_true.2 fun x hx => List.all_eq_true.1 h x (s x hx)
theorem UpOk.partFine {xs : List Int} {p : Int} (h : UpOk xs p) : fineB (upPart xs p) = true := by
  refine fine_sub (fine_srt h.fine) fun x hx => ?_
  unfold upPart at hx; split at hx
  · exact List.mem_of_mem_take hx
  · exact List.mem_of_mem_drop hx
theorem lie_take {k : IntKind} {w : World} {g o : Nat} {xs : List Int} (h : LieI k w g o xs) (n : Nat) : LieI k w g o (xs.take n) :=
  ⟨fun j hj => by rw [List.length_take] at hj; rw [h.cell j (by omega), List.getElem_take], h.lt⟩
theorem lie_drop {k : IntKind} {w : World} {g o : Nat} {xs : List Int} (h : LieI k w g o xs) (n : Nat) : LieI k w g (o + n) (xs.drop n) :=
  ⟨fun j hj => by rw [List.length_drop] at hj; rw [Nat.add_assoc, h.cell (n + j) (by omega), List.getElem_drop], h.lt⟩
theorem upto_ok (b off c : Nat) (xs : List Int) (p : Int) (w : World) (hx : LieI .i64 w b off xs) (hl : xs.length ≤ 17592186044416) (h : UpOk xs p) :
    Calls Try.prog 20 #[.slice (some ⟨b, off, none⟩) xs.length c, .int .i64 p] w fun e w' => e = .returned (.tuple #[shareV (upR xs p) (upPart xs p).sum ((upPart xs p).sum / (upR xs p : Int)) (upEdge xs p), .int .i64 0]) ∧ Below w.heap.size w w' := by
  obtain ⟨r1, r2, r3, r4, r5⟩ := h.rank
  have pl := h.partLen
  have pf := h.partFine
  have sl := srt_len xs
  obtain ⟨q, hq⟩ : ∃ q, upR xs p = q + 1 := ⟨upR xs p - 1, by omega⟩
  have e1 : (upR xs p : Int) = (q : Int) + 1 := by omega
  have ml := mean_le pf (by omega)
  rw [pl] at ml
  have km := fun w' => mean_spec (upPart xs p).sum (q + 1) w' ml.1 (by rw [← hq]; exact ml.2.1) (by omega) (by omega)
  have e2 : ((q + 1 : Nat) : Int) = (q : Int) + 1 := by omega
  rw [e2] at km
  have kr := fun w' => rank_spec xs.length (upP p) w' (by have := h.l0; omega) (by omega) r4 r5
  rw [← r3, e1] at kr
  have kc := fun w' (K : Below w.heap.size w w') => check_spec (some ⟨b, off, none⟩) c xs w' (.inr ⟨b, off, rfl, hx.later K⟩) (by omega)
  rw [h.fine, show okE true 93 = 0 from rfl] at kc
  have ks := fun w' (K : Below w.heap.size w w') => sorted_spec b off c xs w' (hx.later K) h.l0 hl
  unfold SortedPost at ks
  rw [e1]
  by_cases p0 : 0 < p
  · have ep : upP p = p := if_pos p0
    have epa : upPart xs p = (srt xs).take (q + 1) := by unfold upPart; rw [if_pos p0, hq]
    have lq : q < (srt xs).length := by omega
    have ee : upEdge xs p = (srt xs)[q] := by unfold upEdge; rw [if_pos p0, hq, Nat.add_sub_cancel]; exact at_getD lq
    rw [ee]
    rw [ep] at kr
    exact Go.Proofs.Ytebiddmadmmfpaa.upto_pos b off c xs.length q (xs.length - (q + 1)) p _ _ _ _ w hl (by omega) hx.lt (fun w' h => LieI .i64 w' h 0 (srt xs)) p0 h.p1
      (fun w' g w'' H K => H.later K) (fun w' g H => ⟨H.lt, by have := H.cell q lq; simpa using this⟩) kc ks kr
      (fun g c2 w' H => by
        have k := sum_spec9 (some ⟨g, 0, none⟩) c2 (upPart xs p) w' (.inr ⟨g, 0, rfl, by rw [epa]; exact lie_take H _⟩) (by omega) pf
        rw [pl, hq] at k
        exact k) km
  · have p9 : p < 0 := by have := h.p0; omega
    have ep : upP p = -p := if_neg p0
    have epa : upPart xs p = (srt xs).drop (xs.length - (q + 1)) := by unfold upPart; rw [if_neg p0, hq]
    have lq : xs.length - (q + 1) < (srt xs).length := by omega
    have ee : upEdge xs p = (srt xs)[xs.length - (q + 1)] := by unfold upEdge; rw [if_neg p0, hq]; exact at_getD lq
    rw [ee]
    rw [ep] at kr
    exact Go.Proofs.Ytebiddmadmmfpaa.upto_neg b off c xs.length q (xs.length - (q + 1)) p _ _ _ _ w hl (by omega) hx.lt (fun w' h => LieI .i64 w' h 0 (srt xs)) p9 h.p2
      (fun w' g w'' H K => H.later K) (fun w' g H => ⟨H.lt, by have := H.cell _ lq; simpa using this⟩) kc ks kr
      (fun g c2 w' H => by
        have k := sum_spec9 (some ⟨g, xs.length - (q + 1), none⟩) c2 (upPart xs p) w' (.inr ⟨g, _, rfl, by rw [epa]; have := lie_drop H (xs.length - (q + 1)); rwa [Nat.zero_add] at this⟩) (by omega) pf
        rw [pl, hq] at k
        exact k) km
set_option maxRecDepth 100000 in
set_option maxHeartbeats 8000000 in
theorem upto_no (a : Option Addr) (c n : Nat) (p E V : Int) (w : World) (hl : n ≤ 140737488355328)
    (kc : ∀ w', Below w.heap.size w w' → CalcN 35 #[.slice a n c] w' (.int .i64 V)) (hV : V = 93 ∧ E = 93 ∨ V = 0 ∧ E = 91 ∧ (p = 0 ∨ 100000000 < p ∨ p < -100000000) ∨ V = 0 ∧ E = 90 ∧ n = 0 ∧ p ≠ 0 ∧ p ≤ 100000000 ∧ -100000000 ≤ p) :
    Calls Try.prog 20 #[.slice a n c, .int .i64 p] w fun e w' => e = .returned (.tuple #[zeroSh, .int .i64 E]) ∧ Below w.heap.size w w' := by
  rcases hV with ⟨rfl, rfl⟩ | ⟨rfl, rfl, h⟩ | ⟨rfl, rfl, rfl, h1, h2, h3⟩
  · go_enter Try.func20, Try.ntmps20
    go_wp2_with fail
    refine (kc _ (by go_grown)).mono ?_
    rintro e w1 ⟨rfl, rfl⟩
    clear kc
    go_wp2_with fail
    refine bodyPost_ret (by simp [results, Try.results20, go_sem]; try rfl) rfl ?_
    exact ⟨rfl, by go_grown⟩
  · rcases h with h | h | h
    · subst h
      go_enter Try.func20, Try.ntmps20
      go_wp2_with fail
      refine (kc _ (by go_grown)).mono ?_
      rintro e w1 ⟨rfl, rfl⟩
      clear kc
      go_wp2_with fail
      refine bodyPost_ret (by simp [results, Try.results20, go_sem]; try rfl) rfl ?_
      exact ⟨rfl, by go_grown⟩
    · have g3 : (p == 0) = false := by simp; omega
      go_enter Try.func20, Try.ntmps20
      go_wp2_with fail
      refine (kc _ (by go_grown)).mono ?_
      rintro e w1 ⟨rfl, rfl⟩
      clear kc
      go_wp2_with fail
      refine bodyPost_ret (by simp [results, Try.results20, go_sem]; try rfl) rfl ?_
      exact ⟨rfl, by go_grown⟩
    · have g3 : (p == 0) = false := by simp; omega
      have g1 : ¬ 100000000 < p := by omega
      go_enter Try.func20, Try.ntmps20
      go_wp2_with fail
      refine (kc _ (by go_grown)).mono ?_
      rintro e w1 ⟨rfl, rfl⟩
      clear kc
      go_wp2_with fail
      refine bodyPost_ret (by simp [results, Try.results20, go_sem]; try rfl) rfl ?_
      exact ⟨rfl, by go_grown⟩
  · have g3 : (p == 0) = false := by simpa using h1
    have g1 : ¬ 100000000 < p := by omega
    have g2 : ¬ p < -100000000 := by omega
    clear h1
    go_enter Try.func20, Try.ntmps20
    go_wp2_with fail
    refine (kc _ (by go_grown)).mono ?_
    rintro e w1 ⟨rfl, rfl⟩
    clear kc
    go_wp2_with fail
    refine bodyPost_ret (by simp [results, Try.results20, go_sem]; try rfl) rfl ?_
    exact ⟨rfl, by go_grown⟩
theorem upto_spec (a : Option Addr) (c : Nat) (xs : List Int) (p : Int) (w : World) (hx : IsInts .i64 w a xs) (hl : xs.length ≤ 17592186044416) :
    Calls Try.prog 20 #[.slice a xs.length c, .int .i64 p] w fun e w' => e = .returned (.tuple #[uptoV xs p, .int .i64 (uptoE xs p)]) ∧ Below w.heap.size w w' := by
  by_cases z : uptoE xs p = 0
  · have h := upOk_of z
    rw [uptoV_good z, z]
    have l0 := h.l0
    obtain ⟨g, o, rfl, la⟩ := hx.resolve_left (fun e => by rw [e] at l0; simp at l0)
    exact upto_ok g o c xs p w la hl h
  · rw [uptoV_bad z]
    refine upto_no a c xs.length p (uptoE xs p) (okE (fineB xs) 93) w (by omega) (fun w' K => check_spec a c xs w' (hx.later K) (by omega)) ?_
    unfold uptoE at *
    rcases hf : fineB xs with _ | _
    · exact .inl ⟨rfl, rfl⟩
    · simp only [hf, if_true] at *
      by_cases h : p = 0 ∨ 100000000 < p ∨ p < -100000000
      · exact .inr (.inl ⟨rfl, if_pos h, h⟩)
      · rw [if_neg h] at z ⊢
        by_cases n : xs.length = 0
        · exact .inr (.inr ⟨rfl, if_pos n, n, by omega, by omega, by omega⟩)
        · rw [if_neg n] at z; exact absurd rfl z
end Go.Proofs.Ytebiddmadmmfpaa
/- timer: bounds, bins: the plain mathematics; a row of counters of one's own. -/
namespace Go.Proofs.Ytebiddmadmmfpaa
set_option linter.unusedVariables false
set_option linter.unusedSimpArgs false
open Go.RowKit W T9
/-- May they be bounds? -/
def upB (bs : List Int) : Bool := decide (1 ≤ bs.length ∧ bs.length ≤ 32) && (bs.all (fun x => decide (0 ≤ x)) && decide (bs.Pairwise (· < ·)))
theorem up_iff (bs : List Int) : upB bs = true ↔ (1 ≤ bs.length ∧ bs.length ≤ 32) ∧ (∀ x ∈ bs, 0 ≤ x) ∧ bs.Pairwise (· < ·) := by
  simp [upB]
theorem pair_of {bs : List Int} (h : ∀ (j : Nat) (h : j + 1 < bs.length), bs[j] < bs[j + 1]) : bs.Pairwise (· < ·) := by
  rw [List.pairwise_iff_getElem]
  have aux : ∀ d i (h1 : i + d + 1 < bs.length), bs[i] < bs[i + d + 1] := by
    intro d
    induction d with
    | zero => intro i h1; exact h i h1
    | succ d ih =>
      intro i h1
      have a := ih i (by omega)
      have b := h (i + d + 1) (by omega)
      have e : i + (d + 1) + 1 = i + d + 1 + 1 := by omega
      simp only [e]
      omega
  intro i j hi hj lt
  obtain ⟨d, rfl⟩ : ∃ d, j = i + d + 1 := ⟨j - i - 1, by omega⟩
  exact aux d i hj
theorem up_of {bs : List Int} (h1 : 1 ≤ bs.length) (h2 : bs.length ≤ 32) (h3 : ∀ x : Int, bs[0]? = some x → 0 ≤ x) (h4 : ∀ (j : Nat) (h : j + 1 < bs.length), bs[j] < bs[j + 1]) : upB bs = true := by
  have p := pair_of h4
  refine (up_iff bs).2 ⟨⟨h1, h2⟩, fun x hx => ?_, p⟩
  obtain ⟨j, hj, rfl⟩ := List.getElem_of_mem hx
  have z := h3 bs[0] (by rw [List.getElem?_eq_getElem])
  rcases Nat.eq_zero_or_pos j with rfl | q
  · exact z
  · have := List.pairwise_iff_getElem.1 p 0 j (by omega) hj q; omega
theorem up_no {bs : List Int} (h : ¬ ((1 ≤ bs.length ∧ bs.length ≤ 32) ∧ (∀ x ∈ bs, 0 ≤ x) ∧ bs.Pairwise (· < ·))) : upB bs = false := by
  rcases q : upB bs with _ | _
  · rfl
  · exact absurd ((up_iff bs).1 q) h
theorem up_fall {bs : List Int} {j : Nat} (h : j + 1 < bs.length) (n : ¬ bs[j] < bs[j + 1]) : upB bs = false :=
  up_no fun ⟨_, _, p⟩ => n (List.pairwise_iff_getElem.1 p j (j + 1) (by omega) h (by omega))
theorem up_neg {bs : List Int} {j : Nat} (h : j < bs.length) (n : bs[j] < 0) : upB bs = false :=
  up_no fun ⟨_, p, _⟩ => by have := p bs[j] (List.getElem_mem h); omega
theorem up_pair {bs : List Int} (h : upB bs = true) : bs.Pairwise (· < ·) := ((up_iff bs).1 h).2.2
theorem takeWhile_all {p : Int → Bool} : ∀ {l : List Int}, (∀ x ∈ l, p x = true) → l.takeWhile p = l
  | [], _ => rfl
  | y :: r, h => by rw [List.takeWhile_cons, h y (by simp), takeWhile_all fun x hx => h x (by simp [hx])]; rfl
/-- The bin of a sample. -/
def binK (bs : List Int) (v : Int) : Nat := (bs.takeWhile fun b => decide (b ≤ v)).length
theorem binK_le (bs : List Int) (v : Int) : binK bs v ≤ bs.length := (List.takeWhile_prefix _).length_le
theorem binK_take {bs : List Int} {i : Nat} (h : i < bs.length) (p : bs.Pairwise (· < ·)) (v : Int) : binK (bs.take (i + 1)) v = if bs[i] ≤ v then i + 1 else binK (bs.take i) v := by
  have e : bs.take (i + 1) = bs.take i ++ [bs[i]] := List.take_succ_eq_append_getElem h
  have li : (bs.take i).length = i := by rw [List.length_take]; omega
  unfold binK
  rw [e, List.takeWhile_append]
  by_cases t : bs[i] ≤ v
  · have all : (bs.take i).takeWhile (fun b => decide (b ≤ v)) = bs.take i := by
      refine takeWhile_all fun x hx => ?_
      obtain ⟨j, hj, rfl⟩ := List.getElem_of_mem hx
      rw [li] at hj
      have := List.pairwise_iff_getElem.1 p j i (by omega) h hj
      rw [List.getElem_take]
      simp only [decide_eq_true_eq]; omega
    rw [all, if_pos rfl, if_pos t, List.length_append, li]
    simp [List.takeWhile_cons, t]
  · rw [if_neg t]
    split
    · rename_i q
      have q2 : (bs.take i).takeWhile (fun b => decide (b ≤ v)) = bs.take i := (List.takeWhile_prefix _).eq_of_length q
      rw [q2]
      simp [List.takeWhile_cons, t]
    · rfl
theorem binK_at {bs : List Int} {k : Nat} {v : Int} (h : k ≤ bs.length) (a : ∀ (j : Nat) (h : j < bs.length), j < k → bs[j] ≤ v) (b : ∀ (h : k < bs.length), ¬ bs[k] ≤ v) : binK bs v = k := by
  unfold binK
  have e : bs = bs.take k ++ bs.drop k := (List.take_append_drop k bs).symm
  have li : (bs.take k).length = k := by rw [List.length_take]; omega
  have all : (bs.take k).takeWhile (fun b => decide (b ≤ v)) = bs.take k := by
    refine takeWhile_all fun x hx => ?_
    obtain ⟨j, hj, rfl⟩ := List.getElem_of_mem hx
    rw [li] at hj
    rw [List.getElem_take]
    simpa using a j (by omega) hj
  have none_ : (bs.drop k).takeWhile (fun b => decide (b ≤ v)) = [] := by
    by_cases q : k < bs.length
    · rw [List.drop_eq_getElem_cons q, List.takeWhile_cons]
      have := b q
      simp [this]
    · rw [List.drop_eq_nil_of_le (by omega)]; rfl
  rw [e, List.takeWhile_append, all, if_pos rfl, none_]
  simp; omega
/-- The counters. -/
def cnt1 (bs : List Int) (c : List Int) (v : Int) : List Int := c.set (binK bs v) (c.getD (binK bs v) 0 + 1)
def cntF (bs xs : List Int) : List Int := xs.foldl (cnt1 bs) (List.replicate (bs.length + 1) 0)
theorem cntF_take {bs xs : List Int} {k : Nat} (h : k < xs.length) : cntF bs (xs.take (k + 1)) = cnt1 bs (cntF bs (xs.take k)) xs[k] := by
  unfold cntF; rw [List.take_succ_eq_append_getElem h, List.foldl_append]; rfl
theorem cntF_len (bs xs : List Int) : (cntF bs xs).length = bs.length + 1 := by
  unfold cntF
  have aux : ∀ (ys c : List Int), (ys.foldl (cnt1 bs) c).length = c.length := by
    intro ys
    induction ys with
    | nil => intro c; rfl
    | cons y r ih => intro c; rw [List.foldl_cons, ih]; simp [cnt1]
  rw [aux]; simp
theorem cntF_bound (bs xs : List Int) : ∀ k, ∀ x ∈ cntF bs (xs.take k), 0 ≤ x ∧ x ≤ k := by
  intro k
  induction k with
  | zero => intro x hx; simp only [List.take_zero, cntF, List.foldl_nil] at hx; have := List.eq_of_mem_replicate hx; omega
  | succ k ih =>
    by_cases h : k < xs.length
    · rw [cntF_take h]
      intro x hx
      unfold cnt1 at hx
      rcases List.mem_or_eq_of_mem_set hx with q | q
      · have := ih x q; omega
      · have hb : (cntF bs (xs.take k)).length = bs.length + 1 := cntF_len _ _
        have lt : binK bs xs[k] < (cntF bs (xs.take k)).length := by rw [hb]; have := binK_le bs xs[k]; omega
        have := ih _ (List.getElem_mem lt)
        rw [List.getD_eq_getElem?_getD, List.getElem?_eq_getElem lt] at q
        simp only [Option.getD_some] at q
        omega
    · rw [List.take_of_length_le (by omega)]
      rw [List.take_of_length_le (by omega)] at ih
      intro x hx; have := ih x hx; omega
def binL (bs xs : List Int) : List Int := if fineB xs then if upB bs then cntF bs xs else [] else []
def binE (bs xs : List Int) : Int := if fineB xs then if upB bs then 0 else 92 else 93
/-- A row of counters of one's own. -/
structure Cnt (w wr : World) (L : List Int) : Prop where
  own : wr.ownsRow w.heap.size 3 1 (.slice (some ⟨w.heap.size, 0, none⟩) L.length L.length) L.length (L.map (Value.int .i64))
  below : Below w.heap.size w wr
theorem Cnt.at_ {w wr : World} {L : List Int} (h : Cnt w wr L) (k : Nat) (hk : k < L.length) : wr.cell? ⟨w.heap.size, k, none⟩ = some (.int .i64 (L.getD k 0)) ∧ wr.frozen? ⟨w.heap.size, k, none⟩ = false := by
  refine ⟨?_, h.own.frozenAt k⟩
  rw [h.own.cellAt k (by omega)]
  simp [List.getElem?_eq_getElem hk, List.getD_eq_getElem?_getD]
theorem Cnt.set {w wr : World} {L : List Int} (h : Cnt w wr L) (k : Nat) (x : Int) (q : Nat) : Cnt w ((wr.drewN q).setCell ⟨w.heap.size, k, none⟩ (.int .i64 x)) (L.set k x) := by
  have h0 : (wr.drewN q).ownsRow w.heap.size 3 1 (.slice (some ⟨w.heap.size, 0, none⟩) L.length L.length) L.length (L.map (Value.int .i64)) := h.own
  have s := h0.stored k (.int .i64 x)
  refine ⟨?_, (below_drewN h.below q).setCell (Nat.le_refl _) _⟩
  rw [List.map_set, List.length_set]; exact s.1
theorem Cnt.lt {w wr : World} {L : List Int} (h : Cnt w wr L) : w.heap.size < wr.heap.size := (h.own.lt w.heap.size rfl).2
theorem Cnt.made (w : World) (n : Nat) (hm : n ≤ maxLen) : Cnt w (w.alloc (.cells (madeCells #[.int .i64 0] n) 3)) (List.replicate n 0) := by
  have := World.ownsRow_lit (size := 1) (e := 3) w (madeCells #[.int .i64 0] n) n (Nat.le_refl _) hm (by rw [size_madeCells]; omega)
  rw [toList_madeCells_one] at this
  exact ⟨by rw [List.map_replicate, List.length_replicate]; exact this, (Below.refl _ _).alloc (Nat.le_refl _) _⟩
theorem Cnt.is {w wr : World} {L : List Int} (h : Cnt w wr L) : IsInts .i64 wr (some ⟨w.heap.size, 0, none⟩) L :=
  .inr ⟨_, 0, rfl, ⟨fun j hj => by rw [Nat.zero_add, (h.at_ j hj).1]; simp [List.getD_eq_getElem?_getD, List.getElem?_eq_getElem hj], h.lt⟩⟩
/-- What Bins answers. -/
def BinsPost (bs xs : List Int) (w : World) (e : Ending) (w' : World) : Prop :=
  ∃ a c, e = .returned (.tuple #[.slice a (binL bs xs).length c, .int .i64 (binE bs xs)]) ∧ IsInts .i64 w' a (binL bs xs) ∧ Below w.heap.size w w'
end Go.Proofs.Ytebiddmadmmfpaa
/- timer: mayBound, Bins. -/
namespace Go.Proofs.Ytebiddmadmmfpaa
set_option linter.unusedVariables false
set_option linter.unusedSimpArgs false
open Go.RowKit W T9
theorem info_int9 : (Try.prog.info? 3).map (fun i => (i.zero, i.size, i.bytes)) = some (some (.int .i64 0), 1, 8) := by kernel_rfl
set_option maxRecDepth 100000 in
set_option maxHeartbeats 4000000 in
theorem may_spec (b : Option Addr) (c : Nat) (bs : List Int) (w : World) (hb : IsInts .i64 w b bs) (hl : bs.length ≤ 140737488355328) :
    Calls Try.prog 48 #[.slice b bs.length c] w fun e w' => e = .returned (.bool (upB bs)) ∧ Below w.heap.size w w' := by
  obtain ⟨R, hR⟩ : ∃ R, R = upB bs := ⟨_, rfl⟩
  rw [← hR]
  obtain ⟨n, hn⟩ : ∃ n, n = bs.length := ⟨_, rfl⟩
  rw [← hn] at hl ⊢
  by_cases z : n = 0
  · have e : R = false := by rw [hR]; exact up_no (by omega)
    subst e z
    clear hR hn hb
    go_enter Try.func48, Try.ntmps48
    go_wp2
    go_returns
    exact ⟨rfl, Below.refl _ _⟩
  by_cases m : 32 < n
  · have e : R = false := by rw [hR]; exact up_no (by omega)
    subst e
    have z1 : ((n : Int) == 0) = false := by simp; omega
    have z2 : 0 < n := by omega
    clear hR hn hb z
    go_enter Try.func48, Try.ntmps48
    go_wp2
    go_returns
    exact ⟨rfl, Below.refl _ _⟩
  obtain ⟨g, o, rfl, la⟩ := hb.resolve_left (fun h => by rw [h] at hn; exact z hn)
  have l0 : 0 < bs.length := by omega
  have c0 := la.cell 0 l0
  rw [Nat.add_zero] at c0
  obtain ⟨x0, hx0⟩ : ∃ x0, x0 = bs[0] := ⟨_, rfl⟩
  rw [← hx0] at c0
  have z1 : ((n : Int) == 0) = false := by simp; omega
  have m1 : decide ((32 : Int) < (n : Int)) = false := decide_eq_false (by omega)
  have z2 : 0 < n := by omega
  by_cases t : x0 < 0
  · have e : R = false := by rw [hR]; exact up_neg l0 (by rw [← hx0]; exact t)
    subst e
    clear hR hn hb z la m hx0 l0
    go_enter Try.func48, Try.ntmps48
    go_wp2
    go_returns
    exact ⟨rfl, Below.refl _ _⟩
  have H := hide la
  have RR := hide hR
  have N := hide hn
  have X0 := hide (And.intro hx0 (show 0 ≤ x0 by omega))
  have t1 : decide (x0 < 0) = false := decide_eq_false t
  have e1 : IntKind.i64.wrap ((n : Int) - 1) = (n : Int) - 1 := by rw [IntKind.wrap_i64]; omega
  obtain ⟨p, hp⟩ : ∃ p, n = p + 1 := ⟨n - 1, by omega⟩
  have e2 : (n : Int) - 1 = (p : Int) := by omega
  rw [e2] at e1
  have NP := hide hp
  have m2 : n ≤ 32 := by omega
  clear hR hn hb z la m hx0 t hp
  go_enter Try.func48, Try.ntmps48
  go_wp2_with fail
  go_loopw [21] (fun i wr => ∃ k : Nat, k ≤ p ∧ i = .int .i64 k ∧ Hid (Below w.heap.size w wr) ∧ Hid (∀ (j : Nat) (h : j + 1 < bs.length), j < k → bs[j] < bs[j + 1])) (fun i _ => p - (intOf i).toNat)
  case atStart => exact ⟨0, by omega, rfl, Below.refl _ _, fun j _ h => absurd h (by omega)⟩
  case round =>
    clear c0
    obtain ⟨k, hk, rfl, bl, up⟩ := hrel
    by_cases hlt : k < p
    · have k1 : k + 1 < bs.length := by have := NP.out; have := N.out; omega
      have e5 := (H.out.later bl.out).cell k (by omega)
      have e6 := (H.out.later bl.out).cell (k + 1) k1
      obtain ⟨x, hx⟩ : ∃ x, x = bs[k] := ⟨_, rfl⟩
      obtain ⟨y, hy⟩ : ∃ y, y = bs[k + 1] := ⟨_, rfl⟩
      rw [← hx] at e5
      rw [← hy] at e6
      have w1 : IntKind.i64.wrap ((k : Int) + 1) = ((k + 1 : Nat) : Int) := by rw [IntKind.wrap_i64]; omega
      have hlt' : (k : Int) < (p : Int) := by omega
      have hlt2 : k + 1 < n := by omega
      by_cases t : y ≤ x
      · have F : Hid (R = false) := by
          show R = false
          rw [RR.out]; exact up_fall k1 (by rw [← hx, ← hy]; omega)
        have td : decide (y ≤ x) = true := decide_eq_true t
        clear hx hy k1 up RR
        go_wp2_with fail
        go_quiet (fail)
        go_wp2_with fail
        go_returns
        exact ⟨by rw [F.out]; rfl, below_drewN bl.out _⟩
      · have U : Hid (∀ (j : Nat) (h : j + 1 < bs.length), j < k + 1 → bs[j] < bs[j + 1]) := by
          intro j h hj
          by_cases q : j = k
          · subst q; rw [← hx, ← hy]; omega
          · exact up.out j h (by omega)
        have td : decide (y ≤ x) = false := decide_eq_false t
        clear hx hy up
        go_wp2_with fail
        go_quiet (fail)
        go_wp2_with fail
        go_roundw
        case rel => exact ⟨k + 1, by omega, by go_num, below_drewN bl.out _, U⟩
        case measure => simp [intOf]; omega
    · have F : Hid (R = true) := by
        show R = true
        rw [RR.out]
        have q1 := NP.out
        have q2 := N.out
        refine up_of (by omega) (by omega) (fun x hx => ?_) (fun j h => up.out j h (by omega))
        rw [List.getElem?_eq_getElem (by omega)] at hx
        injection hx with hx
        rw [← hx, ← X0.out.1]; exact X0.out.2
      obtain rfl : k = p := by omega
      clear up RR
      go_wp2
      go_returns
      exact ⟨by rw [F.out]; rfl, bl.out⟩
theorem bins_bad (a : Option Addr) (c : Nat) (xs : List Int) (b : Option Addr) (d : Nat) (bs : List Int) (w : World) (hx : IsInts .i64 w a xs) (hl : xs.length ≤ 140737488355328) (hf : fineB xs = false) :
    Calls Try.prog 22 #[.slice a xs.length c, .slice b bs.length d] w (BinsPost bs xs w) := by
  have kc := check_spec a c xs w hx hl
  rw [hf, show okE false 93 = 93 from rfl] at kc
  have F : Hid (BinsPost bs xs w (.returned (.tuple #[.slice none 0 0, .int .i64 93])) w) := by
    refine ⟨none, 0, ?_, .inl ?_, Below.refl _ _⟩ <;> simp [binL, binE, hf]
  clear hx hf
  go_enter Try.func22, Try.ntmps22
  go_wp2_with fail
  refine kc.mono ?_
  rintro e w1 ⟨rfl, rfl⟩
  clear kc
  go_wp2_with fail
  go_returns
  exact F.out
theorem bins_not (a : Option Addr) (c : Nat) (xs : List Int) (b : Option Addr) (d : Nat) (bs : List Int) (w : World) (hx : IsInts .i64 w a xs) (hl : xs.length ≤ 140737488355328) (hb : IsInts .i64 w b bs) (hl2 : bs.length ≤ 140737488355328) (hf : fineB xs = true) (hu : upB bs = false) :
    Calls Try.prog 22 #[.slice a xs.length c, .slice b bs.length d] w (BinsPost bs xs w) := by
  have kc := check_spec a c xs w hx hl
  rw [hf, show okE true 93 = 0 from rfl] at kc
  have ku := may_spec b d bs w hb hl2
  rw [hu] at ku
  have F : Hid (∀ w', Below w.heap.size w w' → BinsPost bs xs w (.returned (.tuple #[.slice none 0 0, .int .i64 92])) w') := by
    intro w' B
    refine ⟨none, 0, ?_, .inl ?_, B⟩ <;> simp [binL, binE, hf, hu]
  clear hx hf hb hu
  go_enter Try.func22, Try.ntmps22
  go_wp2_with fail
  refine kc.mono ?_
  rintro e w1 ⟨rfl, rfl⟩
  clear kc
  go_wp2_with fail
  refine ku.mono ?_
  rintro e w1 ⟨rfl, h1⟩
  clear ku
  have H1 := hide h1
  clear h1
  go_wp2_with fail
  go_returns
  exact F.out _ H1.out
set_option maxRecDepth 100000 in
set_option maxHeartbeats 8000000 in
theorem bins_good (a : Option Addr) (c : Nat) (xs : List Int) (b : Option Addr) (d : Nat) (bs : List Int) (w : World) (hx : IsInts .i64 w a xs) (hl : xs.length ≤ 140737488355328) (hb : IsInts .i64 w b bs) (hf : fineB xs = true) (hu : upB bs = true) :
    Calls Try.prog 22 #[.slice a xs.length c, .slice b bs.length d] w (BinsPost bs xs w) := by
  obtain ⟨⟨u1, u2⟩, u3, u4⟩ := (up_iff bs).1 hu
  have kc := check_spec a c xs w hx hl
  rw [hf, show okE true 93 = 0 from rfl] at kc
  have ku := may_spec b d bs w hb (by omega)
  rw [hu] at ku
  have F : Hid (∀ W w' cap, Below w.heap.size w W → Cnt W w' (cntF bs xs) → BinsPost bs xs w (.returned (.tuple #[.slice (some ⟨W.heap.size, 0, none⟩) (bs.length + 1) cap, .int .i64 0])) w') := by
    intro W w' cap B C
    refine ⟨some ⟨W.heap.size, 0, none⟩, cap, ?_, ?_, B.trans (C.below.mono B.size)⟩
    · simp [binL, binE, hf, hu, cntF_len]
    · simp only [binL, hf, hu, if_true]; exact C.is
  obtain ⟨gb, ob, rfl, lb⟩ := hb.resolve_left (fun h => by rw [h] at u1; simp at u1)
  have HB := hide lb
  have HX := hide hx
  have UP := hide u4
  obtain ⟨n, hn⟩ : ∃ n, n = bs.length := ⟨_, rfl⟩
  obtain ⟨m, hm⟩ : ∃ m, m = xs.length := ⟨_, rfl⟩
  rw [← hn] at u1 u2 ku ⊢
  rw [← hm] at hl kc ⊢
  have NN := hide hn
  have MM := hide hm
  obtain ⟨i0, hi0, hz0, hz1, hz2⟩ := info_parts info_int9
  have hmk : ∀ v : World, (Instr.makeSlice 49 (.int .i64 ((n : Int) + 1)) (.int .i64 ((n : Int) + 1))).run Try.prog v = .ok (.slice (some ⟨v.heap.size, 0, none⟩) (n + 1) (n + 1)) (v.alloc (.cells (madeCells #[.int .i64 0] (n + 1)) 3)) := fun v => by
    have := run_make (P := Try.prog) v 49 3 i0 (.int .i64 0) Try.underlying49 hi0 hz0 .i64 .i64 ((n : Int) + 1) ((n : Int) + 1) (by omega) (by omega) (by rw [hz2]; omega) (by omega)
    rw [hz1] at this
    rw [this]
    have e : ((n : Int) + 1).toNat = n + 1 := by omega
    rw [e]
    simp [Value.cells]
  clear hx hf hb hu u3 u4 lb hn hm hi0 hz0 hz1 hz2
  go_enter Try.func22, Try.ntmps22
  go_wp2_with fail
  refine kc.mono ?_
  rintro e w1 ⟨rfl, rfl⟩
  clear kc
  go_wp2_with fail
  refine ku.mono ?_
  rintro e W ⟨rfl, hW⟩
  clear ku
  have HW := hide hW
  have gW : Hid (gb < W.heap.size) := Nat.lt_of_lt_of_le HB.out.lt hW.size
  have bW : Hid (LieI .i64 W gb ob bs) := HB.out.later hW
  have xW : Hid (IsInts .i64 W a xs) := HX.out.later hW
  clear hW
  go_wp2_with fail
  clear hmk
  have C0 : Hid (Cnt W (W.alloc (.cells (madeCells #[.int .i64 0] (n + 1)) 3)) (cntF bs (xs.take 0))) := by
    have := Cnt.made W (n + 1) (by unfold maxLen; omega)
    rw [show List.replicate (n + 1) (0 : Int) = cntF bs (xs.take 0) from by rw [NN.out]; rfl] at this
    exact this
  go_loopw [26] (fun i wr => ∃ k : Nat, k ≤ m ∧ i = .int .i64 k ∧ Hid (Cnt W wr (cntF bs (xs.take k)))) (fun i _ => m - (intOf i).toNat)
  case atStart => exact ⟨0, by omega, rfl, C0⟩
  case round =>
    obtain ⟨k, hk, rfl, C⟩ := hrel
    clear C0
    by_cases hlt : k < m
    · have k1 : k < xs.length := by have := MM.out; omega
      obtain ⟨x, hxk⟩ : ∃ x, x = xs[k] := ⟨_, rfl⟩
      obtain ⟨g, o, ea, lx⟩ := xW.out.resolve_left (fun h => by rw [h] at k1; simp at k1)
      subst ea
      have c0 := (C.out.below.cell (p := ⟨g, o + k, none⟩) lx.lt).trans (lx.cell k k1)
      rw [← hxk] at c0
      have ST := hide (cntF_take (bs := bs) k1)
      rw [← hxk] at ST
      have LL := cntF_len bs (xs.take k)
      have BD := cntF_bound bs xs k
      obtain ⟨L, hL⟩ : ∃ L, L = cntF bs (xs.take k) := ⟨_, rfl⟩
      rw [← hL] at ST LL BD C
      have C1 := hide C.out
      obtain ⟨wo, hwo⟩ : ∃ wo, wo = wr := ⟨_, rfl⟩
      clear C hxk lx k1 hL hwo
      have LLh := hide LL
      have BDh := hide BD
      clear LL BD
      go_wp2_with fail
      go_loop [10, 32] (fun bn j => ∃ q : Nat, q ≤ n ∧ j = .int .i64 q ∧ bn = .int .i64 (binK (bs.take q) x : Nat)) (fun _ j => n - (intOf j).toNat)
      case atStart => exact ⟨0, by omega, rfl, rfl⟩
      case round =>
        obtain ⟨q, hq, rfl, rfl⟩ := hrel
        by_cases hlq : q < n
        · have q1 : q < bs.length := by have := NN.out; omega
          have e1 := (C1.out.below.cell (p := ⟨gb, ob + q, none⟩) gW.out).trans (bW.out.cell q q1)
          have ST2 := binK_take q1 UP.out x
          obtain ⟨y, hy⟩ : ∃ y, y = bs[q] := ⟨_, rfl⟩
          rw [← hy] at e1 ST2
          have hlq2 : (q : Int) < (n : Int) := by omega
          have hlq3 : decide (q < n) = true := decide_eq_true hlq
          by_cases t : y ≤ x
          · rw [if_pos t] at ST2
            have td : decide (y ≤ x) = true := decide_eq_true t
            have S2 := hide ST2
            clear ST2 hy q1
            go_wp2_with fail
            go_round
            case rel => exact ⟨q + 1, by omega, by go_num, by rw [S2.out]; go_num⟩
            case measure => simp [intOf]; omega
          · rw [if_neg t] at ST2
            have td : decide (y ≤ x) = false := decide_eq_false t
            have S2 := hide ST2
            clear ST2 hy q1
            go_wp2_with fail
            go_round
            case rel => exact ⟨q + 1, by omega, by go_num, by rw [S2.out]⟩
            case measure => simp [intOf]; omega
        · obtain rfl : q = n := by omega
          rw [show bs.take q = bs from by rw [NN.out]; exact List.take_length]
          have bk := binK_le bs x
          obtain ⟨z, hz⟩ : ∃ z, z = binK bs x := ⟨_, rfl⟩
          have zl : z < L.length := by rw [LLh.out, hz]; omega
          have zn : z < q + 1 := by have := NN.out; omega
          obtain ⟨r1, r2⟩ := C1.out.at_ z zl
          obtain ⟨v, hv⟩ : ∃ v, v = L.getD z 0 := ⟨_, rfl⟩
          have vb : 0 ≤ v ∧ v ≤ k := by
            have := BDh.out _ (List.getElem_mem zl)
            rw [hv, List.getD_eq_getElem?_getD, List.getElem?_eq_getElem zl]
            exact this
          obtain ⟨v0, v1⟩ := vb
          have NC : Hid (Cnt W (wr.setCell ⟨W.heap.size, z, none⟩ (.int .i64 (v + 1))) (cntF bs (xs.take (k + 1)))) := by
            have := C1.out.set z (v + 1) 0
            rw [ST.out]
            unfold cnt1
            rw [← hz, ← hv]
            exact this
          rw [← hv] at r1
          have zlt := C1.out.lt
          rw [← hz]
          clear bk hz hv C1 BDh LLh ST zl
          go_wp2_with fail
          go_roundw
          case rel => exact ⟨k + 1, by omega, by go_num, NC⟩
          case measure => simp [intOf]; omega
    · obtain rfl : k = m := by omega
      have C1 : Hid (Cnt W wr (cntF bs xs)) := by
        have := C.out
        rw [show xs.take k = xs from by rw [MM.out]; exact List.take_length] at this
        exact this
      have F2 := F.out W wr (n + 1) HW.out C1.out
      rw [← NN.out] at F2
      have F3 := hide F2
      clear C F2 F
      go_wp2_with fail
      go_returns
      exact F3.out
theorem bins_spec (a : Option Addr) (c : Nat) (xs : List Int) (b : Option Addr) (d : Nat) (bs : List Int) (w : World) (hx : IsInts .i64 w a xs) (hl : xs.length ≤ 140737488355328) (hb : IsInts .i64 w b bs) (hl2 : bs.length ≤ 140737488355328) :
    Calls Try.prog 22 #[.slice a xs.length c, .slice b bs.length d] w (BinsPost bs xs w) := by
  rcases hf : fineB xs with _ | _
  · exact bins_bad a c xs b d bs w hx hl hf
  · rcases hu : upB bs with _ | _
    · exact bins_not a c xs b d bs w hx hl hb hl2 hf hu
    · exact bins_good a c xs b d bs w hx hl hb hf hu
end Go.Proofs.Ytebiddmadmmfpaa
/- timer: Of on every list; what no order turns. -/
namespace Go.Proofs.Ytebiddmadmmfpaa
set_option linter.unusedVariables false
set_option linter.unusedSimpArgs false
open Go.RowKit W T9
def ofE (xs : List Int) : Int := if fineB xs then (if xs.length = 0 then 90 else 0) else 93
def ofX (xs : List Int) (v : Int) : Int := if ofE xs = 0 then v else 0
/-- What Of says of any list, d being the deviation. -/
abbrev ofV (xs : List Int) (d : Int) : Value := .agg #[.int .i64 (ofX xs xs.length), .int .i64 (ofX xs (hi xs.sum)), .int .u64 (ofX xs (lo xs.sum)), .int .i64 (ofX xs ((srt xs).getD 0 0)), .int .i64 (ofX xs ((srt xs).getD (xs.length - 1) 0)), .int .i64 (ofX xs (xs.sum / xs.length)), .int .i64 (ofX xs (medL (srt xs))), .int .i64 (ofX xs d)]
structure OfOk (xs : List Int) : Prop where
  fine : fineB xs = true
  l0 : 0 < xs.length
theorem ofOk_of {xs : List Int} (h : ofE xs = 0) : OfOk xs := by
  unfold ofE at h
  split at h
  · split at h
    · omega
    · rename_i a b; exact ⟨a, by omega⟩
  · omega
theorem ofE_ok {xs : List Int} (h : OfOk xs) : ofE xs = 0 := by unfold ofE; rw [if_pos h.fine, if_neg (by have := h.l0; omega)]
theorem ofd_ex (xs : List Int) : ∃ d, ofE xs = 0 → IsRt (devQ xs) d := by
  by_cases h : ofE xs = 0
  · have k := ofOk_of h
    obtain ⟨d, hd⟩ := dev_ex k.fine k.l0
    exact ⟨d, fun _ => hd⟩
  · exact ⟨0, fun e => absurd e h⟩
theorem of_tot (a : Option Addr) (c : Nat) (xs : List Int) (d : Int) (w : World) (hx : IsInts .i64 w a xs) (hl : xs.length ≤ 17592186044416) (hd : ofE xs = 0 → IsRt (devQ xs) d) :
    Calls Try.prog 18 #[.slice a xs.length c] w fun e w' => e = .returned (.tuple #[ofV xs d, .int .i64 (ofE xs)]) ∧ Below w.heap.size w w' := by
  by_cases h : ofE xs = 0
  · have k := ofOk_of h
    have l0 := k.l0
    obtain ⟨g, o, rfl, la⟩ := hx.resolve_left (fun e => by rw [e] at l0; simp at l0)
    have r := of_spec g o c xs d w la hl k.fine k.l0 (hd h)
    unfold ofV ofX
    simp only [if_pos h]
    rw [h]
    exact r
  · unfold ofV ofX
    simp only [if_neg h]
    rcases hf : fineB xs with _ | _
    · have e : ofE xs = 93 := by unfold ofE; simp [hf]
      rw [e]; exact of_bad a c xs w hx hl hf
    · have z : xs.length = 0 := by
        by_cases z : xs.length = 0
        · exact z
        · exact absurd (by unfold ofE; simp [hf, z]) h
      have e : ofE xs = 90 := by unfold ofE; simp [hf, z]
      rw [e, z]; exact of_none a c w
theorem ofE_perm {xs ys : List Int} (p : xs.Perm ys) : ofE xs = ofE ys := by unfold ofE; rw [fine_perm p, p.length_eq]
theorem ofV_perm {xs ys : List Int} (p : xs.Perm ys) (d : Int) : ofV xs d = ofV ys d := by
  unfold ofV ofX; rw [ofE_perm p, p.length_eq, sum_perm p, srt_eq p]
theorem devQ_perm {xs ys : List Int} (p : xs.Perm ys) : devQ xs = devQ ys := by unfold devQ; rw [p.length_eq, sum_perm p, srt_eq p]
theorem uptoE_perm {xs ys : List Int} (p : xs.Perm ys) (q : Int) : uptoE xs q = uptoE ys q := by unfold uptoE; rw [fine_perm p, p.length_eq]
theorem uptoV_perm {xs ys : List Int} (p : xs.Perm ys) (q : Int) : uptoV xs q = uptoV ys q := by
  unfold uptoV uptoN uptoS uptoM uptoG upPart upEdge upR; rw [uptoE_perm p, p.length_eq, srt_eq p]
theorem cnt1_len (bs c : List Int) (v : Int) : (cnt1 bs c v).length = c.length := by simp [cnt1]
theorem getD_set9 (o : List Int) (i t : Nat) (x : Int) (h : i ≠ t) : (o.set i x).getD t 0 = o.getD t 0 := by simp [List.getD_eq_getElem?_getD, List.getElem?_set, h]
theorem cnt1_swap (bs c : List Int) (x y : Int) : cnt1 bs (cnt1 bs c x) y = cnt1 bs (cnt1 bs c y) x := by
  unfold cnt1
  generalize binK bs x = i
  generalize binK bs y = j
  by_cases e : i = j
  · subst e; rfl
  · rw [getD_set9 _ _ _ _ e, getD_set9 _ _ _ _ (Ne.symm e)]
    exact List.set_comm _ _ e
theorem foldl_perm {bs : List Int} {xs ys : List Int} (p : xs.Perm ys) : ∀ c, xs.foldl (cnt1 bs) c = ys.foldl (cnt1 bs) c := by
  induction p with
  | nil => intro c; rfl
  | cons x _ ih => intro c; rw [List.foldl_cons, List.foldl_cons]; exact ih _
  | swap x y l => intro c; simp only [List.foldl_cons]; rw [cnt1_swap]
  | trans _ _ h1 h2 => intro c; exact (h1 c).trans (h2 c)
theorem binL_perm {bs xs ys : List Int} (p : xs.Perm ys) : binL bs xs = binL bs ys := by unfold binL cntF; rw [fine_perm p, foldl_perm p]
theorem binE_perm {bs xs ys : List Int} (p : xs.Perm ys) : binE bs xs = binE bs ys := by unfold binE; rw [fine_perm p]
theorem set_sum : ∀ (c : List Int) (k : Nat), k < c.length → (c.set k (c.getD k 0 + 1)).sum = c.sum + 1
  | x :: r, 0, _ => by simp; omega
  | x :: r, k + 1, h => by
    have := set_sum r k (by simpa using h)
    simp only [List.set_cons_succ, List.getD_cons_succ, List.sum_cons]
    rw [this]; omega
theorem fold_sum (bs xs : List Int) : ∀ c : List Int, c.length = bs.length + 1 → (xs.foldl (cnt1 bs) c).sum = c.sum + xs.length := by
  induction xs with
  | nil => intro c _; simp
  | cons x r ih =>
    intro c h
    rw [List.foldl_cons, ih _ (by rw [cnt1_len, h])]
    have : (cnt1 bs c x).sum = c.sum + 1 := set_sum c _ (by rw [h]; have := binK_le bs x; omega)
    rw [this, List.length_cons]; omega
theorem cntF_sum (bs xs : List Int) : (cntF bs xs).sum = xs.length := by
  unfold cntF
  rw [fold_sum bs xs _ (by simp)]
  have : (List.replicate (bs.length + 1) (0 : Int)).sum = 0 := by simp
  omega
theorem binL_sum {bs xs : List Int} (h : binE bs xs = 0) : (binL bs xs).sum = xs.length := by
  unfold binE at h; unfold binL
  split at h
  · split at h
    · rename_i a b; rw [if_pos a, if_pos b]; exact cntF_sum bs xs
    · omega
  · omega
theorem binL_nonneg {bs xs : List Int} : ∀ x ∈ binL bs xs, 0 ≤ x ∧ x ≤ xs.length := by
  intro x hx
  unfold binL at hx
  split at hx
  · split at hx
    · have := cntF_bound bs xs xs.length x (by rw [List.take_length]; exact hx); exact this
    · simp at hx
  · simp at hx
theorem turn_perm (xs : List Int) (k : Nat) : ((xs.drop k).reverse ++ xs.take k).Perm xs := by
  refine (List.Perm.append_right _ (List.reverse_perm _)).trans ?_
  refine (List.perm_append_comm).trans ?_
  rw [List.take_append_drop]
end Go.Proofs.Ytebiddmadmmfpaa
/- timer: merge; Merge. (gen_tm2.py) -/
namespace Go.Proofs.Ytebiddmadmmfpaa
set_option linter.unusedVariables false
set_option linter.unusedSimpArgs false
open Go.RowKit W T9
theorem info_w64 : (Try.prog.info? 2).map (fun i => (i.zero, i.size, i.bytes)) = some (some (.int .i64 0), 1, 8) := by kernel_rfl
theorem size_i64 (w : World) : (Go.sizeOf (Try.prog.elem 29)).run Try.prog w = .ok 1 w := by kernel_rfl
theorem addz (x : Addr) : x.add 0 = x := by unfold Addr.add; simp
/-- l[1:] of a slice of numbers. -/
theorem ints_tail {w : World} {a : Option Addr} {l : List Int} {x : Int} (h : IsInts .i64 w a (x :: l)) (c : Nat) (hc : l.length + 1 ≤ c) (h63 : c ≤ 9223372036854775807) :
    ∃ a2, (∀ v, (Instr.slice 29 (.slice a (l.length + 1) c) (some (.int .i64 1)) none none).run Try.prog v = .ok (.slice a2 l.length (c - 1)) v) ∧ IsInts .i64 w a2 l ∧ (a2 = none → c - 1 = 0) := by
  refine ⟨if c = 1 then a else a.map (·.add (1 * 1)), fun v => ?_, ?_, ?_⟩
  · rw [run_slice_l (P := Try.prog) (w := v) 29 a (l.length + 1) c (by kernel_rfl) .i64 (1 : Int) (by omega) (by omega), size_i64]
    simp [Result.andThen, sliced]
  · rcases h with h | ⟨g, o, rfl, h⟩
    · cases h
    · by_cases e : l = []
      · exact .inl e
      · have : 0 < l.length := by cases l; exact absurd rfl e; simp
        rw [if_neg (by omega)]
        refine .inr ⟨g, o + 1, by simp only [Option.map_some, Nat.mul_one]; rw [Go.WideShapes.add_plain], ⟨fun j hj => ?_, h.lt⟩⟩
        have := h.cell (j + 1) (by simp; omega)
        rw [Nat.add_assoc, Nat.add_comm 1 j, this]
        rfl
  · intro e
    obtain ⟨g, o, h⟩ : ∃ g o, a = some ⟨g, o, none⟩ := by
      rcases h with h | ⟨g, o, h, _⟩
      · cases h
      · exact ⟨g, o, h⟩
    subst h
    split at e
    · cases e
    · cases e
theorem ints_head {w : World} {a : Option Addr} {l : List Int} {x : Int} (h : IsInts .i64 w a (x :: l)) : ∃ g o, a = some ⟨g, o, none⟩ ∧ w.cell? ⟨g, o, none⟩ = some (.int .i64 x) ∧ g < w.heap.size := by
  rcases h with h | ⟨g, o, rfl, h⟩
  · cases h
  · exact ⟨g, o, rfl, by have := h.cell 0 (by simp); simpa using this, h.lt⟩
theorem own_below {w w' : World} {base size n : Nat} {e : TypeId} {v : Value} {xs : List Value} (h : w.ownsRow base e size v n xs) (k : Below w.heap.size w w') : w'.ownsRow base e size v n xs := by
  refine ⟨h.1, h.2.imp id ?_⟩
  rintro ⟨g, cap, cur, hv, hb, hh, r⟩
  exact ⟨g, cap, cur, hv, hb, (k.block g (h.lt g (by rw [hv]; rfl)).2).trans hh, r⟩
theorem cells_ints {w : World} {ad : Addr} {ps : List Int} (h : IsInts .i64 w (some ad) ps) : ∀ j u, (ps.map (Value.int .i64))[j]? = some u → w.cell? (ad.add j) = some u := by
  intro j u hj
  rcases h with e | ⟨g, o, e, L⟩
  · rw [e, List.map_nil, List.getElem?_nil] at hj
    cases hj
  · injection e with e
    subst e
    obtain ⟨hj2, e2⟩ := List.getElem?_eq_some_iff.1 hj
    rw [List.length_map] at hj2
    rw [Go.WideShapes.add_plain, L.cell j hj2, ← e2, List.getElem_map]
/-- A list of numbers that was made since the world w. -/
structure OwnI (w wr : World) (v : Value) (xs : List Int) : Prop where
  own : wr.ownsRow w.heap.size 2 1 v xs.length (xs.map (Value.int .i64))
  below : Below w.heap.size w wr
theorem OwnI.is {w wr : World} {v : Value} {xs : List Int} (h : OwnI w wr v xs) : ∃ a c, v = .slice a xs.length c ∧ xs.length ≤ c ∧ c ≤ maxLen ∧ IsInts .i64 wr a xs ∧ (∀ g, a = some g → w.heap.size ≤ g.block) := by
  rcases h.own.2 with ⟨rfl, h0⟩ | ⟨g, cap, cur, rfl, hb, hg, hc, hm, hs, ht⟩
  · exact ⟨none, 0, by rw [h0], by omega, by simp [maxLen], .inl (List.eq_nil_of_length_eq_zero h0), fun g e => by cases e⟩
  · refine ⟨_, cap, rfl, hc, hm, .inr ⟨g, 0, rfl, ⟨fun k hk => ?_, (h.own.lt g rfl).2⟩⟩, fun x e => by injection e with e; rw [← e]; exact hb⟩
    rw [Nat.zero_add, h.own.cellAt k (by omega)]
    simp [List.getElem?_eq_getElem hk]
theorem OwnI.later {w wr w' : World} {v : Value} {xs : List Int} (h : OwnI w wr v xs) (k : Below wr.heap.size wr w') : OwnI w w' v xs :=
  ⟨own_below h.own k, h.below.trans (k.mono h.below.size)⟩
theorem OwnI.more {w wr w1 : World} {v v' : Value} {xs : List Int} {x : Int} {o : Obj} (h : OwnI w wr v xs)
    (hown : w1.ownsRow w.heap.size 2 1 v' (xs.length + 1) (xs.map (Value.int .i64) ++ [.int .i64 x])) (hg : ((wr.alloc o).drew).grownBy w1 v.ownBlock) : OwnI w w1 v' (xs ++ [x]) :=
  ⟨by simpa using hown, (((h.below.alloc h.below.size _)).drew).grown hg (by have := h.below.size; simp; omega) (fun j hj => (h.own.lt j hj).1)⟩
theorem one_i64 {x : Int} : ∀ u ∈ [Value.int .i64 x], u.oneCell' = true := by intro u hu; rw [List.mem_singleton] at hu; subst hu; rfl
theorem own_not {w : World} {base e n g : Nat} {v : Value} {xs : List Value} (h : w.ownsRow base e 1 v n xs) (hg : g < base) : v.ownBlock ≠ some g := fun q => by have := (h.lt g q).1; omega
theorem wpList_append_ints {w : World} {ops : Array Oper} {rest : List Oper} {o : Oper} {a : Act} {Q : Exit → Act → World → Prop} (hgd : o.guard = none) (s x : Operand)
    (ho : o.op = .call { callee := .builtin .append, args := #[s, x], argTypes := #[29, 29] }) (w0 : World) (v : Value) (qs : List Int) (hs : a.eval s = v) (hown : OwnI w0 w v qs) (sa : Option Addr) (n c : Nat) (ps : List Int) (hx : a.eval x = .slice sa n c) (hn : n = ps.length) (hsrc : IsInts .i64 w sa ps) (hnil : sa = none → c = 0)
    (h63 : (qs.length + ps.length) * 8 ≤ 140737488355328) (h : ∀ v' w', OwnI w0 w' v' (qs ++ ps) → wpList Try.prog ops Q rest (a.put o.dst v') w') : wpList Try.prog ops Q (o :: rest) a w := by
  obtain ⟨i0, hi0, hz0, hz1, hz2⟩ := info_parts info_w64
  subst hn
  cases sa with
  | none =>
    have e : ps = [] := by
      rcases hsrc with e | ⟨g, o, e, _⟩
      · exact e
      · cases e
    subst e
    rw [hnil rfl, List.length_nil] at hx
    refine wpList_append_own_none hgd s x 29 ho w0.heap.size 2 i0 1 Try.underlying29 hi0 v qs.length (qs.map (Value.int .i64)) hs hown.own hx ?_
    exact h v w (by rw [List.append_nil]; exact hown)
  | some ad =>
    refine wpList_append_own _ hgd s x 29 ho w0.heap.size 2 i0 (.int .i64 0) 1 8 Try.underlying29 hi0 hz0 hz1 hz2 rfl (by decide) v qs.length (qs.map (Value.int .i64)) hs hown.own ad ps.length c (ps.map (Value.int .i64)) hx (by rw [List.length_map, Nat.mul_one]) (cells_ints hsrc) ?_ (by unfold maxLen; omega) (by omega) hown.below.size ?_
    · intro u hu
      obtain ⟨y, _, rfl⟩ := List.mem_map.1 hu
      rfl
    · intro v' w' h1 h2 _
      refine h v' w' ⟨by rw [List.length_append, List.map_append]; exact h1, hown.below.grown h2 hown.below.size (fun j hj => (hown.own.lt j hj).1)⟩
theorem far9 {W w1 : World} {o : Obj} {row : Option Nat} (hg : ((W.alloc o).drew).grownBy w1 row) {b f : Nat} {v : Value} (h : W.cell? ⟨b, f, none⟩ = some v) (hb : b < W.heap.size) (ne : row ≠ some b) : w1.cell? ⟨b, f, none⟩ = some v := by
  rw [hg.cell_far ⟨b, f, none⟩ (by simp; omega) (Ne.symm ne)]
  have e : ((W.alloc o).drew).cell? ⟨b, f, none⟩ = W.cell? ⟨b, f, none⟩ := Below.cell (B := W.heap.size) (((Below.refl _ _).alloc (Nat.le_refl _) o).drew) hb
  rw [e]; exact h
def lenV9 : Value → Nat | .slice _ n _ => n | _ => 0
set_option maxRecDepth 100000 in
set_option maxHeartbeats 8000000 in
theorem merge_spec (a b : Option Addr) (ca cb : Nat) (xs ys : List Int) (w : World) (hx : IsInts .i64 w a xs) (hy : IsInts .i64 w b ys) (hca : xs.length ≤ ca) (hcb : ys.length ≤ cb) (hna : a = none → ca = 0) (hnb : b = none → cb = 0) (ha63 : ca ≤ 9223372036854775807) (hb63 : cb ≤ 9223372036854775807) (hl : (xs.length + ys.length) * 8 ≤ 140737488355328) :
    Calls Try.prog 34 #[.slice a xs.length ca, .slice b ys.length cb] w fun e w' => ∃ v, e = .returned v ∧ OwnI w w' v (mg xs ys) := by
  have HX := hide hx
  have HY := hide hy
  have HN := hide (And.intro hna hnb)
  have HA := hide hca
  have HB := hide hcb
  obtain ⟨M, hM⟩ : ∃ M, M = mg xs ys := ⟨_, rfl⟩
  rw [← hM]
  have HM := hide hM
  obtain ⟨m, hm⟩ : ∃ m, m = xs.length := ⟨_, rfl⟩
  obtain ⟨n, hn⟩ : ∃ n, n = ys.length := ⟨_, rfl⟩
  have T := hide (show m + n = xs.length + ys.length by omega)
  rw [← hm, ← hn] at hl ⊢
  have MN := hide (And.intro hm hn)
  obtain ⟨i0, hi0, hz0, hz1, hz2⟩ := info_parts info_w64
  have hmk : ∀ w : World, (Instr.makeSlice 29 (.int .i64 0) (.int .i64 ((m : Int) + (n : Int)))).run Try.prog w = .ok (.slice (some ⟨w.heap.size, 0, none⟩) 0 (m + n)) (w.alloc (.cells (madeCells #[.int .i64 0] (m + n)) 2)) := fun w => by
    have := run_make (P := Try.prog) w 29 2 i0 (.int .i64 0) Try.underlying29 hi0 hz0 .i64 .i64 0 ((m : Int) + (n : Int)) (by omega) (by omega) (by rw [hz2]; omega) (by omega)
    rw [hz1] at this
    rw [this]
    have e : ((m : Int) + (n : Int)).toNat = m + n := by omega
    rw [e]
    simp [Value.cells]
  have HI : Hid (Try.prog.info? 2 = some i0 ∧ i0.zero = some (.int .i64 0) ∧ i0.size = 1 ∧ i0.bytes = 8) := ⟨hi0, hz0, hz1, hz2⟩
  clear hi0 hz0 hz1 hz2 hx hy hca hcb hM hm hn hna hnb
  go_enter Try.func34, Try.ntmps34
  go_wp2_with fail
  clear hmk
  go_loopw [0, 1, 5] (fun p q v wr => ∃ (A B : Option Addr) (c d : Nat) (us ts L : List Int), p = .slice A us.length c ∧ q = .slice B ts.length d ∧ Hid (us.length ≤ c ∧ ts.length ≤ d ∧ c ≤ 9223372036854775807 ∧ d ≤ 9223372036854775807 ∧ (A = none → c = 0) ∧ (B = none → d = 0)) ∧ Hid (IsInts .i64 w A us ∧ IsInts .i64 w B ts) ∧ Hid (OwnI w wr v L) ∧ Hid (L ++ mg us ts = M) ∧ Hid (L.length + us.length + ts.length = m + n)) (fun p q _ _ => lenV9 p + lenV9 q)
  case atStart =>
    refine ⟨a, b, ca, cb, xs, ys, [], by rw [MN.out.1], by rw [MN.out.2], ⟨HA.out, HB.out, ha63, hb63, HN.out.1, HN.out.2⟩, ⟨HX.out, HY.out⟩, ⟨?_, ?_⟩, HM.out.symm, ?_⟩
    · exact World.ownsRow_made w _ (m + n) (Nat.le_refl _) (by unfold maxLen; omega) (by simp [madeCells])
    · go_grown
    · show [].length + _ + _ = _
      rw [List.length_nil, T.out]; omega
  case round =>
    obtain ⟨A, B, c, d, us, ts, L, rfl, rfl, H1, H2, OW, H4, H5⟩ := hrel
    rcases us with _ | ⟨x, us⟩
    · have e : L ++ ts = M := by have := H4.out; rwa [mg_nil] at this
      have E := hide e
      have q := H5.out
      have LL := hide q
      clear e q H4 H5
      have h1 := H1.out
      have H1' := hide h1
      clear h1 H1
      rw [List.length_nil]
      have b1 : (L.length + ([] : List Int).length) * 8 ≤ 140737488355328 := by have := LL.out; simp at this ⊢; omega
      have b2 : (L.length + ts.length) * 8 ≤ 140737488355328 := by have := LL.out; simp at this ⊢; omega
      go_wp2_with (first
        | (at_builtin; refine wpList_append_ints rfl _ _ rfl w u5 L rfl OW.out A 0 c [] rfl rfl (.inl rfl) H1'.out.2.2.2.2.1 b1 ?_; intro v1 w1 O1; rw [List.append_nil] at O1; have O2 := hide O1; clear O1)
        | (at_builtin; refine wpList_append_ints rfl _ _ rfl w v1 L rfl O2.out B ts.length d ts rfl rfl (H2.out.2.later O2.out.below) H1'.out.2.2.2.2.2 b2 ?_; intro v2 w2 O3; rw [E.out] at O3; have O4 := hide O3; clear O3))
      go_returns
      exact ⟨v2, rfl, O4.out⟩
    rcases ts with _ | ⟨y, ts⟩
    · have e : L ++ x :: us = M := by have := H4.out; rwa [mg_nil2] at this
      have E := hide e
      have q := H5.out
      have LL := hide q
      clear e q H4 H5
      have h1 := H1.out
      have H1' := hide h1
      clear h1 H1
      rw [List.length_nil]
      have hp : (0 : Int) < ((x :: us).length : Int) := by rw [List.length_cons]; omega
      obtain ⟨N, hN⟩ : ∃ N, N = (x :: us).length := ⟨_, rfl⟩
      rw [← hN] at hp ⊢
      have NN := hide hN
      clear hN
      have b1 : (L.length + (x :: us).length) * 8 ≤ 140737488355328 := by have := LL.out; simp at this ⊢; omega
      have b2 : (M.length + ([] : List Int).length) * 8 ≤ 140737488355328 := by have := LL.out; rw [← E.out]; simp at this ⊢; omega
      go_wp2_with (first
        | (at_builtin; refine wpList_append_ints rfl _ _ rfl w u5 L rfl OW.out A N c (x :: us) rfl NN.out (H2.out.1.later OW.out.below) H1'.out.2.2.2.2.1 b1 ?_; intro v1 w1 O1; rw [E.out] at O1; have O2 := hide O1; clear O1)
        | (at_builtin; refine wpList_append_ints rfl _ _ rfl w v1 M rfl O2.out B 0 d [] rfl rfl (.inl rfl) H1'.out.2.2.2.2.2 b2 ?_; intro v2 w2 O3; rw [List.append_nil] at O3; have O4 := hide O3; clear O3))
      go_returns
      exact ⟨v2, rfl, O4.out⟩
    obtain ⟨ga, oa, rfl, ca, la⟩ := ints_head H2.out.1
    obtain ⟨gb, ob, rfl, cb, lb⟩ := ints_head H2.out.2
    have h1 := H1.out
    have g1 : us.length + 1 ≤ c := h1.1
    have g2 : ts.length + 1 ≤ d := h1.2.1
    have H1' := hide h1
    clear h1 H1
    have ca' := (OW.out.below.cell (p := ⟨ga, oa, none⟩) la).trans ca
    have cb' := (OW.out.below.cell (p := ⟨gb, ob, none⟩) lb).trans cb
    obtain ⟨A2, sa, ia, na⟩ := ints_tail H2.out.1 c g1 H1'.out.2.2.1
    obtain ⟨B2, sb, ib, nb⟩ := ints_tail H2.out.2 d g2 H1'.out.2.2.2.1
    have IA := hide (And.intro ia na)
    have IB := hide (And.intro ib nb)
    have LL := H5.out
    rw [List.length_cons, List.length_cons] at LL
    have O0 := OW.out
    have aga := own_not O0.own la
    have agb := own_not O0.own lb
    obtain ⟨k, hk⟩ : ∃ k, k = L.length := ⟨_, rfl⟩
    rw [← hk] at LL
    have KK := hide hk
    have KM := hide (show k + 1 ≤ maxLen by unfold maxLen; omega)
    have KB := hide (show (k + 1) * 8 ≤ 140737488355328 by omega)
    have LL' := hide LL
    have hwa : ga < wr.heap.size := Nat.lt_of_lt_of_le la O0.below.size
    have hwb : gb < wr.heap.size := Nat.lt_of_lt_of_le lb O0.below.size
    have bs := O0.below.size
    clear ia ib na nb OW LL hk
    have OW := hide O0
    clear O0 ca cb
    rw [List.length_cons, List.length_cons]
    obtain ⟨n1, hn1⟩ : ∃ n1, n1 = us.length := ⟨_, rfl⟩
    obtain ⟨n2, hn2⟩ : ∃ n2, n2 = ts.length := ⟨_, rfl⟩
    rw [← hn1] at g1 sa
    rw [← hn2] at g2 sb
    rw [← hn1, ← hn2]
    have N1 := hide hn1
    have N2 := hide hn2
    clear hn1 hn2
    have p1 : (0 : Int) < (n1 : Int) + 1 := by omega
    have p2 : (0 : Int) < (n2 : Int) + 1 := by omega
    by_cases t : y < x
    · have MM : Hid (L ++ y :: mg (x :: us) ts = M) := by have := H4.out; rwa [mg_b t] at this
      have td : decide (y < x) = true := decide_eq_true t
      go_wp2_with fail
      go_quiet (fail)
      go_wp2_with fail
      refine abs_wp (fun W => W.cell? ⟨ga, oa, none⟩ = some (.int .i64 x) ∧ W.cell? ⟨gb, ob, none⟩ = some (.int .i64 y) ∧ ga < W.heap.size ∧ gb < W.heap.size ∧ w.heap.size ≤ W.heap.size ∧ Hid (OwnI w W u5 L)) ?_ ?_
      · exact ⟨by go_simp, by go_simp, by simpa using hwa, by simpa using hwb, by simpa using bs, OW.out.later (below_drewN (Below.refl _ _) _)⟩
      clear hwa hwb bs ca' cb' OW
      rintro W ⟨ca', cb', hwa, hwb, bs, OW⟩
      have ow : W.ownsRow w.heap.size 2 1 u5 k (L.map (Value.int .i64)) := by rw [KK.out]; exact OW.out.own
      have OR := hide ow
      clear ow
      go_region_held3 (fun w' => w'.cell? ⟨ga, oa, none⟩ = some (.int .i64 x) ∧ w'.cell? ⟨gb, ob, none⟩ = some (.int .i64 y))
        (first | exact ⟨far9 hgrow ca' hwa aga, far9 hgrow cb' hwb agb⟩ | go_keep)
        ((refine step_append_lies _ (by rfl) _ _ _ (by rfl) w.heap.size 2 i0 _ 1 8 Try.underlying29 HI.out.1 HI.out.2.1 HI.out.2.2.1 HI.out.2.2.2 rfl (by omega) u5 k (L.map (Value.int .i64)) (by rfl) ((OR.out.alloc _).drew)
              ⟨W.heap.size, 0, none⟩ 1 1 [.int .i64 y] (by rfl) (by rfl) (World.news_of_block (cs := #[.int .i64 y]) (t := 2) (fr := (0, 0)) (heap_alloc_new W _)) one_i64
              (by omega) KM.out KB.out (by simp; omega) (W.heap.size + 1) (by simp) ?_; intro gg cap w1 hown1 hgrow hat hlt))
      all_goals
        have O9 : OwnI w w1 (.slice (some ⟨gg, 0, none⟩) (k + 1) cap) (L ++ [y]) := OwnI.more OW.out (by rw [← KK.out]; exact hown1) hgrow
        have P9 := hide O9
        clear O9 hown1 hgrow hat hlt OR
        go_wp2_with fail
        go_roundw
        case rel =>
          refine ⟨some ⟨ga, oa, none⟩, B2, c, d - 1, x :: us, ts, L ++ [y], ?_, ?_, ?_, ?_, P9.out, ?_, ?_⟩
          · first | (rw [N1.out]; done) | (rw [N1.out]; rfl) | (rw [List.length_cons, N1.out]; done)
          · first | (rw [N2.out]; done) | (rw [N2.out]; rfl) | (rw [List.length_cons, N2.out]; done)
          · have q := H1'.out
            have q1 := IA.out.2
            have q2 := IB.out.2
            show _ ∧ _ ∧ _ ∧ _ ∧ _ ∧ _
            rw [List.length_cons]
            refine ⟨?_, ?_, ?_, ?_, ?_, ?_⟩
            all_goals first | (have := N1.out; have := N2.out; omega) | exact q1 | exact q2 | (intro h; cases h)
          · exact ⟨H2.out.1, IB.out.1⟩
          · show _ = _
            rw [List.append_assoc]; exact MM.out
          · show _ = _
            have := LL'.out
            rw [List.length_append, List.length_cons, ← KK.out]
            simp only [List.length_cons, List.length_nil]
            omega
        case measure => simp [lenV9]
    · have MM : Hid (L ++ x :: mg us (y :: ts) = M) := by have := H4.out; rwa [mg_a t] at this
      have td : decide (y < x) = false := decide_eq_false t
      go_wp2_with fail
      go_quiet (fail)
      go_wp2_with fail
      refine abs_wp (fun W => W.cell? ⟨ga, oa, none⟩ = some (.int .i64 x) ∧ W.cell? ⟨gb, ob, none⟩ = some (.int .i64 y) ∧ ga < W.heap.size ∧ gb < W.heap.size ∧ w.heap.size ≤ W.heap.size ∧ Hid (OwnI w W u5 L)) ?_ ?_
      · exact ⟨by go_simp, by go_simp, by simpa using hwa, by simpa using hwb, by simpa using bs, OW.out.later (below_drewN (Below.refl _ _) _)⟩
      clear hwa hwb bs ca' cb' OW
      rintro W ⟨ca', cb', hwa, hwb, bs, OW⟩
      have ow : W.ownsRow w.heap.size 2 1 u5 k (L.map (Value.int .i64)) := by rw [KK.out]; exact OW.out.own
      have OR := hide ow
      clear ow
      go_region_held3 (fun w' => w'.cell? ⟨ga, oa, none⟩ = some (.int .i64 x) ∧ w'.cell? ⟨gb, ob, none⟩ = some (.int .i64 y))
        (first | exact ⟨far9 hgrow ca' hwa aga, far9 hgrow cb' hwb agb⟩ | go_keep)
        ((refine step_append_lies _ (by rfl) _ _ _ (by rfl) w.heap.size 2 i0 _ 1 8 Try.underlying29 HI.out.1 HI.out.2.1 HI.out.2.2.1 HI.out.2.2.2 rfl (by omega) u5 k (L.map (Value.int .i64)) (by rfl) ((OR.out.alloc _).drew)
              ⟨W.heap.size, 0, none⟩ 1 1 [.int .i64 x] (by rfl) (by rfl) (World.news_of_block (cs := #[.int .i64 x]) (t := 2) (fr := (0, 0)) (heap_alloc_new W _)) one_i64
              (by omega) KM.out KB.out (by simp; omega) (W.heap.size + 1) (by simp) ?_; intro gg cap w1 hown1 hgrow hat hlt))
      all_goals
        have O9 : OwnI w w1 (.slice (some ⟨gg, 0, none⟩) (k + 1) cap) (L ++ [x]) := OwnI.more OW.out (by rw [← KK.out]; exact hown1) hgrow
        have P9 := hide O9
        clear O9 hown1 hgrow hat hlt OR
        go_wp2_with fail
        go_roundw
        case rel =>
          refine ⟨A2, some ⟨gb, ob, none⟩, c - 1, d, us, y :: ts, L ++ [x], ?_, ?_, ?_, ?_, P9.out, ?_, ?_⟩
          · first | (rw [N1.out]; done) | (rw [N1.out]; rfl) | (rw [List.length_cons, N1.out]; done)
          · first | (rw [N2.out]; done) | (rw [N2.out]; rfl) | (rw [List.length_cons, N2.out]; done)
          · have q := H1'.out
            have q1 := IA.out.2
            have q2 := IB.out.2
            show _ ∧ _ ∧ _ ∧ _ ∧ _ ∧ _
            rw [List.length_cons]
            refine ⟨?_, ?_, ?_, ?_, ?_, ?_⟩
            all_goals first | (have := N1.out; have := N2.out; omega) | exact q1 | exact q2 | (intro h; cases h)
          · exact ⟨IA.out.1, H2.out.2⟩
          · show _ = _
            rw [List.append_assoc]; exact MM.out
          · show _ = _
            have := LL'.out
            rw [List.length_append, List.length_cons, ← KK.out]
            simp only [List.length_cons, List.length_nil]
            omega
        case measure => simp [lenV9]
end Go.Proofs.Ytebiddmadmmfpaa
/- timer: the reference's Merge; timer.Merge. -/
namespace Go.Proofs.Ytebiddmadmmfpaa
set_option linter.unusedVariables false
set_option linter.unusedSimpArgs false
open Go.RowKit W T9
theorem new_ints (w : World) (x : Int) (t : TypeId) : IsInts .i64 (w.alloc (.cells #[.int .i64 x] t)) (some ⟨w.heap.size, 0, none⟩) [x] :=
  .inr ⟨_, 0, rfl, ⟨fun j hj => by
    have : j = 0 := by simpa using hj
    subst this; simp [go_sem], by simp⟩⟩
theorem take_drop_cons {xs : List Int} {p : Nat} (h : p < xs.length) : xs.drop p = xs[p] :: xs.drop (p + 1) := List.drop_eq_getElem_cons h
set_option maxRecDepth 100000 in
set_option maxHeartbeats 8000000 in
theorem rmerge_spec (a b : Option Addr) (c d : Nat) (xs ys : List Int) (w : World) (hx : IsInts .i64 w a xs) (hy : IsInts .i64 w b ys) (hl : (xs.length + ys.length) * 8 ≤ 140737488355328) :
    Calls Try.prog 17 #[.slice a xs.length c, .slice b ys.length d] w fun e w' => ∃ v, e = .returned v ∧ OwnI w w' v (mg xs ys) := by
  have HX := hide hx
  have HY := hide hy
  obtain ⟨M, hM⟩ : ∃ M, M = mg xs ys := ⟨_, rfl⟩
  rw [← hM]
  have HM := hide hM
  obtain ⟨m, hm⟩ : ∃ m, m = xs.length := ⟨_, rfl⟩
  obtain ⟨n, hn⟩ : ∃ n, n = ys.length := ⟨_, rfl⟩
  rw [← hm, ← hn] at hl ⊢
  have HA := hide hm
  have HB := hide hn
  clear hx hy hM hm hn
  go_enter Try.func17, Try.ntmps17
  go_wp2_with fail
  go_loopw [5, 6, 7] (fun v i k wr => ∃ (p q : Nat) (L : List Int), p ≤ m ∧ q ≤ n ∧ i = .int .i64 p ∧ k = .int .i64 q ∧ Hid (OwnI w wr v L) ∧ Hid (L ++ mg (xs.drop p) (ys.drop q) = M) ∧ Hid (L.length = p + q)) (fun _ i k _ => (m - (intOf i).toNat) + (n - (intOf k).toNat))
  case atStart =>
    refine ⟨0, 0, [], by omega, by omega, rfl, rfl, ⟨⟨rfl, .inl ⟨rfl, rfl⟩⟩, Below.refl _ _⟩, ?_, rfl⟩
    show [] ++ mg (xs.drop 0) (ys.drop 0) = M
    rw [HM.out]; rfl
  case round =>
    obtain ⟨p, q, L, hp, hq, rfl, rfl, OW, HE, HL⟩ := hrel
    have A1 := HA.out
    have A2 := HB.out
    by_cases lp : p < m
    · have p1 : p < xs.length := by omega
      have ex := take_drop_cons p1
      obtain ⟨x, hxk⟩ : ∃ x, x = xs[p] := ⟨_, rfl⟩
      have xn : xs ≠ [] := fun h => by rw [h] at p1; simp at p1
      obtain ⟨ga, oa, ea, la⟩ := HX.out.resolve_left xn
      have ca := (OW.out.below.cell (p := ⟨ga, oa + p, none⟩) la.lt).trans (la.cell p p1)
      rw [← hxk] at ca ex
      have lga : ga < wr.heap.size := Nat.lt_of_lt_of_le la.lt OW.out.below.size
      have lp' : (p : Int) < (m : Int) := by omega
      by_cases lq : q < n
      · have q1 : q < ys.length := by omega
        have ey := take_drop_cons q1
        obtain ⟨y, hyk⟩ : ∃ y, y = ys[q] := ⟨_, rfl⟩
        have yn : ys ≠ [] := fun h => by rw [h] at q1; simp at q1
        obtain ⟨gb, ob, eb, lb⟩ := HY.out.resolve_left yn
        have cb := (OW.out.below.cell (p := ⟨gb, ob + q, none⟩) lb.lt).trans (lb.cell q q1)
        rw [← hyk] at cb ey
        have lgb : gb < wr.heap.size := Nat.lt_of_lt_of_le lb.lt OW.out.below.size
        have lq' : (q : Int) < (n : Int) := by omega
        have gq : decide (n ≤ q) = false := decide_eq_false (by omega)
        have b1 : (L.length + [x].length) * 8 ≤ 140737488355328 := by have := HL.out; simp; omega
        have b2 : (L.length + [y].length) * 8 ≤ 140737488355328 := by have := HL.out; simp; omega
        by_cases t : y < x
        · have NE : Hid ((L ++ [y]) ++ mg (xs.drop p) (ys.drop (q + 1)) = M) := by
            have := HE.out
            show _ = _
            rw [ex, ey, mg_b t] at this
            rw [ex, ← this]; simp
          have NL : Hid ((L ++ [y]).length = p + (q + 1)) := by have := HL.out; show _ = _; simp; omega
          have t1 : decide (x ≤ y) = false := decide_eq_false (by omega)
          subst ea eb
          clear ex ey hxk hyk xn yn la lb HE HL A1 A2 p1 q1
          go_wp2_with fail
          go_quiet (fail)
          have d1 := (show (wr.drewN nq).cell? ⟨ga, oa + p, none⟩ = some (.int .i64 x) from ca)
          have d2 := (show (wr.drewN nq).cell? ⟨gb, ob + q, none⟩ = some (.int .i64 y) from cb)
          have O0 := OW.out.later (below_drewN (Below.refl _ _) nq)
          clear OW ca cb lga lgb
          generalize wr.drewN nq = W at d1 d2 O0 ⊢
          have OW := hide O0
          clear O0
          go_wp2_with ((at_builtin; refine wpList_append_ints rfl _ _ rfl w u5 L rfl (OW.out.later ((Below.refl _ _).alloc (Nat.le_refl _) _)) (some ⟨W.heap.size, 0, none⟩) 1 1 [y] rfl rfl (new_ints W _ _) (fun h => by cases h) b2 ?_; intro v1 w1 O1))
          have O2 := hide O1
          clear O1
          go_roundw
          case rel => exact ⟨p, q + 1, L ++ [y], hp, by omega, rfl, by go_num, O2.out, NE, NL⟩
          case measure => simp [intOf]; omega
        · have NE : Hid ((L ++ [x]) ++ mg (xs.drop (p + 1)) (ys.drop q) = M) := by
            have := HE.out
            show _ = _
            rw [ex, ey, mg_a t] at this
            rw [ey, ← this]; simp
          have NL : Hid ((L ++ [x]).length = p + 1 + q) := by have := HL.out; show _ = _; simp; omega
          have t1 : decide (x ≤ y) = true := decide_eq_true (by omega)
          subst ea eb
          clear ex ey hxk hyk xn yn la lb HE HL A1 A2 p1 q1
          go_wp2_with fail
          go_quiet (fail)
          have d1 := (show (wr.drewN nq).cell? ⟨ga, oa + p, none⟩ = some (.int .i64 x) from ca)
          have d2 := (show (wr.drewN nq).cell? ⟨gb, ob + q, none⟩ = some (.int .i64 y) from cb)
          have O0 := OW.out.later (below_drewN (Below.refl _ _) nq)
          clear OW ca cb lga lgb
          generalize wr.drewN nq = W at d1 d2 O0 ⊢
          have OW := hide O0
          clear O0
          go_wp2_with ((at_builtin; refine wpList_append_ints rfl _ _ rfl w u5 L rfl (OW.out.later ((Below.refl _ _).alloc (Nat.le_refl _) _)) (some ⟨W.heap.size, 0, none⟩) 1 1 [x] rfl rfl (new_ints W _ _) (fun h => by cases h) b1 ?_; intro v1 w1 O1))
          have O2 := hide O1
          clear O1
          go_roundw
          case rel => exact ⟨p + 1, q, L ++ [x], by omega, hq, by go_num, rfl, O2.out, NE, NL⟩
          case measure => simp [intOf]; omega
      · obtain rfl : q = n := by omega
        have gq : decide (q ≤ q) = true := decide_eq_true (by omega)
        have b1 : (L.length + [x].length) * 8 ≤ 140737488355328 := by have := HL.out; simp; omega
        have dn : ys.drop q = [] := List.drop_eq_nil_of_le (by omega)
        have NE : Hid ((L ++ [x]) ++ mg (xs.drop (p + 1)) (ys.drop q) = M) := by
          have := HE.out
          show _ = _
          rw [ex, dn, mg_nil2] at this
          rw [dn, mg_nil2, ← this]; simp
        have NL : Hid ((L ++ [x]).length = p + 1 + q) := by have := HL.out; show _ = _; simp; omega
        subst ea
        clear ex hxk xn la HE HL A1 A2 p1 dn
        go_wp2_with fail
        go_quiet (fail)
        have d1 := (show (wr.drewN nq).cell? ⟨ga, oa + p, none⟩ = some (.int .i64 x) from ca)
        have O0 := OW.out.later (below_drewN (Below.refl _ _) nq)
        clear OW ca lga
        generalize wr.drewN nq = W at d1 O0 ⊢
        have OW := hide O0
        clear O0
        go_wp2_with ((at_builtin; refine wpList_append_ints rfl _ _ rfl w u5 L rfl (OW.out.later ((Below.refl _ _).alloc (Nat.le_refl _) _)) (some ⟨W.heap.size, 0, none⟩) 1 1 [x] rfl rfl (new_ints W _ _) (fun h => by cases h) b1 ?_; intro v1 w1 O1))
        have O2 := hide O1
        clear O1
        go_roundw
        case rel => exact ⟨p + 1, q, L ++ [x], by omega, hq, by go_num, rfl, O2.out, NE, NL⟩
        case measure => simp [intOf]; omega
    · obtain rfl : p = m := by omega
      have dn : xs.drop p = [] := List.drop_eq_nil_of_le (by omega)
      by_cases lq : q < n
      · have q1 : q < ys.length := by omega
        have ey := take_drop_cons q1
        obtain ⟨y, hyk⟩ : ∃ y, y = ys[q] := ⟨_, rfl⟩
        have yn : ys ≠ [] := fun h => by rw [h] at q1; simp at q1
        obtain ⟨gb, ob, eb, lb⟩ := HY.out.resolve_left yn
        have cb := (OW.out.below.cell (p := ⟨gb, ob + q, none⟩) lb.lt).trans (lb.cell q q1)
        rw [← hyk] at cb ey
        have lgb : gb < wr.heap.size := Nat.lt_of_lt_of_le lb.lt OW.out.below.size
        have lq' : (q : Int) < (n : Int) := by omega
        have gq : decide (n ≤ q) = false := decide_eq_false (by omega)
        have gp : decide (p < p) = false := decide_eq_false (by omega)
        have b2 : (L.length + [y].length) * 8 ≤ 140737488355328 := by have := HL.out; simp; omega
        have NE : Hid ((L ++ [y]) ++ mg (xs.drop p) (ys.drop (q + 1)) = M) := by
          have := HE.out
          show _ = _
          rw [ey, dn, mg_nil] at this
          rw [dn, mg_nil, ← this]; simp
        have NL : Hid ((L ++ [y]).length = p + (q + 1)) := by have := HL.out; show _ = _; simp; omega
        subst eb
        clear ey hyk yn lb HE HL A1 A2 q1 dn
        go_wp2_with fail
        go_quiet (fail)
        have d2 := (show (wr.drewN nq).cell? ⟨gb, ob + q, none⟩ = some (.int .i64 y) from cb)
        have O0 := OW.out.later (below_drewN (Below.refl _ _) nq)
        clear OW cb lgb
        generalize wr.drewN nq = W at d2 O0 ⊢
        have OW := hide O0
        clear O0
        go_wp2_with ((at_builtin; refine wpList_append_ints rfl _ _ rfl w u5 L rfl (OW.out.later ((Below.refl _ _).alloc (Nat.le_refl _) _)) (some ⟨W.heap.size, 0, none⟩) 1 1 [y] rfl rfl (new_ints W _ _) (fun h => by cases h) b2 ?_; intro v1 w1 O1))
        have O2 := hide O1
        clear O1
        go_roundw
        case rel => exact ⟨p, q + 1, L ++ [y], hp, by omega, rfl, by go_num, O2.out, NE, NL⟩
        case measure => simp [intOf]; omega
      · obtain rfl : q = n := by omega
        have dn2 : ys.drop q = [] := List.drop_eq_nil_of_le (by omega)
        have E : Hid (L = M) := by
          have := HE.out
          show _ = _
          rw [dn, dn2, mg_nil, List.append_nil] at this
          exact this
        clear dn dn2 HE HL A1 A2
        go_wp2_with fail
        go_returns
        exact ⟨u5, rfl, by rw [← E.out]; exact OW.out⟩
theorem tmerge_spec (a b : Option Addr) (ca cb : Nat) (xs ys : List Int) (w : World) (hx : IsInts .i64 w a xs) (hy : IsInts .i64 w b ys) (hca : xs.length ≤ ca) (hcb : ys.length ≤ cb) (hna : a = none → ca = 0) (hnb : b = none → cb = 0) (ha63 : ca ≤ 9223372036854775807) (hb63 : cb ≤ 9223372036854775807) (hl : (xs.length + ys.length) * 8 ≤ 140737488355328) :
    Calls Try.prog 16 #[.slice a xs.length ca, .slice b ys.length cb] w fun e w' => ∃ v, e = .returned v ∧ OwnI w w' v (mg xs ys) := by
  have k := merge_spec a b ca cb xs ys w hx hy hca hcb hna hnb ha63 hb63 hl
  clear hx hy hca hcb hna hnb ha63 hb63 hl
  go_enter Try.func16, Try.ntmps16
  go_wp2_with fail
  refine k.mono ?_
  rintro e w1 ⟨v, rfl, O⟩
  have O2 := hide O
  clear O k
  go_wp2_with fail
  go_returns
  exact ⟨v, rfl, O2.out⟩
end Go.Proofs.Ytebiddmadmmfpaa
/- Slices of numbers as they are read, with their capacity and their shape. -/
namespace Go.Proofs.Ytebiddmadmmfpaa
set_option linter.unusedVariables false
set_option linter.unusedSimpArgs false
open Go.RowKit W
open Go.ChangeShapes Go.WideShapes in
/-- A slice of numbers as it is read. -/
theorem isIntu_of {H : Type} {enc : TypeId × Value → H} {P : Program} {w : World} {base : Nat} {spare : Nat → Bool} {held : Bool} {n : Nat} {t e : TypeId} {k : IntKind} {v : Value} {y : DataW H × List MemPlace}
    (ht : P.underlying t = some (.slice e)) (he : P.underlying e = some (.int k)) (hc : P.cellsOf e = 1) (h : DataW.trod enc P w base spare held n t [v] = some y) :
    ∃ a c xs, v = .slice a (List.length xs) c ∧ xs.length ≤ c ∧ c ≤ 9223372036854775807 ∧ (a = none → xs.length = 0 ∧ c = 0) ∧ IsInts k w a xs ∧ (∀ x ∈ xs, (Lit.int k x).wf = true) ∧ (xs = [] ∨ ∃ el sp, y.1 = .slice el sp ∧ el.length = xs.length) := by
  rcases open_ints ht he hc h with ⟨hcs, _⟩ | ⟨a, len, cap, zs, hcs, _, hl, hm, hz, hy, hcell, hwf⟩
  · simp at hcs
    exact ⟨none, 0, [], hcs, by simp, by simp, by simp, .inl rfl, by simp, .inl rfl⟩
  · simp at hcs
    have lz : len ≤ zs.length := by rw [hz]; split <;> omega
    have lt : (zs.take len).length = len := by rw [List.length_take]; omega
    unfold maxLen at hm
    refine ⟨some a, cap, zs.take len, by rw [lt]; exact hcs, by rw [lt]; exact hl, by omega, (by intro e; cases e), ?_, fun x hx => hwf x (List.mem_of_mem_take hx), .inr ⟨lits k (zs.take len), lits k (zs.drop len), by rw [hy], by simp [lits]⟩⟩
    rcases Nat.eq_zero_or_pos len with rfl | hpos
    · exact .inl (by simp)
    · have g0 := hcell 0 (by omega)
      obtain ⟨b, off, spot⟩ := a
      have hspot : spot = none := by simpa [Addr.add] using World.cell?_spot g0
      subst hspot
      refine .inr ⟨b, off, rfl, ⟨fun j hj => ?_, ?_⟩⟩
      · rw [lt] at hj
        have := hcell j (by omega)
        rw [add_plain] at this
        rw [this]
        simp [List.getD_eq_getElem?_getD, List.getElem?_eq_getElem (show j < zs.length by omega)]
      · have := hcell 0 (by omega)
        rw [add_plain] at this
        exact cellb_lt this
end Go.Proofs.Ytebiddmadmmfpaa
/- timer: TimerShuffles. (gen_tshuf.py) -/
namespace Go.Proofs.Ytebiddmadmmfpaa
set_option linter.unusedVariables false
set_option linter.unusedSimpArgs false
open Go.RowKit W T9
theorem OwnI.is2 {w wr : World} {v : Value} {xs : List Int} (h : OwnI w wr v xs) : ∃ a c, v = .slice a xs.length c ∧ xs.length ≤ c ∧ c ≤ 9223372036854775807 ∧ IsInts .i64 wr a xs ∧ (a = none → c = 0) := by
  obtain ⟨a, c, e, h1, h2, h3, _⟩ := h.is
  refine ⟨a, c, e, h1, by unfold maxLen at h2; omega, h3, fun z => ?_⟩
  subst z
  rcases h.own.2 with ⟨e2, h0⟩ | ⟨g, cap, cur, e2, _⟩
  · rw [e] at e2; injection e2
  · rw [e] at e2; injection e2 with q; cases q
theorem OwnI.nil9 (w : World) : OwnI w w (.slice none 0 0) [] := ⟨⟨rfl, .inl ⟨rfl, rfl⟩⟩, Below.refl _ _⟩
set_option maxRecDepth 100000 in
set_option maxHeartbeats 8000000 in
theorem shuf_walk (a b : Option Addr) (ca cb nb n : Nat) (xs : List Int) (cut p : Int) (L : List Int) (o0 o1 o2 o3 o4 o5 o6 o7 OE s0 s1 s2 s3 s4 UE BE : Int) (w : World)
    (hn : n = xs.length) (hl : n ≤ 17592186044416) (hca : n ≤ ca) (hna : a = none → ca = 0) (hx : IsInts .i64 w a xs) (hcut : IsHi cut)
    (hL : L.length ≤ 33) (hL2 : ∀ x ∈ L, 0 ≤ x ∧ x ≤ n) (hL3 : BE = 0 → L.sum = n)
    (kO : ∀ k, k ≤ n → ∀ a' c' w' ys, ys = xs ∨ ys = (xs.drop k).reverse ++ xs.take k → IsInts .i64 w' a' ys → Calls Try.prog 18 #[.slice a' n c'] w' fun e w'' => e = .returned (.tuple #[.agg #[.int .i64 o0, .int .i64 o1, .int .u64 o2, .int .i64 o3, .int .i64 o4, .int .i64 o5, .int .i64 o6, .int .i64 o7], .int .i64 OE]) ∧ Below w'.heap.size w' w'')
    (kU : ∀ k, k ≤ n → ∀ a' c' w' ys, ys = xs ∨ ys = (xs.drop k).reverse ++ xs.take k → IsInts .i64 w' a' ys → Calls Try.prog 20 #[.slice a' n c', .int .i64 p] w' fun e w'' => e = .returned (.tuple #[.agg #[.int .i64 s0, .int .i64 s1, .int .u64 s2, .int .i64 s3, .int .i64 s4], .int .i64 UE]) ∧ Below w'.heap.size w' w'')
    (kB : ∀ k, k ≤ n → ∀ a' c' w' ys, Below w.heap.size w w' → ys = xs ∨ ys = (xs.drop k).reverse ++ xs.take k → IsInts .i64 w' a' ys → Calls Try.prog 22 #[.slice a' n c', .slice b nb cb] w' fun e w'' => ∃ a2 c2, e = .returned (.tuple #[.slice a2 L.length c2, .int .i64 BE]) ∧ IsInts .i64 w'' a2 L ∧ Below w'.heap.size w' w'') :
    Calls Try.prog 8 #[.slice a n ca, .int .i64 cut, .int .i64 p, .slice b nb cb] w fun e w' => e = .returned (.bool true) ∧ Below w.heap.size w w' := by
  have KO := hide kO
  have KU := hide kU
  have KB := hide kB
  have HX := hide hx
  have HN := hide hn
  have NA := hide hna
  have CA := hide hca
  have H1 := hide hL2
  have H3 := hide hL3
  have k4 := alive9
  obtain ⟨t0, t1⟩ := hcut
  have ew2 : IntKind.i64.wrap ((n : Int) - 1) = (n : Int) - 1 := by rw [IntKind.wrap_i64]; omega
  clear hn hna hca hx hL2 hL3 kO kU kB
  by_cases g1 : cut < 0
  · obtain ⟨k, hk0⟩ : ∃ k, k = n / 2 := ⟨_, rfl⟩
    have ek : (n : Int) / 2 = (k : Int) := by omega
    have hk : k ≤ n := by omega
    clear hk0
    go_enter Try.func8, Try.ntmps8
    go_wp2_with fail
    clear ew2
    go_loopw [9, 10] (fun v i wr => ∃ (j : Nat) (z : Int), k ≤ j ∧ j ≤ n ∧ i = .int .i64 z ∧ Hid (z + 1 = j) ∧ Hid (OwnI w wr v (xs.drop j).reverse)) (fun _ i _ => (intOf i + 1).toNat)
    case atStart => exact ⟨n, _, hk, Nat.le_refl _, rfl, (show (n : Int) - 1 + 1 = n by omega), (by show OwnI w w _ _; rw [List.drop_eq_nil_of_le (by have := HN.out; omega)]; exact OwnI.nil9 w)⟩
    case round =>
      obtain ⟨j, z, hj, hj2, rfl, HZ, OW⟩ := hrel
      rcases Nat.lt_or_ge k j with lt | ge
      · obtain ⟨q, rfl⟩ : ∃ q, j = q + 1 := ⟨j - 1, by omega⟩
        obtain rfl : z = (q : Int) := by have := HZ.out; omega
        have q1 : q < xs.length := by have := HN.out; omega
        obtain ⟨g, o, ea, la⟩ := HX.out.resolve_left (fun h => by rw [h] at q1; simp at q1)
        subst ea
        have e1 := (OW.out.below.cell (p := ⟨g, o + q, none⟩) la.lt).trans (la.cell q q1)
        obtain ⟨x, hxk⟩ : ∃ x, x = xs[q] := ⟨_, rfl⟩
        rw [← hxk] at e1
        have NL : Hid ((xs.drop (q + 1)).reverse ++ [x] = (xs.drop q).reverse) := by show _ = _; rw [List.drop_eq_getElem_cons q1, List.reverse_cons, hxk]
        have bl : ((xs.drop (q + 1)).reverse.length + [x].length) * 8 ≤ 140737488355328 := by have := HN.out; simp; omega
        have gk : decide (k ≤ q) = true := decide_eq_true (by omega)
        have gk2 : (k : Int) ≤ (q : Int) := by omega
        have gq : q < n := by omega
        have gw : IntKind.i64.wrap ((q : Int) - 1) = (q : Int) - 1 := by rw [IntKind.wrap_i64]; omega
        clear hxk la q1
        go_wp2_with ((at_builtin; refine wpList_append_ints rfl _ _ rfl w u9 _ rfl (OW.out.later ((Below.refl _ _).alloc (Nat.le_refl _) _)) (some ⟨wr.heap.size, 0, none⟩) 1 1 [x] rfl rfl (new_ints wr _ _) (fun h => by cases h) bl ?_; intro v1 w1 O1; rw [NL.out] at O1; have O2 := hide O1; clear O1))
        go_roundw
        case rel => exact ⟨q, _, by omega, by omega, rfl, (show (q : Int) - 1 + 1 = q by omega), O2.out⟩
        case measure => first | (simp [intOf]; done) | (simp [intOf]; omega)
      · obtain rfl : j = k := by omega
        have gz : decide ((j : Int) ≤ z) = false := decide_eq_false (by have := HZ.out; omega)
        have sl := ints_upto a n ca j hj2 CA.out
        have bl : ((xs.drop j).reverse.length + (xs.take j).length) * 8 ≤ 140737488355328 := by have := HN.out; simp; omega
        have lt_ : Hid (j = (xs.take j).length) := by have := HN.out; show _ = _; rw [List.length_take]; omega
        have src : Hid (IsInts .i64 wr a (xs.take j)) := by
          rcases HX.out with h | ⟨g, o, e, h⟩
          · exact .inl (by rw [h]; simp)
          · exact .inr ⟨g, o, e, lie_take (h.later OW.out.below) j⟩
        go_wp2_with ((at_builtin; refine wpList_append_ints rfl _ _ rfl w u9 _ rfl OW.out a j ca (xs.take j) rfl lt_.out src.out NA.out bl ?_; intro v1 w1 O1; have O2 := hide O1; clear O1))
        obtain ⟨am, cm, rfl, _, _, im, _⟩ := O2.out.is2
        have BM := hide O2.out.below
        have IM := hide im
        have EM : Hid (((xs.drop j).reverse ++ xs.take j).length = n) := by have := HN.out; show _ = _; simp; omega
        obtain ⟨ys, hys⟩ : ∃ ys, ys = (xs.drop j).reverse ++ xs.take j := ⟨_, rfl⟩
        have KO1 := hide (fun a' c' w' h => KO.out j hj2 a' c' w' xs (.inl rfl) h)
        have KU1 := hide (fun a' c' w' h => KU.out j hj2 a' c' w' xs (.inl rfl) h)
        have KB1 := hide (fun a' c' w' b h => KB.out j hj2 a' c' w' xs b (.inl rfl) h)
        have KO2 := hide (fun a' c' w' h => KO.out j hj2 a' c' w' ys (.inr hys) h)
        have KU2 := hide (fun a' c' w' h => KU.out j hj2 a' c' w' ys (.inr hys) h)
        have KB2 := hide (fun a' c' w' b h => KB.out j hj2 a' c' w' ys b (.inr hys) h)
        rw [← hys] at IM EM
        rw [← hys]
        rw [EM.out]
        clear KO KU KB im O2 OW src lt_ bl sl gz hys HZ ge hj hj2 hk EM CA NA
        have JX := hide (HX.out.later BM.out)
        have JM := hide IM.out
        clear HX IM
        go_wp2_with fail
        refine (KO1.out a ca _ JX.out).mono ?_
        clear KO1
        rintro e v0 ⟨rfl, h0⟩
        have g0 := hide h0
        have BN := hide (BM.out.trans (g0.out.mono BM.out.size))
        clear BM
        have BM := BN
        clear BN
        have JXn := hide (JX.out.later g0.out)
        clear JX
        have JX := JXn
        clear JXn
        have JMn := hide (JM.out.later g0.out)
        clear JM
        have JM := JMn
        clear JMn
        clear h0 g0
        go_wp2_with fail
        have A1 := hide (show ∀ o, Below v0.heap.size v0 (v0.alloc o) from fun o => (Below.refl _ _).alloc (Nat.le_refl _) o)
        refine (KO2.out am cm _ (JM.out.later (A1.out _))).mono ?_
        clear KO2
        rintro e v1 ⟨rfl, h1⟩
        have g1 := hide ((A1.out _).trans (h1.mono (by simp)))
        have R0 := hide ((Box8.made (w := v0)).later h1)
        have BN := hide (BM.out.trans (g1.out.mono BM.out.size))
        clear BM
        have BM := BN
        clear BN
        have JXn := hide (JX.out.later g1.out)
        clear JX
        have JX := JXn
        clear JXn
        have JMn := hide (JM.out.later g1.out)
        clear JM
        have JM := JMn
        clear JMn
        clear h1 g1 A1
        go_wp2_with fail
        have A2 := hide (show ∀ o, Below v1.heap.size v1 (v1.alloc o) from fun o => (Below.refl _ _).alloc (Nat.le_refl _) o)
        refine (KU1.out a ca _ (JX.out.later (A2.out _))).mono ?_
        clear KU1
        rintro e v2 ⟨rfl, h2⟩
        have g2 := hide ((A2.out _).trans (h2.mono (by simp)))
        have R1 := hide ((Box8.made (w := v1)).later h2)
        have S2_0 := hide (R0.out.later g2.out)
        clear R0
        have R0 := S2_0
        clear S2_0
        have BN := hide (BM.out.trans (g2.out.mono BM.out.size))
        clear BM
        have BM := BN
        clear BN
        have JXn := hide (JX.out.later g2.out)
        clear JX
        have JX := JXn
        clear JXn
        have JMn := hide (JM.out.later g2.out)
        clear JM
        have JM := JMn
        clear JMn
        clear h2 g2 A2
        go_wp2_with fail
        have A3 := hide (show ∀ o, Below v2.heap.size v2 (v2.alloc o) from fun o => (Below.refl _ _).alloc (Nat.le_refl _) o)
        refine (KU2.out am cm _ (JM.out.later (A3.out _))).mono ?_
        clear KU2
        rintro e v3 ⟨rfl, h3⟩
        have g3 := hide ((A3.out _).trans (h3.mono (by simp)))
        have R2 := hide ((Box5.made (w := v2)).later h3)
        have S3_0 := hide (R0.out.later g3.out)
        clear R0
        have R0 := S3_0
        clear S3_0
        have S3_1 := hide (R1.out.later g3.out)
        clear R1
        have R1 := S3_1
        clear S3_1
        have BN := hide (BM.out.trans (g3.out.mono BM.out.size))
        clear BM
        have BM := BN
        clear BN
        have JXn := hide (JX.out.later g3.out)
        clear JX
        have JX := JXn
        clear JXn
        have JMn := hide (JM.out.later g3.out)
        clear JM
        have JM := JMn
        clear JMn
        clear h3 g3 A3
        go_wp2_with fail
        have A4 := hide (show ∀ o, Below v3.heap.size v3 (v3.alloc o) from fun o => (Below.refl _ _).alloc (Nat.le_refl _) o)
        refine (KB1.out a ca _ (BM.out.trans ((A4.out _).mono BM.out.size)) (JX.out.later (A4.out _))).mono ?_
        clear KB1
        rintro e v4 ⟨x4, d4, rfl, ix4, h4⟩
        have IX4 := hide ix4
        clear ix4
        have g4 := hide ((A4.out _).trans (h4.mono (by simp)))
        have R3 := hide ((Box5.made (w := v3)).later h4)
        have S4_0 := hide (R0.out.later g4.out)
        clear R0
        have R0 := S4_0
        clear S4_0
        have S4_1 := hide (R1.out.later g4.out)
        clear R1
        have R1 := S4_1
        clear S4_1
        have S4_2 := hide (R2.out.later g4.out)
        clear R2
        have R2 := S4_2
        clear S4_2
        have BN := hide (BM.out.trans (g4.out.mono BM.out.size))
        clear BM
        have BM := BN
        clear BN
        have JXn := hide (JX.out.later g4.out)
        clear JX
        have JX := JXn
        clear JXn
        have JMn := hide (JM.out.later g4.out)
        clear JM
        have JM := JMn
        clear JMn
        clear h4 g4 A4
        go_wp2_with fail
        refine (KB2.out am cm _ BM.out JM.out).mono ?_
        clear KB2
        rintro e v5 ⟨x5, d5, rfl, ix5, h5⟩
        have IX5 := hide ix5
        clear ix5
        have g5 := hide h5
        have S5_0 := hide (R0.out.later g5.out)
        clear R0
        have R0 := S5_0
        clear S5_0
        have S5_1 := hide (R1.out.later g5.out)
        clear R1
        have R1 := S5_1
        clear S5_1
        have S5_2 := hide (R2.out.later g5.out)
        clear R2
        have R2 := S5_2
        clear S5_2
        have S5_3 := hide (R3.out.later g5.out)
        clear R3
        have R3 := S5_3
        clear S5_3
        have BN := hide (BM.out.trans (g5.out.mono BM.out.size))
        clear BM
        have BM := BN
        clear BN
        have JXn := hide (JX.out.later g5.out)
        clear JX
        have JX := JXn
        clear JXn
        have JMn := hide (JM.out.later g5.out)
        clear JM
        have JM := JMn
        clear JMn
        have IX4n := hide (IX4.out.later g5.out)
        clear IX4
        have IX4 := IX4n
        clear IX4n
        clear h5 g5
        obtain ⟨p0, p1, p2, p3, p4, p5, p6, p7, pf0, pf1, pf2, pf3, pf4, pf5, pf6, pf7, pz⟩ := R0.out
        obtain ⟨r0, r1, r2, r3, r4, r5, r6, r7, rf0, rf1, rf2, rf3, rf4, rf5, rf6, rf7, rz⟩ := R1.out
        obtain ⟨x0, x1, x2, x3, x4, xf0, xf1, xf2, xf3, xf4, xz⟩ := R2.out
        obtain ⟨y0, y1, y2, y3, y4, yf0, yf1, yf2, yf3, yf4, yz⟩ := R3.out
        clear R0 R1 R2 R3 pf0 pf1 pf2 pf3 pf4 pf5 pf6 pf7 rf0 rf1 rf2 rf3 rf4 rf5 rf6 rf7 xf0 xf1 xf2 xf3 xf4 yf0 yf1 yf2 yf3 yf4 JX JM
        obtain ⟨ln, hln⟩ : ∃ ln, ln = L.length := ⟨_, rfl⟩
        rw [← hln]
        rw [← hln] at hL
        have LN := hide hln
        clear hln
        go_wp2_with fail
        clear p0 p1 p2 p3 p4 p5 p6 p7 r0 r1 r2 r3 r4 r5 r6 r7 x0 x1 x2 x3 x4 y0 y1 y2 y3 y4
        go_loopw [23, 24] (fun s i wr => ∃ (q : Nat) (z : Int), q ≤ ln ∧ i = .int .i64 q ∧ s = .int .i64 z ∧ Hid (z = (L.take q).sum) ∧ 0 ≤ z ∧ z ≤ (q : Int) * 17592186044416 ∧ Hid (Below v5.heap.size v5 wr)) (fun _ i _ => ln - (intOf i).toNat)
        case atStart => exact ⟨0, 0, by omega, rfl, rfl, rfl, by omega, by omega, Below.refl _ _⟩
        case round =>
          obtain ⟨q, z, hq, rfl, rfl, HZ, z0, z1, bl⟩ := hrel
          by_cases hlt : q < ln
          · have q1 : q < L.length := by have := LN.out; omega
            have nl : L ≠ [] := fun h => by rw [h] at q1; simp at q1
            obtain ⟨g1, o1', ea1, l1⟩ := IX4.out.resolve_left nl
            obtain ⟨g2, o2', ea2, l2⟩ := IX5.out.resolve_left nl
            have e1 := (l1.later bl.out).cell q q1
            have e2 := (l2.later bl.out).cell q q1
            have bx := H1.out _ (List.getElem_mem q1)
            have st : Hid (z + L[q] = (L.take (q + 1)).sum) := by show _ = _; rw [sum_take q1, HZ.out]
            obtain ⟨x, hx⟩ : ∃ x, x = L[q] := ⟨_, rfl⟩
            rw [← hx] at e1 e2 bx st
            have hlt2 : (q : Int) < (ln : Int) := by omega
            obtain ⟨bx0, bx1⟩ := bx
            have zb : z ≤ 580542139465728 := by omega
            have xb : x ≤ 17592186044416 := by omega
            subst ea1 ea2
            have z3 : Hid (z + x ≤ ((q + 1 : Nat) : Int) * 17592186044416) := by show _ ≤ _; omega
            clear hx l1 l2 nl q1 HZ bx1 z1
            go_wp2_with fail
            go_quiet (fail)
            go_wp2_with fail
            go_roundw
            case rel => exact ⟨q + 1, z + x, by omega, by go_num, rfl, st, by omega, z3.out, below_drewN bl.out _⟩
            case measure => simp [intOf]; omega
          · obtain rfl : q = ln := by omega
            have hz : Hid (BE = 0 → z = n) := fun h => by rw [HZ.out, LN.out, List.take_length]; exact H3.out h
            by_cases be : BE = 0
            · obtain rfl : z = (n : Int) := hz.out be
              subst be
              go_wp2_with fail
              refine (k4 _).mono ?_
              rintro e w9 ⟨rfl, h9⟩
              have B9 := hide (BM.out.trans ((bl.out.trans (h9.mono bl.out.size)).mono BM.out.size))
              clear h9 k4
              go_wp2_with fail
              go_returns
              exact ⟨rfl, B9.out⟩
            · have be2 : (BE == 0) = false := by simpa using be
              have be3 : (BE != 0) = true := by rw [bne, be2]; rfl
              clear be
              go_wp2_with fail
              refine (k4 _).mono ?_
              rintro e w9 ⟨rfl, h9⟩
              have B9 := hide (BM.out.trans ((bl.out.trans (h9.mono bl.out.size)).mono BM.out.size))
              clear h9 k4
              go_wp2_with fail
              go_returns
              exact ⟨rfl, B9.out⟩
  · by_cases g2 : (n : Int) < cut
    · obtain ⟨k, hk0⟩ : ∃ k, k = n / 2 := ⟨_, rfl⟩
      have ek : (n : Int) / 2 = (k : Int) := by omega
      have hk : k ≤ n := by omega
      clear hk0
      go_enter Try.func8, Try.ntmps8
      go_wp2_with fail
      clear ew2
      go_loopw [9, 10] (fun v i wr => ∃ (j : Nat) (z : Int), k ≤ j ∧ j ≤ n ∧ i = .int .i64 z ∧ Hid (z + 1 = j) ∧ Hid (OwnI w wr v (xs.drop j).reverse)) (fun _ i _ => (intOf i + 1).toNat)
      case atStart => exact ⟨n, _, hk, Nat.le_refl _, rfl, (show (n : Int) - 1 + 1 = n by omega), (by show OwnI w w _ _; rw [List.drop_eq_nil_of_le (by have := HN.out; omega)]; exact OwnI.nil9 w)⟩
      case round =>
        obtain ⟨j, z, hj, hj2, rfl, HZ, OW⟩ := hrel
        rcases Nat.lt_or_ge k j with lt | ge
        · obtain ⟨q, rfl⟩ : ∃ q, j = q + 1 := ⟨j - 1, by omega⟩
          obtain rfl : z = (q : Int) := by have := HZ.out; omega
          have q1 : q < xs.length := by have := HN.out; omega
          obtain ⟨g, o, ea, la⟩ := HX.out.resolve_left (fun h => by rw [h] at q1; simp at q1)
          subst ea
          have e1 := (OW.out.below.cell (p := ⟨g, o + q, none⟩) la.lt).trans (la.cell q q1)
          obtain ⟨x, hxk⟩ : ∃ x, x = xs[q] := ⟨_, rfl⟩
          rw [← hxk] at e1
          have NL : Hid ((xs.drop (q + 1)).reverse ++ [x] = (xs.drop q).reverse) := by show _ = _; rw [List.drop_eq_getElem_cons q1, List.reverse_cons, hxk]
          have bl : ((xs.drop (q + 1)).reverse.length + [x].length) * 8 ≤ 140737488355328 := by have := HN.out; simp; omega
          have gk : decide (k ≤ q) = true := decide_eq_true (by omega)
          have gk2 : (k : Int) ≤ (q : Int) := by omega
          have gq : q < n := by omega
          have gw : IntKind.i64.wrap ((q : Int) - 1) = (q : Int) - 1 := by rw [IntKind.wrap_i64]; omega
          clear hxk la q1
          go_wp2_with ((at_builtin; refine wpList_append_ints rfl _ _ rfl w u9 _ rfl (OW.out.later ((Below.refl _ _).alloc (Nat.le_refl _) _)) (some ⟨wr.heap.size, 0, none⟩) 1 1 [x] rfl rfl (new_ints wr _ _) (fun h => by cases h) bl ?_; intro v1 w1 O1; rw [NL.out] at O1; have O2 := hide O1; clear O1))
          go_roundw
          case rel => exact ⟨q, _, by omega, by omega, rfl, (show (q : Int) - 1 + 1 = q by omega), O2.out⟩
          case measure => first | (simp [intOf]; done) | (simp [intOf]; omega)
        · obtain rfl : j = k := by omega
          have gz : decide ((j : Int) ≤ z) = false := decide_eq_false (by have := HZ.out; omega)
          have sl := ints_upto a n ca j hj2 CA.out
          have bl : ((xs.drop j).reverse.length + (xs.take j).length) * 8 ≤ 140737488355328 := by have := HN.out; simp; omega
          have lt_ : Hid (j = (xs.take j).length) := by have := HN.out; show _ = _; rw [List.length_take]; omega
          have src : Hid (IsInts .i64 wr a (xs.take j)) := by
            rcases HX.out with h | ⟨g, o, e, h⟩
            · exact .inl (by rw [h]; simp)
            · exact .inr ⟨g, o, e, lie_take (h.later OW.out.below) j⟩
          go_wp2_with ((at_builtin; refine wpList_append_ints rfl _ _ rfl w u9 _ rfl OW.out a j ca (xs.take j) rfl lt_.out src.out NA.out bl ?_; intro v1 w1 O1; have O2 := hide O1; clear O1))
          obtain ⟨am, cm, rfl, _, _, im, _⟩ := O2.out.is2
          have BM := hide O2.out.below
          have IM := hide im
          have EM : Hid (((xs.drop j).reverse ++ xs.take j).length = n) := by have := HN.out; show _ = _; simp; omega
          obtain ⟨ys, hys⟩ : ∃ ys, ys = (xs.drop j).reverse ++ xs.take j := ⟨_, rfl⟩
          have KO1 := hide (fun a' c' w' h => KO.out j hj2 a' c' w' xs (.inl rfl) h)
          have KU1 := hide (fun a' c' w' h => KU.out j hj2 a' c' w' xs (.inl rfl) h)
          have KB1 := hide (fun a' c' w' b h => KB.out j hj2 a' c' w' xs b (.inl rfl) h)
          have KO2 := hide (fun a' c' w' h => KO.out j hj2 a' c' w' ys (.inr hys) h)
          have KU2 := hide (fun a' c' w' h => KU.out j hj2 a' c' w' ys (.inr hys) h)
          have KB2 := hide (fun a' c' w' b h => KB.out j hj2 a' c' w' ys b (.inr hys) h)
          rw [← hys] at IM EM
          rw [← hys]
          rw [EM.out]
          clear KO KU KB im O2 OW src lt_ bl sl gz hys HZ ge hj hj2 hk EM CA NA
          have JX := hide (HX.out.later BM.out)
          have JM := hide IM.out
          clear HX IM
          go_wp2_with fail
          refine (KO1.out a ca _ JX.out).mono ?_
          clear KO1
          rintro e v0 ⟨rfl, h0⟩
          have g0 := hide h0
          have BN := hide (BM.out.trans (g0.out.mono BM.out.size))
          clear BM
          have BM := BN
          clear BN
          have JXn := hide (JX.out.later g0.out)
          clear JX
          have JX := JXn
          clear JXn
          have JMn := hide (JM.out.later g0.out)
          clear JM
          have JM := JMn
          clear JMn
          clear h0 g0
          go_wp2_with fail
          have A1 := hide (show ∀ o, Below v0.heap.size v0 (v0.alloc o) from fun o => (Below.refl _ _).alloc (Nat.le_refl _) o)
          refine (KO2.out am cm _ (JM.out.later (A1.out _))).mono ?_
          clear KO2
          rintro e v1 ⟨rfl, h1⟩
          have g1 := hide ((A1.out _).trans (h1.mono (by simp)))
          have R0 := hide ((Box8.made (w := v0)).later h1)
          have BN := hide (BM.out.trans (g1.out.mono BM.out.size))
          clear BM
          have BM := BN
          clear BN
          have JXn := hide (JX.out.later g1.out)
          clear JX
          have JX := JXn
          clear JXn
          have JMn := hide (JM.out.later g1.out)
          clear JM
          have JM := JMn
          clear JMn
          clear h1 g1 A1
          go_wp2_with fail
          have A2 := hide (show ∀ o, Below v1.heap.size v1 (v1.alloc o) from fun o => (Below.refl _ _).alloc (Nat.le_refl _) o)
          refine (KU1.out a ca _ (JX.out.later (A2.out _))).mono ?_
          clear KU1
          rintro e v2 ⟨rfl, h2⟩
          have g2 := hide ((A2.out _).trans (h2.mono (by simp)))
          have R1 := hide ((Box8.made (w := v1)).later h2)
          have S2_0 := hide (R0.out.later g2.out)
          clear R0
          have R0 := S2_0
          clear S2_0
          have BN := hide (BM.out.trans (g2.out.mono BM.out.size))
          clear BM
          have BM := BN
          clear BN
          have JXn := hide (JX.out.later g2.out)
          clear JX
          have JX := JXn
          clear JXn
          have JMn := hide (JM.out.later g2.out)
          clear JM
          have JM := JMn
          clear JMn
          clear h2 g2 A2
          go_wp2_with fail
          have A3 := hide (show ∀ o, Below v2.heap.size v2 (v2.alloc o) from fun o => (Below.refl _ _).alloc (Nat.le_refl _) o)
          refine (KU2.out am cm _ (JM.out.later (A3.out _))).mono ?_
          clear KU2
          rintro e v3 ⟨rfl, h3⟩
          have g3 := hide ((A3.out _).trans (h3.mono (by simp)))
          have R2 := hide ((Box5.made (w := v2)).later h3)
          have S3_0 := hide (R0.out.later g3.out)
          clear R0
          have R0 := S3_0
          clear S3_0
          have S3_1 := hide (R1.out.later g3.out)
          clear R1
          have R1 := S3_1
          clear S3_1
          have BN := hide (BM.out.trans (g3.out.mono BM.out.size))
          clear BM
          have BM := BN
          clear BN
          have JXn := hide (JX.out.later g3.out)
          clear JX
          have JX := JXn
          clear JXn
          have JMn := hide (JM.out.later g3.out)
          clear JM
          have JM := JMn
          clear JMn
          clear h3 g3 A3
          go_wp2_with fail
          have A4 := hide (show ∀ o, Below v3.heap.size v3 (v3.alloc o) from fun o => (Below.refl _ _).alloc (Nat.le_refl _) o)
          refine (KB1.out a ca _ (BM.out.trans ((A4.out _).mono BM.out.size)) (JX.out.later (A4.out _))).mono ?_
          clear KB1
          rintro e v4 ⟨x4, d4, rfl, ix4, h4⟩
          have IX4 := hide ix4
          clear ix4
          have g4 := hide ((A4.out _).trans (h4.mono (by simp)))
          have R3 := hide ((Box5.made (w := v3)).later h4)
          have S4_0 := hide (R0.out.later g4.out)
          clear R0
          have R0 := S4_0
          clear S4_0
          have S4_1 := hide (R1.out.later g4.out)
          clear R1
          have R1 := S4_1
          clear S4_1
          have S4_2 := hide (R2.out.later g4.out)
          clear R2
          have R2 := S4_2
          clear S4_2
          have BN := hide (BM.out.trans (g4.out.mono BM.out.size))
          clear BM
          have BM := BN
          clear BN
          have JXn := hide (JX.out.later g4.out)
          clear JX
          have JX := JXn
          clear JXn
          have JMn := hide (JM.out.later g4.out)
          clear JM
          have JM := JMn
          clear JMn
          clear h4 g4 A4
          go_wp2_with fail
          refine (KB2.out am cm _ BM.out JM.out).mono ?_
          clear KB2
          rintro e v5 ⟨x5, d5, rfl, ix5, h5⟩
          have IX5 := hide ix5
          clear ix5
          have g5 := hide h5
          have S5_0 := hide (R0.out.later g5.out)
          clear R0
          have R0 := S5_0
          clear S5_0
          have S5_1 := hide (R1.out.later g5.out)
          clear R1
          have R1 := S5_1
          clear S5_1
          have S5_2 := hide (R2.out.later g5.out)
          clear R2
          have R2 := S5_2
          clear S5_2
          have S5_3 := hide (R3.out.later g5.out)
          clear R3
          have R3 := S5_3
          clear S5_3
          have BN := hide (BM.out.trans (g5.out.mono BM.out.size))
          clear BM
          have BM := BN
          clear BN
          have JXn := hide (JX.out.later g5.out)
          clear JX
          have JX := JXn
          clear JXn
          have JMn := hide (JM.out.later g5.out)
          clear JM
          have JM := JMn
          clear JMn
          have IX4n := hide (IX4.out.later g5.out)
          clear IX4
          have IX4 := IX4n
          clear IX4n
          clear h5 g5
          obtain ⟨p0, p1, p2, p3, p4, p5, p6, p7, pf0, pf1, pf2, pf3, pf4, pf5, pf6, pf7, pz⟩ := R0.out
          obtain ⟨r0, r1, r2, r3, r4, r5, r6, r7, rf0, rf1, rf2, rf3, rf4, rf5, rf6, rf7, rz⟩ := R1.out
          obtain ⟨x0, x1, x2, x3, x4, xf0, xf1, xf2, xf3, xf4, xz⟩ := R2.out
          obtain ⟨y0, y1, y2, y3, y4, yf0, yf1, yf2, yf3, yf4, yz⟩ := R3.out
          clear R0 R1 R2 R3 pf0 pf1 pf2 pf3 pf4 pf5 pf6 pf7 rf0 rf1 rf2 rf3 rf4 rf5 rf6 rf7 xf0 xf1 xf2 xf3 xf4 yf0 yf1 yf2 yf3 yf4 JX JM
          obtain ⟨ln, hln⟩ : ∃ ln, ln = L.length := ⟨_, rfl⟩
          rw [← hln]
          rw [← hln] at hL
          have LN := hide hln
          clear hln
          go_wp2_with fail
          clear p0 p1 p2 p3 p4 p5 p6 p7 r0 r1 r2 r3 r4 r5 r6 r7 x0 x1 x2 x3 x4 y0 y1 y2 y3 y4
          go_loopw [23, 24] (fun s i wr => ∃ (q : Nat) (z : Int), q ≤ ln ∧ i = .int .i64 q ∧ s = .int .i64 z ∧ Hid (z = (L.take q).sum) ∧ 0 ≤ z ∧ z ≤ (q : Int) * 17592186044416 ∧ Hid (Below v5.heap.size v5 wr)) (fun _ i _ => ln - (intOf i).toNat)
          case atStart => exact ⟨0, 0, by omega, rfl, rfl, rfl, by omega, by omega, Below.refl _ _⟩
          case round =>
            obtain ⟨q, z, hq, rfl, rfl, HZ, z0, z1, bl⟩ := hrel
            by_cases hlt : q < ln
            · have q1 : q < L.length := by have := LN.out; omega
              have nl : L ≠ [] := fun h => by rw [h] at q1; simp at q1
              obtain ⟨g1, o1', ea1, l1⟩ := IX4.out.resolve_left nl
              obtain ⟨g2, o2', ea2, l2⟩ := IX5.out.resolve_left nl
              have e1 := (l1.later bl.out).cell q q1
              have e2 := (l2.later bl.out).cell q q1
              have bx := H1.out _ (List.getElem_mem q1)
              have st : Hid (z + L[q] = (L.take (q + 1)).sum) := by show _ = _; rw [sum_take q1, HZ.out]
              obtain ⟨x, hx⟩ : ∃ x, x = L[q] := ⟨_, rfl⟩
              rw [← hx] at e1 e2 bx st
              have hlt2 : (q : Int) < (ln : Int) := by omega
              obtain ⟨bx0, bx1⟩ := bx
              have zb : z ≤ 580542139465728 := by omega
              have xb : x ≤ 17592186044416 := by omega
              subst ea1 ea2
              have z3 : Hid (z + x ≤ ((q + 1 : Nat) : Int) * 17592186044416) := by show _ ≤ _; omega
              clear hx l1 l2 nl q1 HZ bx1 z1
              go_wp2_with fail
              go_quiet (fail)
              go_wp2_with fail
              go_roundw
              case rel => exact ⟨q + 1, z + x, by omega, by go_num, rfl, st, by omega, z3.out, below_drewN bl.out _⟩
              case measure => simp [intOf]; omega
            · obtain rfl : q = ln := by omega
              have hz : Hid (BE = 0 → z = n) := fun h => by rw [HZ.out, LN.out, List.take_length]; exact H3.out h
              by_cases be : BE = 0
              · obtain rfl : z = (n : Int) := hz.out be
                subst be
                go_wp2_with fail
                refine (k4 _).mono ?_
                rintro e w9 ⟨rfl, h9⟩
                have B9 := hide (BM.out.trans ((bl.out.trans (h9.mono bl.out.size)).mono BM.out.size))
                clear h9 k4
                go_wp2_with fail
                go_returns
                exact ⟨rfl, B9.out⟩
              · have be2 : (BE == 0) = false := by simpa using be
                have be3 : (BE != 0) = true := by rw [bne, be2]; rfl
                clear be
                go_wp2_with fail
                refine (k4 _).mono ?_
                rintro e w9 ⟨rfl, h9⟩
                have B9 := hide (BM.out.trans ((bl.out.trans (h9.mono bl.out.size)).mono BM.out.size))
                clear h9 k4
                go_wp2_with fail
                go_returns
                exact ⟨rfl, B9.out⟩
    · obtain ⟨k, rfl⟩ := Int.eq_ofNat_of_zero_le (show 0 ≤ cut by omega)
      have g3 : ¬ n < k := by omega
      have g4 : decide (n < k) = false := decide_eq_false g3
      have hk : k ≤ n := by omega
      clear g1 g2 t0 t1
      go_enter Try.func8, Try.ntmps8
      go_wp2_with fail
      clear ew2
      go_loopw [9, 10] (fun v i wr => ∃ (j : Nat) (z : Int), k ≤ j ∧ j ≤ n ∧ i = .int .i64 z ∧ Hid (z + 1 = j) ∧ Hid (OwnI w wr v (xs.drop j).reverse)) (fun _ i _ => (intOf i + 1).toNat)
      case atStart => exact ⟨n, _, hk, Nat.le_refl _, rfl, (show (n : Int) - 1 + 1 = n by omega), (by show OwnI w w _ _; rw [List.drop_eq_nil_of_le (by have := HN.out; omega)]; exact OwnI.nil9 w)⟩
      case round =>
        obtain ⟨j, z, hj, hj2, rfl, HZ, OW⟩ := hrel
        rcases Nat.lt_or_ge k j with lt | ge
        · obtain ⟨q, rfl⟩ : ∃ q, j = q + 1 := ⟨j - 1, by omega⟩
          obtain rfl : z = (q : Int) := by have := HZ.out; omega
          have q1 : q < xs.length := by have := HN.out; omega
          obtain ⟨g, o, ea, la⟩ := HX.out.resolve_left (fun h => by rw [h] at q1; simp at q1)
          subst ea
          have e1 := (OW.out.below.cell (p := ⟨g, o + q, none⟩) la.lt).trans (la.cell q q1)
          obtain ⟨x, hxk⟩ : ∃ x, x = xs[q] := ⟨_, rfl⟩
          rw [← hxk] at e1
          have NL : Hid ((xs.drop (q + 1)).reverse ++ [x] = (xs.drop q).reverse) := by show _ = _; rw [List.drop_eq_getElem_cons q1, List.reverse_cons, hxk]
          have bl : ((xs.drop (q + 1)).reverse.length + [x].length) * 8 ≤ 140737488355328 := by have := HN.out; simp; omega
          have gk : decide (k ≤ q) = true := decide_eq_true (by omega)
          have gk2 : (k : Int) ≤ (q : Int) := by omega
          have gq : q < n := by omega
          have gw : IntKind.i64.wrap ((q : Int) - 1) = (q : Int) - 1 := by rw [IntKind.wrap_i64]; omega
          clear hxk la q1
          go_wp2_with ((at_builtin; refine wpList_append_ints rfl _ _ rfl w u9 _ rfl (OW.out.later ((Below.refl _ _).alloc (Nat.le_refl _) _)) (some ⟨wr.heap.size, 0, none⟩) 1 1 [x] rfl rfl (new_ints wr _ _) (fun h => by cases h) bl ?_; intro v1 w1 O1; rw [NL.out] at O1; have O2 := hide O1; clear O1))
          go_roundw
          case rel => exact ⟨q, _, by omega, by omega, rfl, (show (q : Int) - 1 + 1 = q by omega), O2.out⟩
          case measure => first | (simp [intOf]; done) | (simp [intOf]; omega)
        · obtain rfl : j = k := by omega
          have gz : decide ((j : Int) ≤ z) = false := decide_eq_false (by have := HZ.out; omega)
          have sl := ints_upto a n ca j hj2 CA.out
          have bl : ((xs.drop j).reverse.length + (xs.take j).length) * 8 ≤ 140737488355328 := by have := HN.out; simp; omega
          have lt_ : Hid (j = (xs.take j).length) := by have := HN.out; show _ = _; rw [List.length_take]; omega
          have src : Hid (IsInts .i64 wr a (xs.take j)) := by
            rcases HX.out with h | ⟨g, o, e, h⟩
            · exact .inl (by rw [h]; simp)
            · exact .inr ⟨g, o, e, lie_take (h.later OW.out.below) j⟩
          go_wp2_with ((at_builtin; refine wpList_append_ints rfl _ _ rfl w u9 _ rfl OW.out a j ca (xs.take j) rfl lt_.out src.out NA.out bl ?_; intro v1 w1 O1; have O2 := hide O1; clear O1))
          obtain ⟨am, cm, rfl, _, _, im, _⟩ := O2.out.is2
          have BM := hide O2.out.below
          have IM := hide im
          have EM : Hid (((xs.drop j).reverse ++ xs.take j).length = n) := by have := HN.out; show _ = _; simp; omega
          obtain ⟨ys, hys⟩ : ∃ ys, ys = (xs.drop j).reverse ++ xs.take j := ⟨_, rfl⟩
          have KO1 := hide (fun a' c' w' h => KO.out j hj2 a' c' w' xs (.inl rfl) h)
          have KU1 := hide (fun a' c' w' h => KU.out j hj2 a' c' w' xs (.inl rfl) h)
          have KB1 := hide (fun a' c' w' b h => KB.out j hj2 a' c' w' xs b (.inl rfl) h)
          have KO2 := hide (fun a' c' w' h => KO.out j hj2 a' c' w' ys (.inr hys) h)
          have KU2 := hide (fun a' c' w' h => KU.out j hj2 a' c' w' ys (.inr hys) h)
          have KB2 := hide (fun a' c' w' b h => KB.out j hj2 a' c' w' ys b (.inr hys) h)
          rw [← hys] at IM EM
          rw [← hys]
          rw [EM.out]
          clear KO KU KB im O2 OW src lt_ bl sl gz hys HZ ge hj hj2 hk EM CA NA
          have JX := hide (HX.out.later BM.out)
          have JM := hide IM.out
          clear HX IM
          go_wp2_with fail
          refine (KO1.out a ca _ JX.out).mono ?_
          clear KO1
          rintro e v0 ⟨rfl, h0⟩
          have g0 := hide h0
          have BN := hide (BM.out.trans (g0.out.mono BM.out.size))
          clear BM
          have BM := BN
          clear BN
          have JXn := hide (JX.out.later g0.out)
          clear JX
          have JX := JXn
          clear JXn
          have JMn := hide (JM.out.later g0.out)
          clear JM
          have JM := JMn
          clear JMn
          clear h0 g0
          go_wp2_with fail
          have A1 := hide (show ∀ o, Below v0.heap.size v0 (v0.alloc o) from fun o => (Below.refl _ _).alloc (Nat.le_refl _) o)
          refine (KO2.out am cm _ (JM.out.later (A1.out _))).mono ?_
          clear KO2
          rintro e v1 ⟨rfl, h1⟩
          have g1 := hide ((A1.out _).trans (h1.mono (by simp)))
          have R0 := hide ((Box8.made (w := v0)).later h1)
          have BN := hide (BM.out.trans (g1.out.mono BM.out.size))
          clear BM
          have BM := BN
          clear BN
          have JXn := hide (JX.out.later g1.out)
          clear JX
          have JX := JXn
          clear JXn
          have JMn := hide (JM.out.later g1.out)
          clear JM
          have JM := JMn
          clear JMn
          clear h1 g1 A1
          go_wp2_with fail
          have A2 := hide (show ∀ o, Below v1.heap.size v1 (v1.alloc o) from fun o => (Below.refl _ _).alloc (Nat.le_refl _) o)
          refine (KU1.out a ca _ (JX.out.later (A2.out _))).mono ?_
          clear KU1
          rintro e v2 ⟨rfl, h2⟩
          have g2 := hide ((A2.out _).trans (h2.mono (by simp)))
          have R1 := hide ((Box8.made (w := v1)).later h2)
          have S2_0 := hide (R0.out.later g2.out)
          clear R0
          have R0 := S2_0
          clear S2_0
          have BN := hide (BM.out.trans (g2.out.mono BM.out.size))
          clear BM
          have BM := BN
          clear BN
          have JXn := hide (JX.out.later g2.out)
          clear JX
          have JX := JXn
          clear JXn
          have JMn := hide (JM.out.later g2.out)
          clear JM
          have JM := JMn
          clear JMn
          clear h2 g2 A2
          go_wp2_with fail
          have A3 := hide (show ∀ o, Below v2.heap.size v2 (v2.alloc o) from fun o => (Below.refl _ _).alloc (Nat.le_refl _) o)
          refine (KU2.out am cm _ (JM.out.later (A3.out _))).mono ?_
          clear KU2
          rintro e v3 ⟨rfl, h3⟩
          have g3 := hide ((A3.out _).trans (h3.mono (by simp)))
          have R2 := hide ((Box5.made (w := v2)).later h3)
          have S3_0 := hide (R0.out.later g3.out)
          clear R0
          have R0 := S3_0
          clear S3_0
          have S3_1 := hide (R1.out.later g3.out)
          clear R1
          have R1 := S3_1
          clear S3_1
          have BN := hide (BM.out.trans (g3.out.mono BM.out.size))
          clear BM
          have BM := BN
          clear BN
          have JXn := hide (JX.out.later g3.out)
          clear JX
          have JX := JXn
          clear JXn
          have JMn := hide (JM.out.later g3.out)
          clear JM
          have JM := JMn
          clear JMn
          clear h3 g3 A3
          go_wp2_with fail
          have A4 := hide (show ∀ o, Below v3.heap.size v3 (v3.alloc o) from fun o => (Below.refl _ _).alloc (Nat.le_refl _) o)
          refine (KB1.out a ca _ (BM.out.trans ((A4.out _).mono BM.out.size)) (JX.out.later (A4.out _))).mono ?_
          clear KB1
          rintro e v4 ⟨x4, d4, rfl, ix4, h4⟩
          have IX4 := hide ix4
          clear ix4
          have g4 := hide ((A4.out _).trans (h4.mono (by simp)))
          have R3 := hide ((Box5.made (w := v3)).later h4)
          have S4_0 := hide (R0.out.later g4.out)
          clear R0
          have R0 := S4_0
          clear S4_0
          have S4_1 := hide (R1.out.later g4.out)
          clear R1
          have R1 := S4_1
          clear S4_1
          have S4_2 := hide (R2.out.later g4.out)
          clear R2
          have R2 := S4_2
          clear S4_2
          have BN := hide (BM.out.trans (g4.out.mono BM.out.size))
          clear BM
          have BM := BN
          clear BN
          have JXn := hide (JX.out.later g4.out)
          clear JX
          have JX := JXn
          clear JXn
          have JMn := hide (JM.out.later g4.out)
          clear JM
          have JM := JMn
          clear JMn
          clear h4 g4 A4
          go_wp2_with fail
          refine (KB2.out am cm _ BM.out JM.out).mono ?_
          clear KB2
          rintro e v5 ⟨x5, d5, rfl, ix5, h5⟩
          have IX5 := hide ix5
          clear ix5
          have g5 := hide h5
          have S5_0 := hide (R0.out.later g5.out)
          clear R0
          have R0 := S5_0
          clear S5_0
          have S5_1 := hide (R1.out.later g5.out)
          clear R1
          have R1 := S5_1
          clear S5_1
          have S5_2 := hide (R2.out.later g5.out)
          clear R2
          have R2 := S5_2
          clear S5_2
          have S5_3 := hide (R3.out.later g5.out)
          clear R3
          have R3 := S5_3
          clear S5_3
          have BN := hide (BM.out.trans (g5.out.mono BM.out.size))
          clear BM
          have BM := BN
          clear BN
          have JXn := hide (JX.out.later g5.out)
          clear JX
          have JX := JXn
          clear JXn
          have JMn := hide (JM.out.later g5.out)
          clear JM
          have JM := JMn
          clear JMn
          have IX4n := hide (IX4.out.later g5.out)
          clear IX4
          have IX4 := IX4n
          clear IX4n
          clear h5 g5
          obtain ⟨p0, p1, p2, p3, p4, p5, p6, p7, pf0, pf1, pf2, pf3, pf4, pf5, pf6, pf7, pz⟩ := R0.out
          obtain ⟨r0, r1, r2, r3, r4, r5, r6, r7, rf0, rf1, rf2, rf3, rf4, rf5, rf6, rf7, rz⟩ := R1.out
          obtain ⟨x0, x1, x2, x3, x4, xf0, xf1, xf2, xf3, xf4, xz⟩ := R2.out
          obtain ⟨y0, y1, y2, y3, y4, yf0, yf1, yf2, yf3, yf4, yz⟩ := R3.out
          clear R0 R1 R2 R3 pf0 pf1 pf2 pf3 pf4 pf5 pf6 pf7 rf0 rf1 rf2 rf3 rf4 rf5 rf6 rf7 xf0 xf1 xf2 xf3 xf4 yf0 yf1 yf2 yf3 yf4 JX JM
          obtain ⟨ln, hln⟩ : ∃ ln, ln = L.length := ⟨_, rfl⟩
          rw [← hln]
          rw [← hln] at hL
          have LN := hide hln
          clear hln
          go_wp2_with fail
          clear p0 p1 p2 p3 p4 p5 p6 p7 r0 r1 r2 r3 r4 r5 r6 r7 x0 x1 x2 x3 x4 y0 y1 y2 y3 y4
          go_loopw [23, 24] (fun s i wr => ∃ (q : Nat) (z : Int), q ≤ ln ∧ i = .int .i64 q ∧ s = .int .i64 z ∧ Hid (z = (L.take q).sum) ∧ 0 ≤ z ∧ z ≤ (q : Int) * 17592186044416 ∧ Hid (Below v5.heap.size v5 wr)) (fun _ i _ => ln - (intOf i).toNat)
          case atStart => exact ⟨0, 0, by omega, rfl, rfl, rfl, by omega, by omega, Below.refl _ _⟩
          case round =>
            obtain ⟨q, z, hq, rfl, rfl, HZ, z0, z1, bl⟩ := hrel
            by_cases hlt : q < ln
            · have q1 : q < L.length := by have := LN.out; omega
              have nl : L ≠ [] := fun h => by rw [h] at q1; simp at q1
              obtain ⟨g1, o1', ea1, l1⟩ := IX4.out.resolve_left nl
              obtain ⟨g2, o2', ea2, l2⟩ := IX5.out.resolve_left nl
              have e1 := (l1.later bl.out).cell q q1
              have e2 := (l2.later bl.out).cell q q1
              have bx := H1.out _ (List.getElem_mem q1)
              have st : Hid (z + L[q] = (L.take (q + 1)).sum) := by show _ = _; rw [sum_take q1, HZ.out]
              obtain ⟨x, hx⟩ : ∃ x, x = L[q] := ⟨_, rfl⟩
              rw [← hx] at e1 e2 bx st
              have hlt2 : (q : Int) < (ln : Int) := by omega
              obtain ⟨bx0, bx1⟩ := bx
              have zb : z ≤ 580542139465728 := by omega
              have xb : x ≤ 17592186044416 := by omega
              subst ea1 ea2
              have z3 : Hid (z + x ≤ ((q + 1 : Nat) : Int) * 17592186044416) := by show _ ≤ _; omega
              clear hx l1 l2 nl q1 HZ bx1 z1
              go_wp2_with fail
              go_quiet (fail)
              go_wp2_with fail
              go_roundw
              case rel => exact ⟨q + 1, z + x, by omega, by go_num, rfl, st, by omega, z3.out, below_drewN bl.out _⟩
              case measure => simp [intOf]; omega
            · obtain rfl : q = ln := by omega
              have hz : Hid (BE = 0 → z = n) := fun h => by rw [HZ.out, LN.out, List.take_length]; exact H3.out h
              by_cases be : BE = 0
              · obtain rfl : z = (n : Int) := hz.out be
                subst be
                go_wp2_with fail
                refine (k4 _).mono ?_
                rintro e w9 ⟨rfl, h9⟩
                have B9 := hide (BM.out.trans ((bl.out.trans (h9.mono bl.out.size)).mono BM.out.size))
                clear h9 k4
                go_wp2_with fail
                go_returns
                exact ⟨rfl, B9.out⟩
              · have be2 : (BE == 0) = false := by simpa using be
                have be3 : (BE != 0) = true := by rw [bne, be2]; rfl
                clear be
                go_wp2_with fail
                refine (k4 _).mono ?_
                rintro e w9 ⟨rfl, h9⟩
                have B9 := hide (BM.out.trans ((bl.out.trans (h9.mono bl.out.size)).mono BM.out.size))
                clear h9 k4
                go_wp2_with fail
                go_returns
                exact ⟨rfl, B9.out⟩
end Go.Proofs.Ytebiddmadmmfpaa
/- timer: TimerShuffles: the law. (gen_tshuf.py) -/
namespace Go.Proofs.Ytebiddmadmmfpaa
set_option linter.unusedVariables false
set_option linter.unusedSimpArgs false
open Go.RowKit W T9
theorem perm_or {xs ys : List Int} {k : Nat} (h : ys = xs ∨ ys = (xs.drop k).reverse ++ xs.take k) : ys.Perm xs := by
  rcases h with rfl | rfl
  · exact List.Perm.refl _
  · exact turn_perm xs k
theorem law_TimerShuffles (a : Option Addr) (ca : Nat) (xs : List Int) (cut p : Int) (b : Option Addr) (cb : Nat) (bs : List Int)
    (wx : ∀ x ∈ xs, (Lit.int .i64 x).wf = true) (bx : xs.length ≤ 17592186044416) (hca : xs.length ≤ ca) (ha63 : ca ≤ 9223372036854775807) (hna : a = none → xs.length = 0 ∧ ca = 0) (wc : (Lit.int .i64 cut).wf = true) (wp_ : (Lit.int .i64 p).wf = true)
    (wy : ∀ x ∈ bs, (Lit.int .i64 x).wf = true) (by_ : bs.length ≤ 17592186044416) (hcb : bs.length ≤ cb) (hb63 : cb ≤ 9223372036854775807) (hnb : b = none → bs.length = 0 ∧ cb = 0)
    (w : World) (hx : IsInts .i64 w a xs) (hy : IsInts .i64 w b bs) :
    Calls Try.prog 8 #[.slice a xs.length ca, .int .i64 cut, .int .i64 p, .slice b bs.length cb] w fun e w' => e = .returned (.bool true) ∧ Below w.heap.size w w' := by
  obtain ⟨d, hd⟩ := ofd_ex xs
  refine shuf_walk a b ca cb bs.length xs.length xs cut p (binL bs xs) (ofX xs xs.length) (ofX xs (hi xs.sum)) (ofX xs (lo xs.sum)) (ofX xs ((srt xs).getD 0 0)) (ofX xs ((srt xs).getD (xs.length - 1) 0)) (ofX xs (xs.sum / xs.length)) (ofX xs (medL (srt xs))) (ofX xs d) (ofE xs) (uptoN xs p) (hi (uptoS xs p)) (lo (uptoS xs p)) (uptoM xs p) (uptoG xs p) (uptoE xs p) (binE bs xs) w rfl bx hca (fun h => (hna h).2) hx (hi_of_wf wc) ?_ (fun x h => binL_nonneg x h) binL_sum ?_ ?_ ?_
  · unfold binL
    split
    · split
      · rename_i u; rw [cntF_len]; have := ((up_iff bs).1 u).1; omega
      · simp
    · simp
  · intro k hk a' c' w' ys h i
    have q := perm_or h
    have r := of_tot a' c' ys d w' i (by rw [q.length_eq]; omega) (fun e => by rw [devQ_perm q]; exact hd (by rw [← ofE_perm q]; exact e))
    rw [ofV_perm q, ofE_perm q, q.length_eq] at r
    exact r
  · intro k hk a' c' w' ys h i
    have q := perm_or h
    have r := upto_spec a' c' ys p w' i (by rw [q.length_eq]; omega)
    rw [uptoV_perm q, uptoE_perm q, q.length_eq] at r
    exact r
  · intro k hk a' c' w' ys B h i
    have q := perm_or h
    have r := bins_spec a' c' ys b cb bs w' i (by rw [q.length_eq]; omega) (hy.later B) (by omega)
    unfold BinsPost at r
    rw [binL_perm q, binE_perm q, q.length_eq] at r
    exact r
end Go.Proofs.Ytebiddmadmmfpaa
