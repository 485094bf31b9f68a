/- Texts that belong together: Lwrap Alr Alone Lawac Aleq Alrs Bulk. -/
import Derived.Test.YtnlefakicjojdaaG05
import Derived.Test.YtnlefakicjojdaaG02
import Derived.Test.YtnlefakicjojdaaG04
import Derived.Test.YtnlefakicjojdaaG03
import Derived.Laws.StructEq
import Derived.Deep.Slices
import Derived.Test.YtnlefakicjojdaaRows
set_option linter.unusedSimpArgs false
set_option linter.unusedVariables false
/- The reference of layer 1: its faces: over, Add, Sub, Neg, Abs, Cmp, Sign. -/
namespace Go.Proofs.Ytnlefakicjojdaa
set_option linter.unusedVariables false
open Go.RowKit W Lb
theorem addN_spec (s s' : Bool) (pa pb : Option Addr) (ca cb : Nat) (la lb : List Int) (x y : Int) (w : World) (Ha : IsNum w s pa ca la x) (Hb : IsNum w s' pb cb lb y) (na : la.length ≤ 900) (nb : lb.length ≤ 900) :
    Calls Try.prog 37 #[.agg #[.bool s, .slice pa la.length ca], .agg #[.bool s', .slice pb lb.length cb]] w (NumPost w (x + y)) := by
  have va := Ha.mag.val
  have vb := Hb.mag.val
  have ea := Ha.neg
  have eb := Hb.neg
  have la9 : val la < pw 999 := val_lt' Ha.mag.ok (by omega)
  have lb9 : val lb < pw 999 := val_lt' Hb.mag.ok (by omega)
  have a0 := val_nonneg Ha.mag.ok
  have b0 := val_nonneg Hb.mag.ok
  have p9 : pw 1000 = 65536 * pw 999 := rfl
  have KM : ∀ (n : Bool) (m : Int), mkZ n m = x + y → m < pw 1000 → ∀ pv cv lv w', Limbs w' (.slice pv lv.length cv) lv → Mag lv m → Calls Try.prog 50 #[.bool n, .slice pv lv.length cv] w' (NumPost w' (x + y)) := by
    intro n m hm hp pv cv lv w' h1 h2
    have := make2_spec n pv cv lv w' h1 h2.ok (h2.len hp)
    rwa [h2.val, hm] at this
  have KC := fun (w' : World) (h : Below w.heap.size w w') => cmpL_spec _ _ la lb w' (Ha.lim.later h) (Hb.lim.later h) Ha.mag.ok Hb.mag.ok (by omega) (by omega)
  clear p9
  have p9 : 2 * pw 999 < pw 1000 := by show _ < 65536 * pw 999; have := pw_pos 999; omega
  by_cases ss : s = s'
  · have hz : mkZ s (val la + val lb) = x + y := by
      rw [va, vb]; subst ss; unfold mkZ Lb.ab; rw [ea] at eb
      have : (x < 0) ↔ (y < 0) := by simpa using eb
      subst ea; by_cases q : x < 0 <;> by_cases t : y < 0 <;> simp [q, t] <;> omega
    exact addN_same s s' pa pb ca cb la lb (x + y) (val la + val lb) w ss (fun w' K => addL_spec _ _ la lb w' (Ha.lim.later K.below) (Hb.lim.later K.below) Ha.mag.ok Hb.mag.ok (by omega) (by omega)) (KM s _ hz (by omega))
  · have sf : (s == s') = false := by simpa using ss
    have sx : ¬ ((x < 0) ↔ (y < 0)) := by
      intro q; apply ss; rw [ea, eb]; simp [q]
    by_cases h : 0 ≤ cmpI (val la) (val lb)
    · have le : val lb ≤ val la := by unfold cmpI at h; split at h <;> (try split at h) <;> omega
      have hz : mkZ s (val la - val lb) = x + y := by
        rw [va, vb]; unfold mkZ Lb.ab; subst ea; by_cases q : x < 0 <;> by_cases t : y < 0 <;> simp [q, t] at sx ⊢ <;> omega
      exact addN_ge s s' pa pb ca cb la lb (x + y) (val la - val lb) w _ _ sf h KC (fun w' K => subL_spec _ _ la lb w' (Ha.lim.later K.below) (Hb.lim.later K.below) Ha.mag.ok Hb.mag.ok (by omega) (length_le_of_val Hb.mag.ok Hb.mag.top Ha.mag.ok le) le) (KM s _ hz (by omega))
    · have le : val la ≤ val lb := by unfold cmpI at h; split at h <;> (try split at h) <;> omega
      have hz : mkZ s' (val lb - val la) = x + y := by
        rw [va, vb]; unfold mkZ Lb.ab; subst eb; by_cases q : x < 0 <;> by_cases t : y < 0 <;> simp [q, t] at sx ⊢ <;> omega
      exact addN_lt s s' pa pb ca cb la lb (x + y) (val lb - val la) w _ _ sf h KC (fun w' K => subL_spec _ _ lb la w' (Hb.lim.later K.below) (Ha.lim.later K.below) Hb.mag.ok Ha.mag.ok (by omega) (length_le_of_val Ha.mag.ok Ha.mag.top Hb.mag.ok le) le) (KM s' _ hz (by omega))
/-- A number's limbs are few. -/
theorem IsNum.few {w : World} {s : Bool} {p : Option Addr} {c : Nat} {l : List Int} {z : Int} (h : IsNum w s p c l z) (n : Nat) (hb : Lb.ab z < pw n) : l.length ≤ n := h.mag.len hb
theorem few_fits {z : Int} (f : Fits z) : Lb.ab z < pw 9 := by
  have : pw 9 = 22300745198530623141535718272648361505980416 := by decide
  obtain ⟨_, _⟩ := f; unfold Lb.ab; split <;> omega
theorem few_two {x y : Int} (f : Fits x) (g : Fits y) : Lb.ab (x + y) < pw 9 := by
  have : pw 9 = 22300745198530623141535718272648361505980416 := by decide
  obtain ⟨_, _⟩ := f; obtain ⟨_, _⟩ := g; unfold Lb.ab; split <;> omega
theorem few_sub {x y : Int} (f : Fits x) (g : Fits y) : Lb.ab (x - y) < pw 9 := by
  have : pw 9 = 22300745198530623141535718272648361505980416 := by decide
  obtain ⟨_, _⟩ := f; obtain ⟨_, _⟩ := g; unfold Lb.ab; split <;> omega
theorem few_abs {x : Int} (f : Fits x) : Lb.ab (mkZ false (Lb.ab x)) < pw 9 := by
  have : pw 9 = 22300745198530623141535718272648361505980416 := by decide
  obtain ⟨_, _⟩ := f; unfold mkZ Lb.ab; simp; split <;> (try split) <;> omega
theorem few_neg {x : Int} (f : Fits x) : Lb.ab (-x) < pw 9 := by
  have : pw 9 = 22300745198530623141535718272648361505980416 := by decide
  obtain ⟨_, _⟩ := f; unfold Lb.ab; split <;> omega
theorem isW_fits {a b : Int} (i : IsW (a, b)) : Fits (V a b) := fits_V i.a i.b
set_option maxRecDepth 100000 in
set_option maxHeartbeats 4000000 in
theorem rcmp_spec (a b c d : Int) (ia : IsW (a, b)) (ic : IsW (c, d)) (w : World) :
    Calls Try.prog 41 #[.agg #[.int .i64 a, .int .u64 b], .agg #[.int .i64 c, .int .u64 d]] w fun e w' => e = .returned (.int .i64 (cmpI (V a b) (V c d))) ∧ Below w.heap.size w w' := by
  have kfa := from_spec a b ia
  have kfc := from_spec c d ic
  have fa := isW_fits ia
  have fc := isW_fits ic
  go_enter Try.func41, Try.ntmps41
  go_wp2_with fail
  refine abs_wp (fun W => W.cell? ⟨w.heap.size, 0, none⟩ = some (.int .i64 a) ∧ W.cell? ⟨w.heap.size, 1, none⟩ = some (.int .u64 b) ∧ W.cell? ⟨w.heap.size + 1, 0, none⟩ = some (.int .i64 c) ∧ W.cell? ⟨w.heap.size + 1, 1, none⟩ = some (.int .u64 d) ∧ w.heap.size + 1 < W.heap.size ∧ Below w.heap.size w W) ?_ ?_
  · refine ⟨?_, ?_, ?_, ?_, ?_, ?_⟩
    all_goals first | assumption | (go_grown; done) | (simp [go_sem]; done) | (simp; done) | (simp; omega)
  rintro W ⟨c0, c1, c2, c3, zW, BW⟩
  have K0 := Keeps.start (Nat.le_refl W.heap.size)
  have K1 := K0.drew
  have J0 : Keeps (W.heap.size) W W := Keeps.start (by omega)
  have J1 := J0.drew
  go_region_held3 (fun w' => w'.cell? ⟨w.heap.size, 0, none⟩ = some (.int .i64 a) ∧ w'.cell? ⟨w.heap.size, 1, none⟩ = some (.int .u64 b) ∧ w'.cell? ⟨w.heap.size + 1, 0, none⟩ = some (.int .i64 c) ∧ w'.cell? ⟨w.heap.size + 1, 1, none⟩ = some (.int .u64 d) ∧ Keeps (W.heap.size) W w') ((refine (fun K => ⟨Keeps.cell K c0 (by omega), Keeps.cell K c1 (by omega), Keeps.cell K c2 (by omega), Keeps.cell K c3 (by omega), K⟩) (?_ : Keeps (W.heap.size) W _); (repeat (first | assumption | refine Keeps.alloc ?_ _ | refine Keeps.drew ?_ | refine Keeps.setCell ?_ (by first | (simp; done) | omega | (simp; omega)) _))))
    (first
    | (go_at_call 35; (with_reducible refine (kfa _).mono ?_); rintro e v20 ⟨s0, p0, q0, l0, rfl, N0, hb20⟩; have K20 := Keeps.call (B := W.heap.size) (W := W) (by repeat (first | assumption | refine Keeps.alloc ?_ _ | refine Keeps.drew ?_ | refine Keeps.setCell ?_ (by first | (simp; done) | omega | (simp; omega)) _)) hb20; have J20 : Keeps (W.heap.size) W v20 := ⟨K20.below.mono (by omega), by omega⟩; have L0 := N0.few 9 (few_fits fa))
    | (go_at_call 35; (with_reducible refine (kfc _).mono ?_); rintro e v21 ⟨s1, p1, q1, l1, rfl, N1, hb21⟩; have K21 := Keeps.call (B := W.heap.size) (W := W) (by repeat (first | assumption | refine Keeps.alloc ?_ _ | refine Keeps.drew ?_ | refine Keeps.setCell ?_ (by first | (simp; done) | omega | (simp; omega)) _)) hb21; have J21 : Keeps (W.heap.size) W v21 := ⟨K21.below.mono (by omega), by omega⟩; have L1 := N1.few 9 (few_fits fc); have M0 := N0.later (w' := v21) (by have := hb21; first | exact this | exact (Below.drew (Below.refl _ _)).trans this))
    | (go_at_call 36; (with_reducible refine (cmpN_spec _ _ _ _ _ _ _ _ _ _ _ (M0.later (by repeat (first | exact Below.refl _ _ | assumption | refine Below.setCell ?_ (by first | (simp; done) | omega | (simp; omega)) _ | refine Below.drew ?_ | refine below_drewN ?_ _ | refine Below.alloc ?_ (by first | (simp; done) | omega | (simp; omega)) _))) (N1.later (by repeat (first | exact Below.refl _ _ | assumption | refine Below.setCell ?_ (by first | (simp; done) | omega | (simp; omega)) _ | refine Below.drew ?_ | refine below_drewN ?_ _ | refine Below.alloc ?_ (by first | (simp; done) | omega | (simp; omega)) _))) (by omega) (by omega)).mono ?_); rintro e v22 ⟨rfl, hb22⟩; have K22 := Keeps.call (B := W.heap.size) (W := W) (by repeat (first | assumption | refine Keeps.alloc ?_ _ | refine Keeps.drew ?_ | refine Keeps.setCell ?_ (by first | (simp; done) | omega | (simp; omega)) _)) hb22; have J22 : Keeps (W.heap.size) W v22 := ⟨K22.below.mono (by omega), by omega⟩; have zz : w.heap.size < v22.heap.size := (by have := K22.size; omega)))
  all_goals
    have BE : Below w.heap.size w v22 := BW.trans (K22.below.mono BW.size)
    go_wp2_with fail
    go_returns
    refine ⟨rfl, ?_⟩
    repeat (first | exact Below.refl _ _ | assumption | refine Below.setCell ?_ (by first | (simp; done) | omega | (simp; omega)) _ | refine Below.drew ?_ | refine below_drewN ?_ _ | refine Below.alloc ?_ (by first | (simp; done) | omega | (simp; omega)) _)
theorem isNum_zero (w : World) : IsNum w false none 0 [] 0 := ⟨rfl, Limbs.nil w, ⟨ok_nil, .inl rfl, rfl⟩⟩
set_option maxRecDepth 100000 in
set_option maxHeartbeats 4000000 in
theorem rsign_spec (a b : Int) (ia : IsW (a, b)) (w : World) :
    Calls Try.prog 40 #[.agg #[.int .i64 a, .int .u64 b]] w fun e w' => e = .returned (.int .i64 (cmpI (V a b) 0)) ∧ Below w.heap.size w w' := by
  have kfa := from_spec a b ia
  have fa := isW_fits ia
  go_enter Try.func40, Try.ntmps40
  go_wp2_with fail
  refine (kfa _).mono ?_
  rintro e w1 ⟨s0, p0, q0, l0, rfl, N0, hb1⟩
  have B1 : Below w.heap.size w w1 := Below.trans (by repeat (first | exact Below.refl _ _ | assumption | refine Below.setCell ?_ (by first | (simp; done) | omega | (simp; omega)) _ | refine Below.drew ?_ | refine below_drewN ?_ _ | refine Below.alloc ?_ (by first | (simp; done) | omega | (simp; omega)) _)) (hb1.mono (by first | (simp; done) | omega | (simp; omega)))
  have zr : w.heap.size ≤ w1.heap.size := B1.size
  skip
  have K1 := Keeps.start (Nat.le_refl w1.heap.size)
  have L0 := N0.few 9 (few_fits fa)
  go_wp2_with fail
  refine (cmpN_spec _ _ _ _ _ _ _ _ _ _ _ N0 (isNum_zero _) (by omega) (by simp)).mono ?_
  rintro e w2 ⟨rfl, hb2⟩
  have K2 := Keeps.call (B := w1.heap.size) (W := w1) (by repeat (first | assumption | refine Keeps.alloc ?_ _ | refine Keeps.drew ?_ | refine Keeps.setCell ?_ (by first | (simp; done) | omega | (simp; omega)) _)) hb2
  have BE : Below w.heap.size w w2 := B1.trans (K2.below.mono B1.size)
  clear hb1 hb2
  go_wp2_with fail
  go_returns
  refine ⟨rfl, ?_⟩
  repeat (first | exact Below.refl _ _ | assumption | refine Below.setCell ?_ (by first | (simp; done) | omega | (simp; omega)) _ | refine Below.drew ?_ | refine below_drewN ?_ _ | refine Below.alloc ?_ (by first | (simp; done) | omega | (simp; omega)) _)
end Go.Proofs.Ytnlefakicjojdaa
/- alarm's reference: small, May. -/
namespace Go.Proofs.Ytnlefakicjojdaa
set_option linter.unusedVariables false
set_option linter.unusedSimpArgs false
open Go.RowKit W Go.Maps Lb
theorem IsNum.pos {w : World} {s : Bool} {p : Option Addr} {c : Nat} {l : List Int} {z : Int} (h : IsNum w s p c l z) : IsNum w false p c l (Lb.ab z) := by
  have e : 0 ≤ Lb.ab z := by unfold Lb.ab; split <;> omega
  have e2 : Lb.ab (Lb.ab z) = Lb.ab z := by unfold Lb.ab; rw [if_neg]; unfold Lb.ab at e; omega
  exact ⟨by rw [decide_eq_false (by omega)], h.lim, by rw [e2]; exact h.mag⟩
set_option maxRecDepth 100000 in
set_option maxHeartbeats 4000000 in
theorem rsmallA_spec (a b : Int) (i : IsW (a, b)) (w : World) :
    Calls Try.prog 39 #[.agg #[.int .i64 a, .int .u64 b]] w fun e w' => e = .returned (.bool (decide (Mod100 (V a b)))) ∧ Below w.heap.size w w' := by
  have k1 := from_spec a b i
  have k2 := from_spec 68719476736 0 ⟨⟨by decide, by decide⟩, ⟨by decide, by decide⟩⟩
  have f1 := isW_fits i
  have f2 : Fits (V 68719476736 0) := by decide
  obtain ⟨m, hm⟩ : ∃ m, m = cmpI (Lb.ab (V a b)) (V 68719476736 0) := ⟨_, rfl⟩
  have E : Hid (decide (Mod100 (V a b)) = decide (m ≤ 0)) := by
    show _ = _
    rw [hm, cmp_le, Bool.eq_iff_iff]
    simp only [decide_eq_true_eq]
    unfold Mod100 Lb.ab
    rw [show V 68719476736 0 = 1267650600228229401496703205376 from rfl]
    split <;> constructor <;> intro q <;> omega
  generalize decide (Mod100 (V a b)) = r at E
  have HM := hide hm
  clear i hm
  go_enter Try.func39, Try.ntmps39
  go_wp2_with fail
  refine (k1 _).mono ?_
  rintro e w1 ⟨s0, p0, q0, l0, rfl, N0, hb1⟩
  have L0 := N0.few 9 (few_fits f1)
  have B1 : Below w.heap.size w w1 := Below.trans ((Below.refl _ _).alloc (Nat.le_refl _) _) (hb1.mono (by simp))
  have N1 := N0.pos
  clear hb1 N0 k1
  go_wp2_with fail
  refine abs_wp (fun W => W.cell? ⟨w1.heap.size, 0, none⟩ = some (.bool false) ∧ W.cell? ⟨w1.heap.size, 1, none⟩ = some (.slice p0 l0.length q0) ∧ w1.heap.size < W.heap.size ∧ Below w1.heap.size w1 W) ?_ ?_
  · refine ⟨?_, ?_, ?_, ?_⟩
    all_goals first | assumption | (go_grown; done) | (simp [go_sem]; done) | (simp; done) | (simp; omega)
  rintro W ⟨c0, c1, zW, BW⟩
  have NW := N1.later BW
  have BWW := B1.trans (BW.mono B1.size)
  clear N1 BW B1
  have K0 := Keeps.start (Nat.le_refl W.heap.size)
  have K1 := K0.drew
  go_region_held3 (fun w' => w'.cell? ⟨w1.heap.size, 0, none⟩ = some (.bool false) ∧ w'.cell? ⟨w1.heap.size, 1, none⟩ = some (.slice p0 l0.length q0) ∧ Keeps W.heap.size W w') ((refine (fun K => ⟨Keeps.cell K c0 zW, Keeps.cell K c1 zW, K⟩) (?_ : Keeps W.heap.size W _); (repeat (first | assumption | refine Keeps.alloc ?_ _ | refine Keeps.drew ?_ | refine Keeps.setCell ?_ (by first | (simp; done) | omega | (simp; omega)) _))))
    (first
    | (go_at_call 35; (with_reducible refine (k2 _).mono ?_); rintro e v20 ⟨s2, p2, q2, l2, rfl, N2, hb20⟩; have K20 := Keeps.call (B := W.heap.size) (W := W) (by (repeat (first | assumption | refine Keeps.alloc ?_ _ | refine Keeps.drew ?_ | refine Keeps.setCell ?_ (by first | (simp; done) | omega | (simp; omega)) _))) hb20; have L2 := N2.few 9 (few_fits f2); have M0 := NW.later K20.below)
    | (go_at_call 36; (with_reducible refine (cmpN_spec _ _ _ _ _ _ _ _ _ _ _ (M0.later (by repeat (first | exact Below.refl _ _ | assumption | refine Below.setCell ?_ (by first | (simp; done) | omega | (simp; omega)) _ | refine Below.drew ?_ | refine below_drewN ?_ _ | refine Below.alloc ?_ (by first | (simp; done) | omega | (simp; omega)) _))) (N2.later (by repeat (first | exact Below.refl _ _ | assumption | refine Below.setCell ?_ (by first | (simp; done) | omega | (simp; omega)) _ | refine Below.drew ?_ | refine below_drewN ?_ _ | refine Below.alloc ?_ (by first | (simp; done) | omega | (simp; omega)) _))) (by omega) (by omega)).mono ?_); rintro e v22 ⟨rfl, hb22⟩; have K22 := Keeps.call (B := W.heap.size) (W := W) (by (repeat (first | assumption | refine Keeps.alloc ?_ _ | refine Keeps.drew ?_ | refine Keeps.setCell ?_ (by first | (simp; done) | omega | (simp; omega)) _))) hb22; rw [← HM.out]))
  all_goals
    have BE : Below w.heap.size w v22 := BWW.trans (K22.below.mono BWW.size)
    go_wp2_with fail
    go_returns
    exact ⟨by rw [E.out]; rfl, BE⟩
set_option maxRecDepth 100000 in
set_option maxHeartbeats 8000000 in
theorem rmay_spec (R : Ru) (i : RuW R) (w : World) :
    Calls Try.prog 21 #[ruV R] w fun e w' => e = .returned (.bool (mayB R)) ∧ Below w.heap.size w w' := by
  have k1 := rsmallA_spec R.w1 R.w0 i.iw
  have k2 := rsmallA_spec R.c1 R.c0 i.ic
  have k3 := rsmallA_spec R.s1 R.s0 i.is
  have k4 := rsign_spec R.s1 R.s0 i.is
  have k5 := rcmp_spec R.c1 R.c0 R.w1 R.w0 i.ic i.iw
  have E : Hid (mayB R = (decide (1 ≤ R.nm.size ∧ R.nm.size ≤ 200) && (decide (Mod100 (V R.w1 R.w0)) && (decide (Mod100 (V R.c1 R.c0)) && (decide (Mod100 (V R.s1 R.s0)) && (!decide (cmpI (V R.s1 R.s0) 0 < 0) &&
    ((if R.ab then decide (0 ≤ cmpI (V R.c1 R.c0) (V R.w1 R.w0)) else decide (cmpI (V R.c1 R.c0) (V R.w1 R.w0) ≤ 0)) && (decide (1 ≤ R.fr ∧ R.fr ≤ 1000 ∧ 0 ≤ R.an ∧ R.an ≤ 1000) && decide (0 ≤ R.ag ∧ R.ag ≤ 1099511627775))))))))) := by
    show _ = _
    rw [cmp_ge, cmp_le, lit_le, cmp_ge]
    simp only [Bool.not_not]
    unfold mayB Ru.wa Ru.cr Ru.sl
    congr 6
    rw [Bool.eq_iff_iff]
    simp
    omega

  generalize decide (Mod100 (V R.w1 R.w0)) = m1 at *
  generalize decide (Mod100 (V R.c1 R.c0)) = m2 at *
  generalize decide (Mod100 (V R.s1 R.s0)) = m3 at *
  generalize cmpI (V R.s1 R.s0) 0 = y1 at *
  generalize cmpI (V R.c1 R.c0) (V R.w1 R.w0) = y2 at *
  generalize mayB R = r at *
  have RB := hide (Row.new w (ruL R) 53 _ rfl)
  have BW : Below w.heap.size w (w.alloc (.cells (ruL R).toArray 53)) := (Below.refl _ _).alloc (Nat.le_refl _) _
  clear i
  by_cases z0 : R.nm.size = 0
  · have n1 : (R.nm.size : Int) < 1 := by omega
    have F : Hid (r = false) := by show _ = _; rw [E.out]; simp [z0]
    clear E z0 k1 k2 k3 k4 k5
    unfold ruV
    go_enter Try.func21, Try.ntmps21
    go_wp2_with fail
    go_returns
    exact ⟨by rw [F.out]; rfl, BW⟩
  have n1 : ¬ (R.nm.size : Int) < 1 := by omega
  by_cases z1 : 200 < R.nm.size
  · have z1' : (200 : Int) < (R.nm.size : Int) := by omega
    have F : Hid (r = false) := by show _ = _; rw [E.out, decide_eq_false (by omega)]; rfl
    clear E z0 z1 k1 k2 k3 k4 k5
    unfold ruV
    go_enter Try.func21, Try.ntmps21
    go_wp2_with fail
    go_returns
    exact ⟨by rw [F.out]; rfl, BW⟩
  have z1' : ¬ (200 : Int) < (R.nm.size : Int) := by omega
  rw [decide_eq_true (by omega), Bool.true_and] at E
  clear z0 z1
  unfold ruV
  go_enter Try.func21, Try.ntmps21
  go_wp2_with fail
  refine (k1 _).mono ?_
  rintro e v1 ⟨rfl, hb1⟩
  have R1 := hide (RB.out.later hb1); have B1 := BW.trans (hb1.mono BW.size); clear hb1; have d1_1 := R1.out.at0 1 _ rfl; have d1_2 := R1.out.at0 2 _ rfl; have d1_3 := R1.out.at0 3 _ rfl; have d1_4 := R1.out.at0 4 _ rfl; have d1_5 := R1.out.at0 5 _ rfl; have d1_6 := R1.out.at0 6 _ rfl; have d1_7 := R1.out.at0 7 _ rfl; have d1_8 := R1.out.at0 8 _ rfl; have d1_9 := R1.out.at0 9 _ rfl; have d1_10 := R1.out.at0 10 _ rfl; have lw1 := R1.out.lt
  cases m1
  · go_wp2_with fail
    go_returns
    exact ⟨by rw [E.out]; rfl, B1⟩
  rw [Bool.true_and] at E
  go_wp2_with fail
  refine (k2 _).mono ?_
  rintro e v2 ⟨rfl, hb2⟩
  have R2 := hide (R1.out.later hb2); have B2 := B1.trans (hb2.mono B1.size); clear hb2 d1_1 d1_2 d1_3 d1_4 d1_5 d1_6 d1_7 d1_8 d1_9 d1_10; have d2_1 := R2.out.at0 1 _ rfl; have d2_2 := R2.out.at0 2 _ rfl; have d2_3 := R2.out.at0 3 _ rfl; have d2_4 := R2.out.at0 4 _ rfl; have d2_5 := R2.out.at0 5 _ rfl; have d2_6 := R2.out.at0 6 _ rfl; have d2_7 := R2.out.at0 7 _ rfl; have d2_8 := R2.out.at0 8 _ rfl; have d2_9 := R2.out.at0 9 _ rfl; have d2_10 := R2.out.at0 10 _ rfl; have lw2 := R2.out.lt
  cases m2
  · go_wp2_with fail
    go_returns
    exact ⟨by rw [E.out]; rfl, B2⟩
  rw [Bool.true_and] at E
  go_wp2_with fail
  refine (k3 _).mono ?_
  rintro e v3 ⟨rfl, hb3⟩
  have R3 := hide (R2.out.later hb3); have B3 := B2.trans (hb3.mono B2.size); clear hb3 d2_1 d2_2 d2_3 d2_4 d2_5 d2_6 d2_7 d2_8 d2_9 d2_10; have d3_1 := R3.out.at0 1 _ rfl; have d3_2 := R3.out.at0 2 _ rfl; have d3_3 := R3.out.at0 3 _ rfl; have d3_4 := R3.out.at0 4 _ rfl; have d3_5 := R3.out.at0 5 _ rfl; have d3_6 := R3.out.at0 6 _ rfl; have d3_7 := R3.out.at0 7 _ rfl; have d3_8 := R3.out.at0 8 _ rfl; have d3_9 := R3.out.at0 9 _ rfl; have d3_10 := R3.out.at0 10 _ rfl; have lw3 := R3.out.lt
  cases m3
  · go_wp2_with fail
    go_returns
    exact ⟨by rw [E.out]; rfl, B3⟩
  rw [Bool.true_and] at E
  go_wp2_with fail
  refine (k4 _).mono ?_
  rintro e v4 ⟨rfl, hb4⟩
  have R4 := hide (R3.out.later hb4); have B4 := B3.trans (hb4.mono B3.size); clear hb4 d3_1 d3_2 d3_3 d3_4 d3_5 d3_6 d3_7 d3_8 d3_9 d3_10; have d4_1 := R4.out.at0 1 _ rfl; have d4_2 := R4.out.at0 2 _ rfl; have d4_3 := R4.out.at0 3 _ rfl; have d4_4 := R4.out.at0 4 _ rfl; have d4_5 := R4.out.at0 5 _ rfl; have d4_6 := R4.out.at0 6 _ rfl; have d4_7 := R4.out.at0 7 _ rfl; have d4_8 := R4.out.at0 8 _ rfl; have d4_9 := R4.out.at0 9 _ rfl; have d4_10 := R4.out.at0 10 _ rfl; have lw4 := R4.out.lt
  by_cases q4 : y1 < 0
  · rw [decide_eq_true q4] at E
    go_wp2_with fail
    go_returns
    exact ⟨by rw [E.out]; rfl, B4⟩
  rw [decide_eq_false q4] at E
  go_wp2_with fail
  refine (k5 _).mono ?_
  rintro e v5 ⟨rfl, hb5⟩
  have R5 := hide (R4.out.later hb5); have B5 := B4.trans (hb5.mono B4.size); clear hb5 d4_1 d4_2 d4_3 d4_4 d4_5 d4_6 d4_7 d4_8 d4_9 d4_10; have d5_1 := R5.out.at0 1 _ rfl; have d5_2 := R5.out.at0 2 _ rfl; have d5_3 := R5.out.at0 3 _ rfl; have d5_4 := R5.out.at0 4 _ rfl; have d5_5 := R5.out.at0 5 _ rfl; have d5_6 := R5.out.at0 6 _ rfl; have d5_7 := R5.out.at0 7 _ rfl; have d5_8 := R5.out.at0 8 _ rfl; have d5_9 := R5.out.at0 9 _ rfl; have d5_10 := R5.out.at0 10 _ rfl; have lw5 := R5.out.lt
  have E2 : Hid (r = ((if R.ab then decide (0 ≤ y2) else decide (y2 ≤ 0)) && (decide (1 ≤ R.fr ∧ R.fr ≤ 1000 ∧ 0 ≤ R.an ∧ R.an ≤ 1000) && decide (0 ≤ R.ag ∧ R.ag ≤ 1099511627775)))) := by show _ = _; rw [E.out]; rfl
  clear E
  by_cases q5 : (if R.ab then decide (0 ≤ y2) else decide (y2 ≤ 0)) = true
  · rw [q5, Bool.true_and] at E2
    cases hab : R.ab
    all_goals
      rw [hab] at q5 d5_1
      simp at q5
      go_wp2_with fail
      all_goals
        go_returns
        refine ⟨ret_bool ?_, B5⟩
        rw [E2.out]
        first | (symm; simp; omega) | (simp; omega) | (rw [Bool.eq_iff_iff]; simp; omega)
  · have F : Hid (r = false) := by show _ = _; rw [E2.out]; simp [q5]
    clear E2
    cases hab : R.ab
    all_goals
      rw [hab] at q5 d5_1
      simp at q5
      go_wp2_with fail
      go_returns
      exact ⟨by rw [F.out]; rfl, B5⟩

end Go.Proofs.Ytnlefakicjojdaa
/- alarm: a book of one rule. -/
namespace Go.Proofs.Ytnlefakicjojdaa
set_option linter.unusedVariables false
set_option linter.unusedSimpArgs false
open Go.RowKit W Go.Maps
def OneOk (w : World) (R : Ru) (e : Ending) (w' : World) : Prop := ∃ bb mb b, e = .returned (.tuple #[.pointer (some ⟨bb, 0, none⟩), .bool true, .bool true]) ∧ BookA w' bb mb [(R, st0, b)] ∧ w.heap.size ≤ bb ∧ w.heap.size ≤ mb ∧ w.heap.size ≤ b ∧ Below w.heap.size w w'
set_option maxRecDepth 100000 in
set_option maxHeartbeats 4000000 in
theorem one_yes (R : Ru) (i : RuW R) (hs : R.nm.size ≤ maxLen) (m : mayB R = true) (w : World) : Calls Try.prog 19 #[ruV R] w (OneOk w R) := by
  have kN := fun (W : World) (g : Nat) (ra : RulesAt W g 0 [R]) => new_one R i hs m W g 1 ra
  have kM := rmay_spec R i
  rw [m] at kM
  have RB := hide (Row.new w (ruL R) 53 _ rfl)
  have BW : Below w.heap.size w (w.alloc (.cells (ruL R).toArray 53)) := (Below.refl _ _).alloc (Nat.le_refl _) _
  have R2 := Row.new (w.alloc (.cells (ruL R).toArray 53)) (ruL R) 53 _ rfl
  have B2 : Below w.heap.size w ((w.alloc (.cells (ruL R).toArray 53)).alloc (.cells (ruL R).toArray 53)) := BW.alloc (by simp) _
  clear i m
  unfold ruV at *
  go_enter Try.func19, Try.ntmps19
  go_wp2_with fail
  refine Calls.mono (kN _ _ (rules_one (Row.new' _ (ruL R) _ _ (by simp)))) ?_
  rintro e w2 ⟨bb, mb, b, rfl, bk, l1, l2, l3, k2⟩
  have R3 := hide ((RB.out.later ((Below.refl _ _).alloc (Nat.le_refl _) (.cells (ruL R).toArray 53))).later k2)
  have B3 := B2.trans (k2.mono B2.size)
  have d0 := R3.out.at0 0 _ rfl
  have d1 := R3.out.at0 1 _ rfl
  have d2 := R3.out.at0 2 _ rfl
  have d3 := R3.out.at0 3 _ rfl
  have d4 := R3.out.at0 4 _ rfl
  have d5 := R3.out.at0 5 _ rfl
  have d6 := R3.out.at0 6 _ rfl
  have d7 := R3.out.at0 7 _ rfl
  have d8 := R3.out.at0 8 _ rfl
  have d9 := R3.out.at0 9 _ rfl
  have d10 := R3.out.at0 10 _ rfl
  have lz := R3.out.lt
  have BK := hide bk
  have LB : Hid (w.heap.size ≤ bb ∧ w.heap.size ≤ mb ∧ w.heap.size ≤ b) := by have := B2.size; exact ⟨Nat.le_trans this l1, Nat.le_trans this l2, Nat.le_trans this l3⟩
  clear k2 B2 R2 BW RB bk l1 l2 l3 kN
  go_wp2_with fail
  refine (kM _).mono ?_
  rintro e w3 ⟨rfl, k3⟩
  have FIN : Hid (BookA w3 bb mb [(R, st0, b)] ∧ Below w.heap.size w w3) := ⟨BK.out.later k3, B3.trans (k3.mono B3.size)⟩
  clear k3 d0 d1 d2 d3 d4 d5 d6 d7 d8 d9 d10
  go_wp2_with fail
  go_returns
  exact ⟨bb, mb, b, rfl, FIN.out.1, LB.out.1, LB.out.2.1, LB.out.2.2, FIN.out.2⟩
set_option maxRecDepth 100000 in
set_option maxHeartbeats 4000000 in
theorem one_no (R : Ru) (i : RuW R) (hs : R.nm.size ≤ maxLen) (m : mayB R = false) (w : World) : Calls Try.prog 19 #[ruV R] w fun e w' => e = .returned (.tuple #[.pointer none, .bool false, .bool true]) ∧ Below w.heap.size w w' := by
  have kN := fun (W : World) (g : Nat) (ra : RulesAt W g 0 [R]) => new_bad1 R i hs m W g 1 ra
  have kM := rmay_spec R i
  rw [m] at kM
  have RB := hide (Row.new w (ruL R) 53 _ rfl)
  have BW : Below w.heap.size w (w.alloc (.cells (ruL R).toArray 53)) := (Below.refl _ _).alloc (Nat.le_refl _) _
  have R2 := Row.new (w.alloc (.cells (ruL R).toArray 53)) (ruL R) 53 _ rfl
  have B2 : Below w.heap.size w ((w.alloc (.cells (ruL R).toArray 53)).alloc (.cells (ruL R).toArray 53)) := BW.alloc (by simp) _
  clear i m
  unfold ruV at *
  go_enter Try.func19, Try.ntmps19
  go_wp2_with fail
  refine Calls.mono (kN _ _ (rules_one (Row.new' _ (ruL R) _ _ (by simp)))) ?_
  rintro e w2 ⟨rfl, k2⟩
  have R3 := hide ((RB.out.later ((Below.refl _ _).alloc (Nat.le_refl _) (.cells (ruL R).toArray 53))).later k2)
  have B3 := B2.trans (k2.mono B2.size)
  have d0 := R3.out.at0 0 _ rfl
  have d1 := R3.out.at0 1 _ rfl
  have d2 := R3.out.at0 2 _ rfl
  have d3 := R3.out.at0 3 _ rfl
  have d4 := R3.out.at0 4 _ rfl
  have d5 := R3.out.at0 5 _ rfl
  have d6 := R3.out.at0 6 _ rfl
  have d7 := R3.out.at0 7 _ rfl
  have d8 := R3.out.at0 8 _ rfl
  have d9 := R3.out.at0 9 _ rfl
  have d10 := R3.out.at0 10 _ rfl
  have lz := R3.out.lt
  clear k2 B2 R2 BW RB kN
  go_wp2_with fail
  refine (kM _).mono ?_
  rintro e w3 ⟨rfl, k3⟩
  have FIN : Hid (Below w.heap.size w w3) := B3.trans (k3.mono B3.size)
  clear k3 d0 d1 d2 d3 d4 d5 d6 d7 d8 d9 d10
  go_wp2_with fail
  go_returns
  exact ⟨rfl, FIN.out⟩
/-- What the transitions leave as it was. -/
theorem movS_keeps (R : Ru) (s : St) (l : Int) : (movS R s l).said = s.said ∧ (movS R s l).when = s.when ∧ (movS R s l).last = s.last ∧ (movS R s l).mute = s.mute := by
  unfold movS mov1 entS
  repeat' split
  all_goals exact ⟨rfl, rfl, rfl, rfl⟩
theorem gapS_keeps (R : Ru) (s : St) : (gapS R s).said = s.said ∧ (gapS R s).when = s.when ∧ (gapS R s).last = s.last ∧ (gapS R s).mute = s.mute := by
  unfold gapS gap1 entS
  split <;> exact ⟨rfl, rfl, rfl, rfl⟩
theorem stepS_keeps (R : Ru) (s : St) (t : Int) (is : Bool) (v : Int) : (stepS R s t is v).said = s.said ∧ (stepS R s t is v).when = s.when ∧ (stepS R s t is v).last = t ∧ (stepS R s t is v).mute = s.mute := by
  unfold stepS
  cases is
  · exact gapS_keeps R { s with last := t }
  · exact movS_keeps R { s with last := t, gaps := 0 } _
/-- A state is one of four. -/
def St14 (x : Int) : Prop := 1 ≤ x ∧ x ≤ 4
theorem movS_st (R : Ru) (s : St) (l : Int) (h : St14 s.st) (hl : St14 l) : St14 (movS R s l).st := by
  unfold movS mov1 entS
  repeat' split
  all_goals first | exact h | exact hl
theorem gapS_st (R : Ru) (s : St) (h : St14 s.st) : St14 (gapS R s).st := by
  unfold gapS gap1 entS
  split
  · show St14 4
    exact ⟨by decide, by decide⟩
  · exact h
theorem stepS_st (R : Ru) (s : St) (t : Int) (is : Bool) (v : Int) (h : St14 s.st) : St14 (stepS R s t is v).st := by
  unfold stepS
  cases is
  · exact gapS_st R { s with last := t } h
  · refine movS_st R { s with last := t, gaps := 0 } _ h ?_
    rcases lev_is R { s with last := t }.st v with e | e | e <;> rw [e] <;> exact ⟨by decide, by decide⟩
end Go.Proofs.Ytnlefakicjojdaa
/- AlarmChains. -/
namespace Go.Proofs.Ytnlefakicjojdaa
set_option linter.unusedVariables false
set_option linter.unusedSimpArgs false
open Go.RowKit W Go.Maps
/-- Between the calls: the book, the rule's box. -/
structure ChR (w wr : World) (bb mb b : Nat) (R : Ru) (s : St) : Prop where
  bk : BookA wr bb mb [(R, s, b)]
  rl : Row wr w.heap.size 0 (ruL R)
  below : Below w.heap.size w wr
  lb : w.heap.size < b
  st : St14 s.st ∧ St14 s.said
theorem ChR.later {w wr w' : World} {bb mb b : Nat} {R : Ru} {s : St} (h : ChR w wr bb mb b R s) (k : Below wr.heap.size wr w') : ChR w w' bb mb b R s :=
  ⟨h.bk.later k, h.rl.later k, h.below.trans (k.mono h.below.size), h.lb, h.st⟩
theorem ChR.call {w wr w' : World} {bb mb b : Nat} {R : Ru} {s s' : St} (h : ChR w wr bb mb b R s) (m : Mod [b] wr w') (bk : BookA w' bb mb [(R, s', b)]) (st : St14 s'.st ∧ St14 s'.said) : ChR w w' bb mb b R s' :=
  ⟨bk, h.rl.mod m (by have := h.lb; simp; omega), h.below.trans (m.below h.below.size (by have := h.lb; intro x hx; simp at hx; omega)), h.lb, st⟩
/-- A call that is refused. -/
theorem ch_no {w wr : World} {bb mb b : Nat} {R : Ru} {s : St} (h : ChR w wr bb mb b R s) (hs : R.nm.size ≤ maxLen) (t v1 v0 er : Int) (is : Bool) (iv : IsW (v1, v0)) (he : feE s t = er) (h0 : er ≠ 0) :
    Calls Try.prog 12 #[.pointer (some ⟨bb, 0, none⟩), .string R.nm, .int .i64 t, .agg #[.bool is, .int .i64 v1, .int .u64 v0]] wr fun e w' => e = .returned (.tuple #[.slice none 0 0, .int .i64 er]) ∧ ChR w w' bb mb b R s ∧ Mod [b] wr w' := by
  have k := feed_any h.bk R s List.mem_cons_self hs t v1 v0 is iv
  have e1 : feS R s t is (V v1 v0) = s := by unfold feS; rw [he, if_neg h0]
  have e2 : feO R s t is v1 v0 = none := by unfold feO; rw [he, if_neg h0]
  rw [he, e1, e2] at k
  refine Calls.mono k ?_
  rintro e w' ⟨v, rfl, rfl, fr, bk, m⟩
  rw [updL_one] at bk
  exact ⟨rfl, h.call m bk h.st, m⟩
/-- A call that says nothing. -/
theorem ch_mum {w wr : World} {bb mb b : Nat} {R : Ru} {s s1 : St} (h : ChR w wr bb mb b R s) (hs : R.nm.size ≤ maxLen) (t v1 v0 : Int) (is : Bool) (iv : IsW (v1, v0)) (he : feE s t = 0) (h1 : stepS R s t is (V v1 v0) = s1) (h2 : sayB R s1 t = false) :
    Calls Try.prog 12 #[.pointer (some ⟨bb, 0, none⟩), .string R.nm, .int .i64 t, .agg #[.bool is, .int .i64 v1, .int .u64 v0]] wr fun e w' => e = .returned (.tuple #[.slice none 0 0, .int .i64 0]) ∧ ChR w w' bb mb b R s1 ∧ Mod [b] wr w' := by
  have k := feed_any h.bk R s List.mem_cons_self hs t v1 v0 is iv
  have e1 : feS R s t is (V v1 v0) = s1 := by unfold feS fedS; rw [he, if_pos rfl, h1]; unfold sayS; rw [h2]; rfl
  have e2 : feO R s t is v1 v0 = none := by unfold feO fedO; rw [he, if_pos rfl, h1]; unfold sayO; rw [h2]; rfl
  have q := stepS_st R s t is (V v1 v0) h.st.1
  have q2 := (stepS_keeps R s t is (V v1 v0)).1
  rw [h1] at q q2
  rw [he, e1, e2] at k
  refine Calls.mono k ?_
  rintro e w' ⟨v, rfl, rfl, fr, bk, m⟩
  rw [updL_one] at bk
  exact ⟨rfl, h.call m bk ⟨q, by rw [q2]; exact h.st.2⟩, m⟩
/-- A call that says a word. -/
theorem ch_word {w wr : World} {bb mb b : Nat} {R : Ru} {s s1 : St} (h : ChR w wr bb mb b R s) (hs : R.nm.size ≤ maxLen) (t v1 v0 : Int) (is : Bool) (iv : IsW (v1, v0)) (he : feE s t = 0) (h1 : stepS R s t is (V v1 v0) = s1) (h2 : sayB R s1 t = true) :
    Calls Try.prog 12 #[.pointer (some ⟨bb, 0, none⟩), .string R.nm, .int .i64 t, .agg #[.bool is, .int .i64 v1, .int .u64 v0]] wr fun e w' => ∃ g, e = .returned (.tuple #[.slice (some ⟨g, 0, none⟩) 1 1, .int .i64 0]) ∧ Row w' g 0 [.string R.nm, .int .i64 t, .int .i64 s1.said, .int .i64 s1.st, .bool (decide (s1.st = s1.said)), .bool is, .int .i64 (if is then v1 else 0), .int .u64 (if is then v0 else 0)] ∧ ChR w w' bb mb b R { s1 with said := s1.st, when := t } ∧ Mod [b] wr w' := by
  have k := feed_any h.bk R s List.mem_cons_self hs t v1 v0 is iv
  have e1 : feS R s t is (V v1 v0) = { s1 with said := s1.st, when := t } := by unfold feS fedS; rw [he, if_pos rfl, h1]; unfold sayS; rw [h2]; rfl
  have e2 : feO R s t is v1 v0 = some [.string R.nm, .int .i64 t, .int .i64 s1.said, .int .i64 s1.st, .bool (decide (s1.st = s1.said)), .bool is, .int .i64 (if is then v1 else 0), .int .u64 (if is then v0 else 0)] := by unfold feO fedO; rw [he, if_pos rfl, h1]; unfold sayO; rw [h2]; rfl
  have q := stepS_st R s t is (V v1 v0) h.st.1
  rw [h1] at q
  rw [he, e1, e2] at k
  refine Calls.mono k ?_
  rintro e w' ⟨v, rfl, ⟨g, rfl, row⟩, fr, bk, m⟩
  rw [updL_one] at bk
  exact ⟨g, rfl, row, h.call m bk ⟨q, q⟩, m⟩
theorem ch_mute {w wr : World} {bb mb b : Nat} {R : Ru} {s : St} (h : ChR w wr bb mb b R s) (hs : R.nm.size ≤ maxLen) (t : Int) :
    Calls Try.prog 15 #[.pointer (some ⟨bb, 0, none⟩), .string R.nm, .int .i64 t] wr fun e w' => e = .returned (.int .i64 (muR t)) ∧ ChR w w' bb mb b R (muS s t) ∧ Mod [b] wr w' := by
  refine Calls.mono (mute_any h.bk R s List.mem_cons_self hs t) ?_
  rintro e w' ⟨rfl, bk, m⟩
  rw [updL_one] at bk
  exact ⟨rfl, h.call m bk (by unfold muS; split <;> exact h.st), m⟩
theorem ch_state {w wr : World} {bb mb b : Nat} {R : Ru} {s : St} (h : ChR w wr bb mb b R s) (hs : R.nm.size ≤ maxLen) :
    CalcN 17 #[.pointer (some ⟨bb, 0, none⟩), .string R.nm] wr (.tuple #[.int .i64 s.st, .bool true]) := state_any h.bk R s List.mem_cons_self hs
theorem ch_start {w w0 : World} {bb mb b : Nat} {R : Ru} (bk : BookA w0 bb mb [(R, st0, b)]) (rl : Row w0 w.heap.size 0 (ruL R)) (k : Below w.heap.size w w0) (lb : w.heap.size < b) : ChR w w0 bb mb b R st0 := ⟨bk, rl, k, lb, ⟨by decide, by decide⟩, ⟨by decide, by decide⟩⟩
end Go.Proofs.Ytnlefakicjojdaa
/- alarm: structs compared. -/
namespace Go.Proofs.Ytnlefakicjojdaa
set_option linter.unusedVariables false
set_option linter.unusedSimpArgs false
open Go.RowKit W Go.Maps
theorem fields36 : Try.prog.fieldsOf 36 = Try.prog.fieldsOf 36 := rfl
set_option maxRecDepth 100000 in
theorem eq36 (d : Nat) (b c b' c' : Int) (w : World) : (Op.equalIn (d + 2) 36 (.agg #[.int .i64 b, .int .u64 c]) (.agg #[.int .i64 b', .int .u64 c'])).run Try.prog w = .ok (b == b' && c == c') w := by
  rw [run_equalIn_struct _ _ _ _ _ (by kernel_rfl) (by kernel_rfl)]
  simp only [Program.fieldsOf, Try.underlying36]
  simp [Op.eqFields, part, go_sem, Try.underlying2, Try.underlying34]
  by_cases h : b = b' <;> by_cases k : c = c' <;> simp [h, k]
theorem sz36 (w : World) : (Go.sizeOf 36).run Try.prog w = .ok 2 w := by kernel_rfl
theorem sz38 (w : World) : (Go.sizeOf 38).run Try.prog w = .ok 3 w := by kernel_rfl
theorem ag36 (w : World) : (isAgg 36).run Try.prog w = .ok true w := by kernel_rfl
theorem ag38 (w : World) : (isAgg 38).run Try.prog w = .ok true w := by kernel_rfl
theorem ag2 (w : World) : (isAgg 2).run Try.prog w = .ok false w := by kernel_rfl
theorem ag4 (w : World) : (isAgg 4).run Try.prog w = .ok false w := by kernel_rfl
theorem ag9 (w : World) : (isAgg 9).run Try.prog w = .ok false w := by kernel_rfl
theorem ag49 (w : World) : (isAgg 49).run Try.prog w = .ok false w := by kernel_rfl
set_option maxRecDepth 100000 in
theorem eq38 (d : Nat) (a a' : Bool) (b c b' c' : Int) (w : World) : (Op.equalIn (d + 3) 38 (.agg #[.bool a, .int .i64 b, .int .u64 c]) (.agg #[.bool a', .int .i64 b', .int .u64 c'])).run Try.prog w = .ok (a == a' && (b == b' && c == c')) w := by
  rw [run_equalIn_struct _ _ _ _ _ (by kernel_rfl) (by kernel_rfl)]
  simp only [Program.fieldsOf, Try.underlying38]
  have e := eq36 d b c b' c'
  have e2 := fun w => run_equalIn_bool' (P := Try.prog) w (d + 1) 4 a a' Try.underlying4
  simp only [Op.eqFields, part, Sem.run_bind, ag36, ag4, sz36, Result.andThen_ok]
  simp [e, e2]
  cases a <;> cases a' <;> by_cases h : b = b' <;> by_cases k : c = c' <;> simp [h, k]
theorem neq38 (a a' : Bool) (b c b' c' : Int) (w : World) : (binOp .neq 38 (.agg #[.bool a, .int .i64 b, .int .u64 c]) (.agg #[.bool a', .int .i64 b', .int .u64 c'])).run Try.prog w = .ok (.bool (!(a == a' && (b == b' && c == c')))) w := by
  rw [run_neq_struct, eq38 9997]; rfl
set_option maxRecDepth 100000 in
theorem eq58 (d : Nat) (n : ByteArray) (t f g : Int) (x y : Bool) (b c : Int) (w : World) : (Op.equalIn (d + 4) 58 (.agg #[.string n, .int .i64 t, .int .i64 f, .int .i64 g, .bool x, .bool y, .int .i64 b, .int .u64 c]) (.agg #[.string n, .int .i64 t, .int .i64 f, .int .i64 g, .bool x, .bool y, .int .i64 b, .int .u64 c])).run Try.prog w
    = .ok true w := by
  rw [run_equalIn_struct _ _ _ _ _ (by kernel_rfl) (by kernel_rfl)]
  simp only [Program.fieldsOf, Try.underlying58]
  have e := eq38 d y y b c b c
  have e1 := fun w => run_equalIn_string (P := Try.prog) w (d + 2) 9 n n Try.underlying9
  have e2 := fun w => run_equalIn_bool' (P := Try.prog) w (d + 2) 4 x x Try.underlying4
  have e3 := fun w a b => run_equalIn_int (P := Try.prog) w (d + 2) 2 .i64 _ a b Try.underlying2
  have e4 := fun w a b => run_equalIn_int (P := Try.prog) w (d + 2) 49 .i64 _ a b Try.underlying49
  simp only [Op.eqFields, part, Sem.run_bind, ag38, ag4, ag2, ag9, ag49, sz38, Result.andThen_ok]
  simp [e, e1, e2, e3, e4]
theorem neq58 (n : ByteArray) (t f g : Int) (x y : Bool) (b c : Int) (w : World) : (binOp .neq 58 (.agg #[.string n, .int .i64 t, .int .i64 f, .int .i64 g, .bool x, .bool y, .int .i64 b, .int .u64 c]) (.agg #[.string n, .int .i64 t, .int .i64 f, .int .i64 g, .bool x, .bool y, .int .i64 b, .int .u64 c])).run Try.prog w = .ok (.bool false) w := by
  rw [run_neq_struct, eq58 9996]; rfl
end Go.Proofs.Ytnlefakicjojdaa
/- alarm: how a script reads. -/
namespace Go.Proofs.Ytnlefakicjojdaa
set_option linter.unusedVariables false
set_option linter.unusedSimpArgs false
open Go.RowKit W Go.Maps Go.ChangeShapes Go.WideShapes Go.Deep
section
variable {H : Type} {enc : TypeId × Value → H} {w : World} {base : Nat} {sp : Nat → Bool} {held : Bool} {fuel : Nat} {x : DataW H × List MemPlace}
instance : Inhabited Op6 := ⟨⟨0, ByteArray.empty, 0, false, 0, 0⟩⟩
theorem rd_script {s : Option Addr} {n c : Nat} (h : DataW.trod enc Try.prog w base sp held fuel 23 [.slice s n c] = some x) :
    ∃ L : List Op6, L.length = n ∧ IsSc w s L ∧ (n = 0 ∨ ∃ el spd, x.1 = .slice el spd ∧ el.length = n) := by
  rcases open_slice Try.underlying23 h with ⟨hcs, _⟩ | ⟨a, len, cap, m, k, D, Pl, hcs, _, hl, hm, hmm, hx, hcell⟩
  · simp at hcs
    obtain ⟨rfl, rfl, rfl⟩ := hcs
    exact ⟨[], rfl, ⟨by simp, .inl rfl⟩, .inl rfl⟩
  · simp at hcs
    obtain ⟨rfl, rfl, rfl⟩ := hcs
    have lm : n ≤ m := by rw [hmm]; split <;> omega
    have each : ∀ i, i < n → ∃ q : Op6, (∀ k v, (opL q)[k]? = some v → w.cell? (a.add (i * 6 + k)) = some v) ∧ IsW (q.v1, q.v0) ∧ q.nm.size ≤ maxLen := by
      intro i hi
      obtain ⟨cs', h1, h2⟩ := hcell i (by omega)
      obtain ⟨_, hlen, hc⟩ := World.cells?_some h1
      obtain ⟨kd, nm, t, is, v1, v0, rfl, iw, ws⟩ := rd_op h2
      rw [cells40] at hc
      refine ⟨⟨kd, nm, t, is, v1, v0⟩, fun k v e => ?_, iw, ws⟩
      have hk : k < 6 := by
        obtain ⟨hk, _⟩ := List.getElem?_eq_some_iff.1 e
        simpa [opL] using hk
      have g := hc k (by omega)
      rw [add_add] at g
      rw [g]
      unfold opL at e
      first | exact e | (simpa using e)
    obtain ⟨q, hq⟩ := choose_lt each
    have hlen : ((List.range n).map q).length = n := by simp
    refine ⟨(List.range n).map q, hlen, ⟨fun y hy => ?_, ?_⟩, .inr ⟨_, _, by rw [hx], by simp⟩⟩
    · obtain ⟨i, hi, rfl⟩ := List.mem_map.1 hy
      exact (hq i (List.mem_range.1 hi)).2
    · rcases Nat.eq_zero_or_pos n with rfl | hpos
      · exact .inl (by simp)
      · have g0 := (hq 0 hpos).1 0 _ rfl
        obtain ⟨b, off, spot⟩ := a
        have hspot : spot = none := by simpa [Addr.add] using World.cell?_spot g0
        subst hspot
        refine .inr ⟨b, off, rfl, ?_, fun j hj k v e => ?_⟩
        · rw [add_plain] at g0
          rcases Nat.lt_or_ge b w.heap.size with hlt | hge
          · exact hlt
          · unfold World.cell? at g0; simp [Array.getElem?_eq_none hge] at g0
        · rw [hlen] at hj
          have e' : ((List.range n).map q)[j]'(by rw [hlen]; exact hj) = q j := by rw [List.getElem_map, List.getElem_range]
          rw [e'] at e
          have g := (hq j hj).1 k v e
          rw [add_plain, ← Nat.add_assoc] at g
          exact g
end
end Go.Proofs.Ytnlefakicjojdaa
/- What the bound of an upto statement gives. -/
namespace Go.Proofs.Ytnlefakicjojdaa
set_option linter.unusedVariables false
variable {H : Type}
theorem bulk1 (d : DataW H) : 1 ≤ Rows.uptoBulk d := by
  cases d with
  | lit l => cases l <;> simp [Rows.uptoBulk]
  | _ => simp [Rows.uptoBulk]
theorem bulk_len : ∀ l : List (DataW H), l.length ≤ Rows.uptoBulkAll l
  | [] => by simp
  | d :: r => by
    have h1 := bulk1 d
    have h2 := bulk_len r
    simp only [Rows.uptoBulkAll, List.length_cons]; omega
theorem bulk_mem {d : DataW H} : ∀ {l : List (DataW H)}, d ∈ l → Rows.uptoBulk d ≤ Rows.uptoBulkAll l
  | x :: r, h => by
    simp only [Rows.uptoBulkAll]
    rcases List.mem_cons.1 h with rfl | h
    · omega
    · have := bulk_mem h; omega
theorem bulk_le {l : List (DataW H)} (hk : Rows.uptoSmall H l = true) : Rows.uptoBulkAll l ≤ 1048576 := by simpa [Rows.uptoSmall] using hk
theorem bulk_slice {l el sp : List (DataW H)} (hk : Rows.uptoSmall H l = true) (h : DataW.slice el sp ∈ l) : el.length ≤ 1048576 := by
  have h1 := bulk_le hk
  have h2 := bulk_mem h
  have h3 := bulk_len el
  simp only [Rows.uptoBulk] at h2
  omega
theorem bulk_text {l : List (DataW H)} {bs : List UInt8} (hk : Rows.uptoSmall H l = true) (h : DataW.lit (.string bs) ∈ l) : bs.length ≤ 1048576 := by
  have h1 := bulk_le hk
  have h2 := bulk_mem h
  simp only [Rows.uptoBulk] at h2
  omega
theorem bulk_elem {l el sp : List (DataW H)} {d : DataW H} (hk : Rows.uptoSmall H l = true) (h : DataW.slice el sp ∈ l) (hd : d ∈ el) : Rows.uptoBulk d ≤ 1048576 := by
  have h1 := bulk_le hk
  have h2 := bulk_mem h
  have h3 := bulk_mem hd
  simp only [Rows.uptoBulk] at h2
  omega
theorem bulk_lit {bs : List UInt8} (h : Rows.uptoBulk (DataW.lit (H := H) (.string bs)) ≤ 1048576) : bs.length ≤ 1048576 := by
  simp only [Rows.uptoBulk] at h; omega
theorem bulk_part {d : DataW H} {ps : List (DataW H)} (h : Rows.uptoBulk (DataW.agg ps) ≤ 1048576) (hd : d ∈ ps) : Rows.uptoBulk d ≤ 1048576 := by
  have := bulk_mem hd
  simp only [Rows.uptoBulk] at h; omega
theorem bulk_inner {el sp : List (DataW H)} (h : Rows.uptoBulk (DataW.slice el sp) ≤ 1048576) : el.length ≤ 1048576 := by
  have := bulk_len el
  simp only [Rows.uptoBulk] at h; omega
end Go.Proofs.Ytnlefakicjojdaa
