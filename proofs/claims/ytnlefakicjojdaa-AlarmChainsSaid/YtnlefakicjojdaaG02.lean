/- Texts that belong together: Alvc Alvd Ints Bkm Rowc Alw Alx Wneg Alm Aly. -/
import Derived.Test.YtnlefakicjojdaaG01
import Derived.ChangeSlices
import Derived.Maps.OwnSet
import Derived.Maps.OwnOps
import Derived.Maps.RangeWalk
import Derived.Maps.Ext
import Derived.Laws.ByValue
import Derived.Laws.EntriesVeiled
set_option linter.unusedSimpArgs false
set_option linter.unusedVariables false
/- alarm: the level of a value. -/
namespace Go.Proofs.Ytnlefakicjojdaa
set_option linter.unusedVariables false
set_option linter.unusedSimpArgs false
open Go.RowKit W
theorem fits_ok {R : Ru} (o : RuOk R) : Fits (V R.w1 R.w0 + V R.s1 R.s0) ∧ Fits (V R.w1 R.w0 - V R.s1 R.s0) ∧ Fits (V R.c1 R.c0 + V R.s1 R.s0) ∧ Fits (V R.c1 R.c0 - V R.s1 R.s0) := by
  obtain ⟨_, _, _, ⟨a1, a2⟩, ⟨b1, b2⟩, ⟨c1, c2⟩, _⟩ := o
  unfold Ru.wa at a1 a2
  unfold Ru.cr at b1 b2
  unfold Ru.sl at c1 c2
  refine ⟨⟨?_, ?_⟩, ⟨?_, ?_⟩, ⟨?_, ?_⟩, ⟨?_, ?_⟩⟩ <;> omega
theorem near_spec {w : World} {b : Nat} {R : Ru} (h : RuAt w b R) (v1 v0 t1 t0 : Int) (iv : IsW (v1, v0)) (it : IsW (t1, t0)) (isl : IsW (R.s1, R.s0)) (f : Fits (V t1 t0 + V R.s1 R.s0)) (f2 : Fits (V t1 t0 - V R.s1 R.s0)) :
    Calls Try.prog 62 #[.pointer (some ⟨b, 0, none⟩), .agg #[.int .i64 v1, .int .u64 v0], .agg #[.int .i64 t1, .int .u64 t0]] w fun e w' => e = .returned (.bool (bey R.ab (V v1 v0) (eas R.ab (V t1 t0) R.sl))) ∧ Below w.heap.size w w' := by
  cases e : R.ab
  · exact near_false h v1 v0 t1 t0 iv it isl f f2 e
  · exact near_true h v1 v0 t1 t0 iv it isl f f2 e
theorem beyond_at {w : World} {b : Nat} {R : Ru} (h : RuAt w b R) (v1 v0 t1 t0 : Int) (iv : IsW (v1, v0)) (it : IsW (t1, t0)) (W : World) (k : Below w.heap.size w W) :
    Calls Try.prog 63 #[.pointer (some ⟨b, 0, none⟩), .agg #[.int .i64 v1, .int .u64 v0], .agg #[.int .i64 t1, .int .u64 t0]] W fun e w' => e = .returned (.bool (bey R.ab (V v1 v0) (V t1 t0))) ∧ Below W.heap.size W w' := beyond_spec (h.later k).k1 (h.later k).lt v1 v0 t1 t0 iv it
set_option maxRecDepth 100000 in
set_option maxHeartbeats 4000000 in
theorem fine_spec {w : World} {b : Nat} {R : Ru} (h : RuAt w b R) (ok : RuOk R) (v1 v0 : Int) (iv : IsW (v1, v0)) :
    Calls Try.prog 58 #[.pointer (some ⟨b, 0, none⟩), .agg #[.int .i64 v1, .int .u64 v0]] w fun e w' => e = .returned (.int .i64 (levF R (V v1 v0))) ∧ Below w.heap.size w w' := by
  have HB := hide h
  have kC := fun W k => beyond_at h v1 v0 R.c1 R.c0 iv ok.ic W k
  have kW := fun W k => beyond_at h v1 v0 R.w1 R.w0 iv ok.iw W k
  have hL : Hid (levF R (V v1 v0) = if bey R.ab (V v1 v0) (V R.c1 R.c0) = true then 3 else if bey R.ab (V v1 v0) (V R.w1 R.w0) = true then 2 else 1) := rfl
  obtain ⟨L, eL⟩ : ∃ L, L = levF R (V v1 v0) := ⟨_, rfl⟩
  rw [← eL] at hL
  rw [← eL]
  obtain ⟨B1, e1⟩ : ∃ B1, B1 = bey R.ab (V v1 v0) (V R.c1 R.c0) := ⟨_, rfl⟩
  obtain ⟨B2, e2⟩ : ∃ B2, B2 = bey R.ab (V v1 v0) (V R.w1 R.w0) := ⟨_, rfl⟩
  rw [← e1] at kC hL
  rw [← e2] at kW hL
  clear h ok iv eL e1 e2
  go_enter Try.func58, Try.ntmps58
  go_wp2_with fail
  refine abs_wp (fun W => W.cell? ⟨w.heap.size, 0, none⟩ = some (.int .i64 v1) ∧ W.cell? ⟨w.heap.size, 1, none⟩ = some (.int .u64 v0) ∧ w.heap.size < W.heap.size ∧ Below w.heap.size w W) ?_ ?_
  · refine ⟨?_, ?_, ?_, ?_⟩
    all_goals first | assumption | (go_grown; done) | (simp [go_sem]; done) | (simp; done) | (simp; omega)
  rintro W ⟨p1, p0, zW, BW⟩
  have HW := hide (HB.out.later BW)
  have r1 := HW.out.k4
  have r0 := HW.out.k5
  have lW := HW.out.lt
  have K0 := Keeps.start (Nat.le_refl W.heap.size)
  have K1 := K0.drew
  go_region_held3 (fun w' => w'.cell? ⟨w.heap.size, 0, none⟩ = some (.int .i64 v1) ∧ w'.cell? ⟨w.heap.size, 1, none⟩ = some (.int .u64 v0) ∧ w'.cell? ⟨b, 4, none⟩ = some (.int .i64 R.c1) ∧ w'.cell? ⟨b, 5, none⟩ = some (.int .u64 R.c0) ∧ Keeps W.heap.size W w') ((refine (fun K => ⟨Keeps.cell K p1 zW, Keeps.cell K p0 zW, Keeps.cell K r1 lW, Keeps.cell K r0 lW, K⟩) (?_ : Keeps W.heap.size W _); (repeat (first | assumption | refine Keeps.alloc ?_ _ | refine Keeps.drew ?_ | refine Keeps.setCell ?_ (by first | (simp; done) | omega | (simp; omega)) _)))) ((go_at_call 63; (with_reducible refine (kC _ (BW.trans ((by assumption : Keeps W.heap.size W _).below.mono BW.size))).mono ?_); rintro e v20 ⟨rfl, hbv20⟩; have K20 := Keeps.call (B := W.heap.size) (W := W) (by (repeat (first | assumption | refine Keeps.alloc ?_ _ | refine Keeps.drew ?_ | refine Keeps.setCell ?_ (by first | (simp; done) | omega | (simp; omega)) _))) hbv20))
  all_goals
    cases B1
    · have pp1 := K20.cell p1 zW
      have pp0 := K20.cell p0 zW
      have sz := K20.size
      have HV := hide (HW.out.later K20.below)
      have BV := BW.trans (K20.below.mono BW.size)
      have r1 := HV.out.k2
      have r0 := HV.out.k3
      have lV := HV.out.lt
      have zV : w.heap.size < v20.heap.size := by omega
      go_wp2_with fail
      have J0 := Keeps.start (Nat.le_refl v20.heap.size)
      have J1 := J0.drew
      clear K0 K1 K20
      go_region_held3 (fun w' => w'.cell? ⟨w.heap.size, 0, none⟩ = some (.int .i64 v1) ∧ w'.cell? ⟨w.heap.size, 1, none⟩ = some (.int .u64 v0) ∧ w'.cell? ⟨b, 2, none⟩ = some (.int .i64 R.w1) ∧ w'.cell? ⟨b, 3, none⟩ = some (.int .u64 R.w0) ∧ Keeps v20.heap.size v20 w') ((refine (fun K => ⟨Keeps.cell K pp1 zV, Keeps.cell K pp0 zV, Keeps.cell K r1 lV, Keeps.cell K r0 lV, K⟩) (?_ : Keeps v20.heap.size v20 _); (repeat (first | assumption | refine Keeps.alloc ?_ _ | refine Keeps.drew ?_ | refine Keeps.setCell ?_ (by first | (simp; done) | omega | (simp; omega)) _)))) ((go_at_call 63; (with_reducible refine (kW _ (BV.trans ((by assumption : Keeps v20.heap.size v20 _).below.mono BV.size))).mono ?_); rintro e v21 ⟨rfl, hbv21⟩; have K21 := Keeps.call (B := v20.heap.size) (W := v20) (by (repeat (first | assumption | refine Keeps.alloc ?_ _ | refine Keeps.drew ?_ | refine Keeps.setCell ?_ (by first | (simp; done) | omega | (simp; omega)) _))) hbv21))
      all_goals
        have BE := BV.trans (K21.below.mono BV.size)
        cases B2
        all_goals
          go_wp2_with fail
          go_returns
          exact ⟨by rw [hL.out]; rfl, BE⟩
    · have BE := BW.trans (K20.below.mono BW.size)
      go_wp2_with fail
      go_returns
      exact ⟨by rw [hL.out]; rfl, BE⟩
end Go.Proofs.Ytnlefakicjojdaa
/- alarm: fromWarn, fromCrit; the level by the state. -/
namespace Go.Proofs.Ytnlefakicjojdaa
set_option linter.unusedVariables false
set_option linter.unusedSimpArgs false
open Go.RowKit W
set_option maxRecDepth 100000 in
set_option maxHeartbeats 4000000 in
theorem warn_spec {w : World} {b : Nat} {R : Ru} (h : RuAt w b R) (ok : RuOk R) (v1 v0 : Int) (iv : IsW (v1, v0)) :
    Calls Try.prog 56 #[.pointer (some ⟨b, 0, none⟩), .agg #[.int .i64 v1, .int .u64 v0]] w fun e w' => e = .returned (.int .i64 (levW R (V v1 v0))) ∧ Below w.heap.size w w' := by
  have HB := hide h
  have kF := fun (W : World) (k : Below w.heap.size w W) => fine_spec (h.later k) ok v1 v0 iv
  have kN := fun (W : World) (k : Below w.heap.size w W) => near_spec (h.later k) v1 v0 R.w1 R.w0 iv ok.iw ok.is (fits_ok ok).1 (fits_ok ok).2.1
  have hL : Hid (levW R (V v1 v0) = if levF R (V v1 v0) = 1 ∧ bey R.ab (V v1 v0) (eas R.ab (V R.w1 R.w0) R.sl) = true then 2 else levF R (V v1 v0)) := rfl
  obtain ⟨L, eL⟩ : ∃ L, L = levW R (V v1 v0) := ⟨_, rfl⟩
  rw [← eL] at hL
  rw [← eL]
  obtain ⟨F, eF⟩ : ∃ F, F = levF R (V v1 v0) := ⟨_, rfl⟩
  obtain ⟨B1, e1⟩ : ∃ B1, B1 = bey R.ab (V v1 v0) (eas R.ab (V R.w1 R.w0) R.sl) := ⟨_, rfl⟩
  rw [← eF] at kF hL
  rw [← e1] at kN hL
  clear h ok iv eL e1 eF
  go_enter Try.func56, Try.ntmps56
  go_wp2_with (go_at_call 58; refine (kF _ (by go_grown)).mono ?_; rintro e w1 ⟨rfl, hb1⟩)
  refine abs_wp (fun W => W.cell? ⟨w.heap.size, 0, none⟩ = some (.int .i64 v1) ∧ W.cell? ⟨w.heap.size, 1, none⟩ = some (.int .u64 v0) ∧ w.heap.size < W.heap.size ∧ Below w.heap.size w W) ?_ ?_
  · obtain ⟨q1, q2, q3⟩ := bcell hb1
    simp only [World.size_alloc] at q1 q2 q3
    refine ⟨?_, ?_, ?_, ?_⟩
    · first | (rw [q1 _ _ (by omega)]; simp [go_sem]; done)
    · first | (rw [q1 _ _ (by omega)]; simp [go_sem]; done)
    · omega
    · exact Below.trans (((Below.refl _ _).alloc (Nat.le_refl _) _)) (hb1.mono (by simp))
  rintro W ⟨p1, p0, zW, BW⟩
  have HW := hide (HB.out.later BW)
  have r1 := HW.out.k2
  have r0 := HW.out.k3
  have lW := HW.out.lt
  have K0 := Keeps.start (Nat.le_refl W.heap.size)
  have K1 := K0.drew
  clear hb1 kF
  by_cases f1 : F = 1
  · subst f1
    go_region_held3 (fun w' => w'.cell? ⟨w.heap.size, 0, none⟩ = some (.int .i64 v1) ∧ w'.cell? ⟨w.heap.size, 1, none⟩ = some (.int .u64 v0) ∧ w'.cell? ⟨b, 2, none⟩ = some (.int .i64 R.w1) ∧ w'.cell? ⟨b, 3, none⟩ = some (.int .u64 R.w0) ∧ Keeps W.heap.size W w') ((refine (fun K => ⟨Keeps.cell K p1 zW, Keeps.cell K p0 zW, Keeps.cell K r1 lW, Keeps.cell K r0 lW, K⟩) (?_ : Keeps W.heap.size W _); (repeat (first | assumption | refine Keeps.alloc ?_ _ | refine Keeps.drew ?_ | refine Keeps.setCell ?_ (by first | (simp; done) | omega | (simp; omega)) _)))) ((go_at_call 62; (with_reducible refine (kN _ (BW.trans ((by assumption : Keeps W.heap.size W _).below.mono BW.size))).mono ?_); rintro e v20 ⟨rfl, hbv20⟩; have K20 := Keeps.call (B := W.heap.size) (W := W) (by (repeat (first | assumption | refine Keeps.alloc ?_ _ | refine Keeps.drew ?_ | refine Keeps.setCell ?_ (by first | (simp; done) | omega | (simp; omega)) _))) hbv20))
    all_goals
      have BE := BW.trans (K20.below.mono BW.size)
      cases B1
      all_goals
        go_wp2_with fail
        go_returns
        exact ⟨by rw [hL.out]; rfl, BE⟩
  · have f2 : (F == 1) = false := by simpa using f1
    go_quiet (fail)
    go_wp2_with fail
    go_returns
    refine ⟨by rw [hL.out, if_neg (by omega)]; rfl, ?_⟩
    first | exact BW.drew | exact below_drewN BW _ | exact BW
set_option maxRecDepth 100000 in
set_option maxHeartbeats 4000000 in
theorem crit_spec {w : World} {b : Nat} {R : Ru} (h : RuAt w b R) (ok : RuOk R) (v1 v0 : Int) (iv : IsW (v1, v0)) :
    Calls Try.prog 57 #[.pointer (some ⟨b, 0, none⟩), .agg #[.int .i64 v1, .int .u64 v0]] w fun e w' => e = .returned (.int .i64 (levC R (V v1 v0))) ∧ Below w.heap.size w w' := by
  have HB := hide h
  have kF := fun (W : World) (k : Below w.heap.size w W) => warn_spec (h.later k) ok v1 v0 iv
  have kN := fun (W : World) (k : Below w.heap.size w W) => near_spec (h.later k) v1 v0 R.c1 R.c0 iv ok.ic ok.is (fits_ok ok).2.2.1 (fits_ok ok).2.2.2
  have hL : Hid (levC R (V v1 v0) = if bey R.ab (V v1 v0) (eas R.ab (V R.c1 R.c0) R.sl) = true then 3 else levW R (V v1 v0)) := rfl
  obtain ⟨L, eL⟩ : ∃ L, L = levC R (V v1 v0) := ⟨_, rfl⟩
  rw [← eL] at hL
  rw [← eL]
  obtain ⟨F, eF⟩ : ∃ F, F = levW R (V v1 v0) := ⟨_, rfl⟩
  obtain ⟨B1, e1⟩ : ∃ B1, B1 = bey R.ab (V v1 v0) (eas R.ab (V R.c1 R.c0) R.sl) := ⟨_, rfl⟩
  rw [← eF] at kF hL
  rw [← e1] at kN hL
  clear h ok iv eL e1 eF
  go_enter Try.func57, Try.ntmps57
  go_wp2_with fail
  refine abs_wp (fun W => W.cell? ⟨w.heap.size, 0, none⟩ = some (.int .i64 v1) ∧ W.cell? ⟨w.heap.size, 1, none⟩ = some (.int .u64 v0) ∧ w.heap.size < W.heap.size ∧ Below w.heap.size w W) ?_ ?_
  · refine ⟨?_, ?_, ?_, ?_⟩
    all_goals first | assumption | (go_grown; done) | (simp [go_sem]; done) | (simp; done) | (simp; omega)
  rintro W ⟨p1, p0, zW, BW⟩
  have HW := hide (HB.out.later BW)
  have r1 := HW.out.k4
  have r0 := HW.out.k5
  have lW := HW.out.lt
  have K0 := Keeps.start (Nat.le_refl W.heap.size)
  have K1 := K0.drew
  go_region_held3 (fun w' => w'.cell? ⟨w.heap.size, 0, none⟩ = some (.int .i64 v1) ∧ w'.cell? ⟨w.heap.size, 1, none⟩ = some (.int .u64 v0) ∧ w'.cell? ⟨b, 4, none⟩ = some (.int .i64 R.c1) ∧ w'.cell? ⟨b, 5, none⟩ = some (.int .u64 R.c0) ∧ Keeps W.heap.size W w') ((refine (fun K => ⟨Keeps.cell K p1 zW, Keeps.cell K p0 zW, Keeps.cell K r1 lW, Keeps.cell K r0 lW, K⟩) (?_ : Keeps W.heap.size W _); (repeat (first | assumption | refine Keeps.alloc ?_ _ | refine Keeps.drew ?_ | refine Keeps.setCell ?_ (by first | (simp; done) | omega | (simp; omega)) _)))) ((go_at_call 62; (with_reducible refine (kN _ (BW.trans ((by assumption : Keeps W.heap.size W _).below.mono BW.size))).mono ?_); rintro e v20 ⟨rfl, hbv20⟩; have K20 := Keeps.call (B := W.heap.size) (W := W) (by (repeat (first | assumption | refine Keeps.alloc ?_ _ | refine Keeps.drew ?_ | refine Keeps.setCell ?_ (by first | (simp; done) | omega | (simp; omega)) _))) hbv20))
  all_goals
    have pp1 := K20.cell p1 zW
    have pp0 := K20.cell p0 zW
    have BV := BW.trans (K20.below.mono BW.size)
    clear K0 K1
    cases B1
    · go_wp2_with (go_at_call 56; refine (kF _ BV).mono ?_; rintro e w1 ⟨rfl, hb1⟩)
      go_returns
      exact ⟨by rw [hL.out]; rfl, BV.trans (hb1.mono BV.size)⟩
    · go_wp2_with fail
      go_returns
      exact ⟨by rw [hL.out]; rfl, BV⟩
end Go.Proofs.Ytnlefakicjojdaa
/- Slices of numbers that came in, nil too. -/
namespace Go.Proofs.Ytnlefakicjojdaa
set_option linter.unusedVariables false
set_option linter.unusedSimpArgs false
open Go.RowKit W
/-- Numbers of a kind in a block. -/
structure LieI (k : IntKind) (w : World) (g o : Nat) (xs : List Int) : Prop where
  cell : ∀ j (h : j < xs.length), w.cell? ⟨g, o + j, none⟩ = some (.int k xs[j])
  lt : g < w.heap.size
theorem LieI.later {k : IntKind} {w w' : World} {g o : Nat} {xs : List Int} (h : LieI k w g o xs) (b : Below w.heap.size w w') : LieI k w' g o xs :=
  ⟨fun j hj => (b.cell (p := ⟨g, o + j, none⟩) h.lt).trans (h.cell j hj), Nat.lt_of_lt_of_le h.lt b.size⟩
/-- A slice of numbers, nil too. -/
def IsInts (k : IntKind) (w : World) (a : Option Addr) (xs : List Int) : Prop := xs = [] ∨ ∃ g o, a = some ⟨g, o, none⟩ ∧ LieI k w g o xs
theorem IsInts.later {k : IntKind} {w w' : World} {a : Option Addr} {xs : List Int} (h : IsInts k w a xs) (b : Below w.heap.size w w') : IsInts k w' a xs := by
  rcases h with h | ⟨g, o, rfl, h⟩
  · exact .inl h
  · exact .inr ⟨g, o, rfl, h.later b⟩
theorem cellb_lt {w : World} {b o : Nat} {v : Value} (h : w.cell? ⟨b, o, none⟩ = some v) : b < w.heap.size := by
  rcases Nat.lt_or_ge b w.heap.size with hlt | hge
  · exact hlt
  · unfold World.cell? at h; simp [Array.getElem?_eq_none hge] at h
open Go.ChangeShapes Go.WideShapes in
/-- A slice of numbers as it is read. -/
theorem isInts_of {H : Type} {enc : TypeId × Value → H} {P : Program} {w : World} {base : Nat} {spare : Nat → Bool} {held : Bool} {n : Nat} {t e : TypeId} {k : IntKind} {v : Value} {y : DataW H × List MemPlace}
    (ht : P.underlying t = some (.slice e)) (he : P.underlying e = some (.int k)) (hc : P.cellsOf e = 1) (h : DataW.trod enc P w base spare held n t [v] = some y) :
    ∃ a c xs, v = .slice a xs.length c ∧ IsInts k w a xs ∧ ∀ x ∈ xs, (Lit.int k x).wf = true := by
  rcases open_ints ht he hc h with ⟨hcs, _⟩ | ⟨a, len, cap, zs, hcs, _, hl, hm, hz, _, hcell, hwf⟩
  · simp at hcs
    exact ⟨none, 0, [], hcs, .inl rfl, by simp⟩
  · simp at hcs
    have lz : len ≤ zs.length := by rw [hz]; split <;> omega
    have lt : (zs.take len).length = len := by rw [List.length_take]; omega
    refine ⟨some a, cap, zs.take len, by rw [lt]; exact hcs, ?_, fun x hx => hwf x (List.mem_of_mem_take hx)⟩
    rcases Nat.eq_zero_or_pos len with rfl | hpos
    · exact .inl (by simp)
    · have g0 := hcell 0 (by omega)
      obtain ⟨b, off, spot⟩ := a
      have hspot : spot = none := by simpa [Addr.add] using World.cell?_spot g0
      subst hspot
      refine .inr ⟨b, off, rfl, ⟨fun j hj => ?_, ?_⟩⟩
      · rw [lt] at hj
        have := hcell j (by omega)
        rw [add_plain] at this
        rw [this]
        simp [List.getD_eq_getElem?_getD, List.getElem?_eq_getElem (show j < zs.length by omega)]
      · have := hcell 0 (by omega)
        rw [add_plain] at this
        exact cellb_lt this
end Go.Proofs.Ytnlefakicjojdaa
/- window's Book: a set as a map's keys and as a rising list; worlds that changed in named blocks alone. -/
namespace Go.Proofs.Ytnlefakicjojdaa
set_option linter.unusedVariables false
set_option linter.unusedSimpArgs false
open Go.RowKit W Go.Maps
/-- Of the blocks of w none but those of l have changed. -/
structure Mod (l : List Nat) (w w' : World) : Prop where
  os : w'.os = w.os
  tape : w'.tape = w.tape
  output : w'.output = w.output
  size : w.heap.size ≤ w'.heap.size
  block : ∀ k, k < w.heap.size → k ∉ l → w'.heap[k]? = w.heap[k]?
theorem Mod.refl (l : List Nat) (w : World) : Mod l w w := ⟨rfl, rfl, rfl, Nat.le_refl _, fun _ _ _ => rfl⟩
theorem Mod.trans {l : List Nat} {a b c : World} (h : Mod l a b) (k : Mod l b c) : Mod l a c :=
  ⟨k.os.trans h.os, k.tape.trans h.tape, k.output.trans h.output, Nat.le_trans h.size k.size, fun j hj hl => (k.block j (Nat.lt_of_lt_of_le hj h.size) hl).trans (h.block j hj hl)⟩
theorem Mod.of_below {l : List Nat} {a b : World} (h : Below a.heap.size a b) : Mod l a b := ⟨h.os, h.tape, h.output, h.size, fun k hk _ => h.block k hk⟩
theorem Mod.more {l m : List Nat} {a b : World} (h : Mod l a b) (hs : ∀ x ∈ l, x ∈ m) : Mod m a b := ⟨h.os, h.tape, h.output, h.size, fun k hk hm => h.block k hk fun q => hm (hs k q)⟩
theorem Mod.below {l : List Nat} {a b : World} {B : Nat} (h : Mod l a b) (hB : B ≤ a.heap.size) (hl : ∀ x ∈ l, B ≤ x) : Below B a b :=
  ⟨h.os, h.tape, h.output, h.size, fun k hk => h.block k (Nat.lt_of_lt_of_le hk hB) fun q => by have := hl k q; omega⟩
theorem Mod.alloc {l : List Nat} {a b : World} (h : Mod l a b) (o : Obj) : Mod l a (b.alloc o) := h.trans (.of_below ((Below.refl _ _).alloc (Nat.le_refl _) o))
theorem Mod.drew {l : List Nat} {a b : World} (h : Mod l a b) : Mod l a b.drew := ⟨h.os, h.tape, h.output, h.size, h.block⟩
theorem Mod.setCell {l : List Nat} {a b : World} (h : Mod l a b) {p : Addr} (hp : p.block ∈ l) (u : Value) : Mod l a (b.setCell p u) :=
  ⟨h.os, h.tape, h.output, by simpa [World.setCell] using h.size, fun k hk hl => (Below.heap_setCell b p u k (fun e => hl (e ▸ hp))).trans (h.block k hk hl)⟩
theorem Mod.grown {l : List Nat} {a b c : World} {row : Option Nat} (h : Mod l a b) (g : b.grownBy c row) (hr : ∀ k, row = some k → k ∈ l ∨ a.heap.size ≤ k) : Mod l a c :=
  ⟨g.os.trans h.os, g.tape.trans h.tape, g.output.trans h.output, Nat.le_trans h.size g.size, fun k hk hl => by
    refine (g.block k (Nat.lt_of_lt_of_le hk h.size) fun e => ?_).trans (h.block k hk hl)
    rcases hr k e.symm with q | q
    · exact hl q
    · omega⟩
theorem Mod.cell {l : List Nat} {a b : World} (h : Mod l a b) {k o : Nat} (hk : k < a.heap.size) (hl : k ∉ l) : b.cell? ⟨k, o, none⟩ = a.cell? ⟨k, o, none⟩ := World.cell?_of_block (h.block k hk hl)
theorem Mod.frozen {l : List Nat} {a b : World} (h : Mod l a b) {k o : Nat} (hk : k < a.heap.size) (hl : k ∉ l) : b.frozen? ⟨k, o, none⟩ = a.frozen? ⟨k, o, none⟩ := by
  unfold World.frozen?; rw [h.block k hk hl]
theorem IsInts.mod {k : IntKind} {l : List Nat} {w w' : World} {a : Option Addr} {xs : List Int} (h : IsInts k w a xs) (b : Mod l w w') (hn : ∀ g, a = some g → g.block ∉ l) : IsInts k w' a xs := by
  rcases h with h | ⟨g, o, rfl, h⟩
  · exact .inl h
  · exact .inr ⟨g, o, rfl, ⟨fun j hj => (b.cell h.lt (hn _ rfl)).trans (h.cell j hj), Nat.lt_of_lt_of_le h.lt b.size⟩⟩
/-- A number put into a rising list. -/
def insS (x : Int) : List Int → List Int
  | [] => [x]
  | y :: r => if x < y then x :: y :: r else y :: insS x r
theorem insS_mem (x y : Int) : ∀ S : List Int, y ∈ insS x S ↔ y = x ∨ y ∈ S
  | [] => by simp [insS]
  | z :: r => by
    unfold insS
    split
    · simp
    · rw [List.mem_cons, insS_mem x y r, List.mem_cons]
      constructor
      · rintro (h | h | h)
        · exact .inr (.inl h)
        · exact .inl h
        · exact .inr (.inr h)
      · rintro (h | h | h)
        · exact .inr (.inl h)
        · exact .inl h
        · exact .inr (.inr h)
theorem insS_len (x : Int) : ∀ S : List Int, (insS x S).length = S.length + 1
  | [] => rfl
  | z :: r => by
    unfold insS
    split
    · rfl
    · rw [List.length_cons, insS_len x r, List.length_cons]
theorem insS_up (x : Int) : ∀ {S : List Int}, S.Pairwise (· < ·) → x ∉ S → (insS x S).Pairwise (· < ·)
  | [], _, _ => by simp [insS]
  | z :: r, h, n => by
    obtain ⟨h1, h2⟩ := List.pairwise_cons.1 h
    have nz : x ≠ z := fun e => n (by simp [e])
    unfold insS
    split
    · rename_i lt
      refine List.pairwise_cons.2 ⟨fun y hy => ?_, h⟩
      rcases List.mem_cons.1 hy with rfl | hy
      · exact lt
      · have := h1 y hy; omega
    · refine List.pairwise_cons.2 ⟨fun y hy => ?_, insS_up x h2 (fun q => n (by simp [q]))⟩
      rcases (insS_mem x y r).1 hy with rfl | hy
      · omega
      · exact h1 y hy
/-- Two rising lists with the same members are one. -/
theorem up_one {S T : List Int} (hs : S.Pairwise (· < ·)) (ht : T.Pairwise (· < ·)) (h : ∀ x, x ∈ S ↔ x ∈ T) : S = T := by
  have ns : S.Nodup := hs.imp (fun {a b} q => by omega)
  have nt : T.Nodup := ht.imp (fun {a b} q => by omega)
  refine List.Perm.eq_of_pairwise (le := (· < ·)) (fun a b _ _ h1 h2 => by omega) hs ht ?_
  exact (List.perm_ext_iff_of_nodup ns nt).2 h
abbrev kl (x : Int) : Lit := .int .i64 x
theorem kl_ne {x y : Int} (h : x ≠ y) : kl x ≠ kl y := fun e => h (by injection e)
/-- The map's keys are the set's. -/
structure SetOf (D : DataW Unit) (S : List Int) : Prop where
  has : ∀ x, Maps.has D (kl x) = decide (x ∈ S)
  size : Maps.size D = S.length
theorem SetOf.nil : SetOf (.map []) [] := ⟨fun x => by simp [Maps.has], rfl⟩
theorem isKey_i64 (x : Int) : WideAt.IsKeyLit (kl x) := trivial
theorem SetOf.put {D : DataW Unit} {S : List Int} (h : SetOf D S) (t : Tidy D) {x : Int} (n : x ∉ S) (d : DataW Unit) : SetOf (D.put (kl x) d) (insS x S) := by
  refine ⟨fun y => ?_, ?_⟩
  · by_cases e : y = x
    · subst e
      rw [has_put_same t.isMap (isKey_i64 y)]
      simp [insS_mem]
    · rw [has_put_other (kl_ne e), h.has]
      simp [insS_mem, e]
  · rw [size_put t, h.has, h.size, insS_len]
    simp [n]
theorem SetOf.again {D : DataW Unit} {S : List Int} (h : SetOf D S) (t : Tidy D) {x : Int} (n : x ∈ S) (d : DataW Unit) : SetOf (D.put (kl x) d) S := by
  refine ⟨fun y => ?_, ?_⟩
  · by_cases e : y = x
    · subst e
      rw [has_put_same t.isMap (isKey_i64 y)]
      simp [n]
    · rw [has_put_other (kl_ne e), h.has]
  · rw [size_put t, h.has, h.size]
    simp [n]
theorem owns_tight {H : Type} {P : Program} {k : TypeId} {R : Value → Option (DataW H × List MemPlace)} {w : World} {b n : Nat} {D : DataW H} (h : w.ownsMap P k R b n D) : w.ownsMap P k R b (Maps.size D) D := by
  obtain ⟨es, clock, hb, F, hs, rfl⟩ := h
  exact ⟨es, clock, hb, F, by simp [Maps.size, length_sorted], rfl⟩
end Go.Proofs.Ytnlefakicjojdaa
/- A row of cells in a block, that may be written. -/
namespace Go.Proofs.Ytnlefakicjojdaa
set_option linter.unusedVariables false
set_option linter.unusedSimpArgs false
open Go.RowKit W Go.Maps
structure Row (w : World) (b o : Nat) (l : List Value) : Prop where
  lt : b < w.heap.size
  cell : ∀ k, k < l.length → w.cell? ⟨b, o + k, none⟩ = l[k]?
  free : ∀ k, k < l.length → w.frozen? ⟨b, o + k, none⟩ = false
theorem Row.at {w : World} {b o : Nat} {l : List Value} (h : Row w b o l) (k : Nat) (v : Value) (e : l[k]? = some v) : w.cell? ⟨b, o + k, none⟩ = some v := by
  rw [h.cell k (List.getElem?_eq_some_iff.1 e).1, e]
theorem Row.at0 {w : World} {b : Nat} {l : List Value} (h : Row w b 0 l) (k : Nat) (v : Value) (e : l[k]? = some v) : w.cell? ⟨b, k, none⟩ = some v := by
  have := h.at k v e; rwa [Nat.zero_add] at this
theorem Row.fr {w : World} {b o : Nat} {l : List Value} (h : Row w b o l) (k : Nat) (hk : k < l.length) : w.frozen? ⟨b, o + k, none⟩ = false := h.free k hk
theorem Row.fr0 {w : World} {b : Nat} {l : List Value} (h : Row w b 0 l) (k : Nat) (hk : k < l.length) : w.frozen? ⟨b, k, none⟩ = false := by
  have := h.free k hk; rwa [Nat.zero_add] at this
theorem Row.mod {L : List Nat} {w w' : World} {b o : Nat} {l : List Value} (h : Row w b o l) (k : Mod L w w') (n : b ∉ L) : Row w' b o l :=
  ⟨Nat.lt_of_lt_of_le h.lt k.size, fun j hj => (k.cell h.lt n).trans (h.cell j hj), fun j hj => (k.frozen h.lt n).trans (h.free j hj)⟩
theorem Row.later {w w' : World} {b o : Nat} {l : List Value} (h : Row w b o l) (k : Below w.heap.size w w') : Row w' b o l := h.mod (Mod.of_below (l := []) k) (by simp)
theorem Row.drew {w : World} {b o : Nat} {l : List Value} (h : Row w b o l) : Row w.drew b o l := ⟨h.lt, h.cell, h.free⟩
theorem Row.drewN {w : World} {b o : Nat} {l : List Value} (h : Row w b o l) (n : Nat) : Row (w.drewN n) b o l := ⟨h.lt, h.cell, h.free⟩
theorem Row.set {w : World} {b o : Nat} {l : List Value} (h : Row w b o l) (k : Nat) (hk : k < l.length) (v : Value) : Row (w.setCell ⟨b, o + k, none⟩ v) b o (l.set k v) := by
  refine ⟨by simpa using h.lt, fun j hj => ?_, fun j hj => ?_⟩
  · rw [List.length_set] at hj
    by_cases e : j = k
    · subst e
      rw [World.cell?_setCell_same' _ _ _ (by rw [h.cell j hj, List.getElem?_eq_getElem hj]; rfl), List.getElem?_set_self hj]
    · rw [World.cell?_setCell_other (h := by intro q; injection q with _ q _; exact e (by omega)), h.cell j hj, List.getElem?_set_ne (fun q => e q.symm)]
  · rw [List.length_set] at hj
    rw [World.frozen?_setCell]; exact h.free j hj
theorem Row.set0 {w : World} {b : Nat} {l : List Value} (h : Row w b 0 l) (k : Nat) (hk : k < l.length) (v : Value) : Row (w.setCell ⟨b, k, none⟩ v) b 0 (l.set k v) := by
  have := h.set k hk v; rwa [Nat.zero_add] at this
/-- A row beside the one that is written. -/
theorem Row.apart {w : World} {b o : Nat} {l : List Value} (h : Row w b o l) {a : Addr} (n : a.block ≠ b ∨ a.off < o ∨ o + l.length ≤ a.off) (v : Value) : Row (w.setCell a v) b o l := by
  have ne : ∀ j, j < l.length → a ≠ ⟨b, o + j, none⟩ := fun j hj q => by subst q; rcases n with n | n | n <;> simp at n <;> omega
  exact ⟨by simpa using h.lt, fun j hj => by rw [World.cell?_setCell_other (h := ne j hj)]; exact h.cell j hj, fun j hj => by rw [World.frozen?_setCell]; exact h.free j hj⟩
theorem Row.new (w : World) (l : List Value) (t : TypeId) (m : List Value) (e : l = m) : Row (w.alloc (.cells l.toArray t)) w.heap.size 0 m := by
  subst e
  refine ⟨by simp, fun j hj => ?_, fun j hj => ?_⟩
  · rw [Nat.zero_add]; simp [go_sem, hj]
  · simp [go_sem]
end Go.Proofs.Ytnlefakicjojdaa
/- alarm: a watch's cells and what each method makes of them. -/
namespace Go.Proofs.Ytnlefakicjojdaa
set_option linter.unusedVariables false
set_option linter.unusedSimpArgs false
open Go.RowKit W Go.Maps
/-- How a rule stands. -/
structure St where
  st : Int
  said : Int
  when : Int
  cand : Int
  runs : Int
  gaps : Int
  last : Int
  mute : Int
def pl1 (x : Int) : Int := IntKind.i64.wrap (x + 1)
def entS (s : St) (q : Int) : St := { s with st := q, cand := 0, runs := 0 }
def gap1 (s : St) : St := { s with cand := 0, runs := 0, gaps := pl1 s.gaps }
def gapS (R : Ru) (s : St) : St := if 0 < R.an ∧ R.an ≤ (gap1 s).gaps then entS (gap1 s) 4 else gap1 s
def mov1 (s : St) (l : Int) : St := if s.cand = l then { s with runs := pl1 s.runs } else { s with cand := l, runs := pl1 0 }
def movS (R : Ru) (s : St) (l : Int) : St :=
  if l = s.st then { s with cand := 0, runs := 0 } else if s.st = 4 ∨ l < s.st then entS s l else if R.fr ≤ (mov1 s l).runs then entS (mov1 s l) l else mov1 s l
def valS (R : Ru) (s : St) (v : Int) : St := movS R { s with gaps := 0 } (lev R s.st v)
def dueB (R : Ru) (s : St) (at' : Int) : Bool := decide (s.st ≠ 1 ∧ 0 < R.ag ∧ R.ag ≤ IntKind.i64.wrap (at' - s.when))
def sayB (R : Ru) (s : St) (at' : Int) : Bool := decide (s.mute ≤ at' ∧ (s.st = s.said → dueB R s at' = true))
def sayS (R : Ru) (s : St) (at' : Int) : St := if sayB R s at' then { s with said := s.st, when := at' } else s
def sayO (R : Ru) (s : St) (at' : Int) (is : Bool) (v1 v0 : Int) : Option (List Value) :=
  if sayB R s at' then some [.string R.nm, .int .i64 at', .int .i64 s.said, .int .i64 s.st, .bool (decide (s.st = s.said)), .bool is, .int .i64 v1, .int .u64 v0] else none
def lvF (st : Int) : Nat := if st = 2 then 56 else if st = 3 then 57 else 58
def lvV (st : Int) (b : Nat) : Value := .func (.func (lvF st)) #[.pointer (some ⟨b, 0, none⟩)] #[]
def wlx (R : Ru) (s : St) (lv : Value) : List Value :=
  [.string R.nm, .bool R.ab, .int .i64 R.w1, .int .u64 R.w0, .int .i64 R.c1, .int .u64 R.c0, .int .i64 R.s1, .int .u64 R.s0, .int .i64 R.fr, .int .i64 R.an, .int .i64 R.ag,
   .int .i64 s.st, lv, .int .i64 s.said, .int .i64 s.when, .int .i64 s.cand, .int .i64 s.runs, .int .i64 s.gaps, .int .i64 s.last, .int .i64 s.mute]
abbrev wl (R : Ru) (s : St) (b : Nat) : List Value := wlx R s (lvV s.st b)
abbrev WatchAt (w : World) (b : Nat) (R : Ru) (s : St) : Prop := Row w b 0 (wl R s b)
theorem WatchAt.ru {w : World} {b : Nat} {R : Ru} {s : St} (h : WatchAt w b R s) : RuAt w b R :=
  ⟨h.at0 1 _ rfl, h.at0 2 _ rfl, h.at0 3 _ rfl, h.at0 4 _ rfl, h.at0 5 _ rfl, h.at0 6 _ rfl, h.at0 7 _ rfl, h.lt⟩
def WPost (w : World) (b : Nat) (R : Ru) (s : St) (e : Ending) (w' : World) : Prop := e = .returned (.tuple #[]) ∧ WatchAt w' b R s ∧ Mod [b] w w'
set_option maxRecDepth 100000 in
set_option maxHeartbeats 4000000 in
theorem enter_any {w : World} {b : Nat} {R : Ru} {s : St} {lv : Value} (h : Row w b 0 (wlx R s lv)) (q : Int) :
    Calls Try.prog 46 #[.pointer (some ⟨b, 0, none⟩), .int .i64 q] w (WPost w b R (entS s q)) := by
  have H := hide h
  have lt := h.lt
  have c11 := h.at0 11 _ rfl
  have c12 := h.at0 12 _ rfl
  have c15 := h.at0 15 _ rfl
  have c16 := h.at0 16 _ rfl
  have f11 := h.fr0 11 (by simp [wlx])
  have f12 := h.fr0 12 (by simp [wlx])
  have f15 := h.fr0 15 (by simp [wlx])
  have f16 := h.fr0 16 (by simp [wlx])
  have hmf : ∀ (fn : Fn) (first cap : Array Value) (w : World), (Instr.makeFunc fn first cap).run Try.prog w = .ok (.func fn first cap) w := fun _ _ _ _ => rfl
  clear h
  by_cases q2 : q = 2
  · subst q2
    go_enter Try.func46, Try.ntmps46
    go_wp2_with fail
    go_end0
    refine ⟨rfl, (((H.out.set0 11 (by simp [wlx]) (.int .i64 2)).set0 15 (by simp [wlx]) (.int .i64 0)).set0 16 (by simp [wlx]) (.int .i64 0)).set0 12 (by simp [wlx]) _, ?_⟩
    exact ((((Mod.refl [b] w).setCell (by simp) _).setCell (by simp) _).setCell (by simp) _).setCell (by simp) _
  · have y2 : (q == 2) = false := by simpa using q2
    by_cases q3 : q = 3
    · subst q3
      go_enter Try.func46, Try.ntmps46
      go_wp2_with fail
      go_end0
      refine ⟨rfl, (((H.out.set0 11 (by simp [wlx]) (.int .i64 3)).set0 15 (by simp [wlx]) (.int .i64 0)).set0 16 (by simp [wlx]) (.int .i64 0)).set0 12 (by simp [wlx]) _, ?_⟩
      exact ((((Mod.refl [b] w).setCell (by simp) _).setCell (by simp) _).setCell (by simp) _).setCell (by simp) _
    · have y3 : (q == 3) = false := by simpa using q3
      go_enter Try.func46, Try.ntmps46
      go_wp2_with fail
      go_end0
      have r := (((H.out.set0 11 (by simp [wlx]) (.int .i64 q)).set0 15 (by simp [wlx]) (.int .i64 0)).set0 16 (by simp [wlx]) (.int .i64 0)).set0 12 (by simp [wlx]) (lvV q b)
      have e : lvV q b = .func (.func 58) #[.pointer (some ⟨b, 0, none⟩)] #[] := by unfold lvV lvF; rw [if_neg q2, if_neg q3]
      refine ⟨rfl, ?_, ?_⟩
      · rw [e] at r
        unfold WatchAt entS
        rw [show wl R { s with st := q, cand := 0, runs := 0 } b = ((((wlx R s lv).set 11 (.int .i64 q)).set 15 (.int .i64 0)).set 16 (.int .i64 0)).set 12 (lvV q b) from rfl, e]
        exact r
      exact ((((Mod.refl [b] w).setCell (by simp) _).setCell (by simp) _).setCell (by simp) _).setCell (by simp) _
theorem enter_spec {w : World} {b : Nat} {R : Ru} {s : St} (h : WatchAt w b R s) (q : Int) :
    Calls Try.prog 46 #[.pointer (some ⟨b, 0, none⟩), .int .i64 q] w (WPost w b R (entS s q)) := enter_any h q
end Go.Proofs.Ytnlefakicjojdaa
/- alarm: gap, move, due. -/
namespace Go.Proofs.Ytnlefakicjojdaa
set_option linter.unusedVariables false
set_option linter.unusedSimpArgs false
open Go.RowKit W Go.Maps
theorem WPost.more {w w1 w2 : World} {b : Nat} {R : Ru} {s : St} {e : Ending} (h : WPost w1 b R s e w2) (m : Mod [b] w w1) : WPost w b R s e w2 := ⟨h.1, h.2.1, m.trans h.2.2⟩
theorem Mod.drewN {l : List Nat} {a b : World} (h : Mod l a b) (n : Nat) : Mod l a (b.drewN n) := ⟨h.os, h.tape, h.output, h.size, h.block⟩
set_option maxRecDepth 100000 in
set_option maxHeartbeats 4000000 in
theorem gap_spec {w : World} {b : Nat} {R : Ru} {s : St} (h : WatchAt w b R s) :
    Calls Try.prog 30 #[.pointer (some ⟨b, 0, none⟩)] w (WPost w b R (gapS R s)) := by
  have H := hide h
  have lt := h.lt
  have c9 := h.at0 9 _ rfl
  have c15 := h.at0 15 _ rfl
  have c16 := h.at0 16 _ rfl
  have c17 := h.at0 17 _ rfl
  have f15 := h.fr0 15 (by simp [wlx])
  have f16 := h.fr0 16 (by simp [wlx])
  have f17 := h.fr0 17 (by simp [wlx])
  obtain ⟨g, hg⟩ : ∃ g, IntKind.i64.wrap (s.gaps + 1) = g := ⟨_, rfl⟩
  have R1 : Hid (∀ n, WatchAt ((((w.setCell ⟨b, 15, none⟩ (.int .i64 0)).setCell ⟨b, 16, none⟩ (.int .i64 0)).setCell ⟨b, 17, none⟩ (.int .i64 g)).drewN n) b R (gap1 s)) := by
    intro n
    have r := (((h.set0 15 (by simp [wlx]) (.int .i64 0)).set0 16 (by simp [wlx]) (.int .i64 0)).set0 17 (by simp [wlx]) (.int .i64 g)).drewN n
    rw [← hg] at r ⊢
    exact r
  have M1 : Hid (∀ n, Mod [b] w ((((w.setCell ⟨b, 15, none⟩ (.int .i64 0)).setCell ⟨b, 16, none⟩ (.int .i64 0)).setCell ⟨b, 17, none⟩ (.int .i64 g)).drewN n)) :=
    fun n => ((((Mod.refl [b] w).setCell (by simp) _).setCell (by simp) _).setCell (by simp) _).drewN n
  have KE := fun (W : World) (k : WatchAt W b R (gap1 s)) => enter_spec k 4
  have GG : Hid ((gap1 s).gaps = g) := hg
  obtain ⟨an, an0⟩ : ∃ an, an = R.an := ⟨_, rfl⟩
  rw [← an0] at c9
  clear h
  by_cases p : 0 < an
  · by_cases q : an ≤ g
    · have e : Hid (gapS R s = entS (gap1 s) 4) := by show _ = _; unfold gapS; rw [if_pos]; rw [GG.out, ← an0]; exact ⟨p, q⟩
      have p' : decide (0 < an) = true := decide_eq_true p
      have q' : decide (an ≤ g) = true := decide_eq_true q
      clear an0
      go_enter Try.func30, Try.ntmps30
      go_wp2_with fail
      go_quiet (fail)
      go_wp2_with fail
      refine (KE _ (R1.out _)).mono ?_
      rintro e w2 k
      have P := hide (k.more (M1.out _))
      obtain ⟨rfl, _, _⟩ := k
      go_wp2_with fail
      go_end0
      rw [e.out]
      exact P.out
    · have e : Hid (gapS R s = gap1 s) := by show _ = _; unfold gapS; rw [if_neg]; rw [GG.out, ← an0]; exact fun z => q z.2
      have q' : decide (an ≤ g) = false := decide_eq_false q
      clear an0
      go_enter Try.func30, Try.ntmps30
      go_wp2_with fail
      go_quiet (fail)
      go_wp2_with fail
      go_end0
      rw [e.out]
      exact ⟨rfl, R1.out _, M1.out _⟩
  · have e : Hid (gapS R s = gap1 s) := by show _ = _; unfold gapS; rw [if_neg]; rw [← an0]; exact fun z => p z.1
    have p' : decide (0 < an) = false := decide_eq_false p
    clear an0
    go_enter Try.func30, Try.ntmps30
    go_wp2_with fail
    go_quiet (fail)
    go_wp2_with fail
    go_end0
    rw [e.out]
    exact ⟨rfl, R1.out _, M1.out _⟩
set_option maxRecDepth 100000 in
set_option maxHeartbeats 4000000 in
theorem move_spec {w : World} {b : Nat} {R : Ru} {s : St} (h : WatchAt w b R s) (l : Int) :
    Calls Try.prog 31 #[.pointer (some ⟨b, 0, none⟩), .int .i64 l] w (WPost w b R (movS R s l)) := by
  have H := hide h
  have lt := h.lt
  have c8 := h.at0 8 _ rfl
  have c11 := h.at0 11 _ rfl
  have c15 := h.at0 15 _ rfl
  have c16 := h.at0 16 _ rfl
  have f15 := h.fr0 15 (by simp [wlx])
  have f16 := h.fr0 16 (by simp [wlx])
  have KE := fun (W : World) (k : WatchAt W b R (mov1 s l)) => enter_spec k l
  have K0 := enter_spec h l
  clear h
  by_cases p : l = s.st
  · have e : Hid (movS R s l = { s with cand := 0, runs := 0 }) := by show _ = _; unfold movS; rw [if_pos p]
    rw [← p] at c11
    clear p KE K0
    go_enter Try.func31, Try.ntmps31
    go_wp2_with fail
    go_end0
    rw [e.out]
    exact ⟨rfl, (H.out.set0 15 (by simp [wlx]) (.int .i64 0)).set0 16 (by simp [wlx]) (.int .i64 0), ((Mod.refl [b] w).setCell (by simp) _).setCell (by simp) _⟩
  · have p' : (l == s.st) = false := by simpa using p
    by_cases q : s.st = 4 ∨ l < s.st
    · have e : Hid (movS R s l = entS s l) := by show _ = _; unfold movS; rw [if_neg p, if_pos q]
      clear KE
      by_cases q4 : s.st = 4
      · rw [q4] at c11 p'
        go_enter Try.func31, Try.ntmps31
        clear p q q4
        go_wp2_with fail
        refine K0.mono ?_
        rintro e2 w2 k
        have P := hide k
        obtain ⟨rfl, _, _⟩ := k
        go_wp2_with fail
        go_end0
        rw [e.out]
        exact P.out
      · have q5 : (s.st == 4) = false := by simpa using q4
        have q6 : l < s.st := q.resolve_left q4
        clear p q q4
        go_enter Try.func31, Try.ntmps31
        go_wp2_with fail
        refine K0.mono ?_
        rintro e2 w2 k
        have P := hide k
        obtain ⟨rfl, _, _⟩ := k
        go_wp2_with fail
        go_end0
        rw [e.out]
        exact P.out
    · have q5 : (s.st == 4) = false := by simp only [beq_eq_false_iff_ne, ne_eq]; exact fun z => q (.inl z)
      have q6 : ¬ l < s.st := fun z => q (.inr z)
      have E : Hid (movS R s l = if R.fr ≤ (mov1 s l).runs then entS (mov1 s l) l else mov1 s l) := by show _ = _; unfold movS; rw [if_neg p, if_neg q]
      clear K0 p q
      by_cases r : s.cand = l
      · obtain ⟨g, hg⟩ : ∃ g, IntKind.i64.wrap (s.runs + 1) = g := ⟨_, rfl⟩
        have em : mov1 s l = { s with runs := g } := by unfold mov1 pl1; rw [if_pos r, hg]
        rw [em] at KE E
        have E2 : Hid (movS R s l = if R.fr ≤ g then entS { s with runs := g } l else { s with runs := g }) := E.out
        clear E em
        have r' : (l != s.cand) = false := by simp [r]
        have R1 : Hid (∀ n, WatchAt ((w.setCell ⟨b, 16, none⟩ (.int .i64 g)).drewN n) b R { s with runs := g }) := fun n => (H.out.set0 16 (by simp [wlx]) (.int .i64 g)).drewN n
        have M1 : Hid (∀ n, Mod [b] w ((w.setCell ⟨b, 16, none⟩ (.int .i64 g)).drewN n)) := fun n => ((Mod.refl [b] w).setCell (by simp) _).drewN n
        clear r
        by_cases z : R.fr ≤ g
        · rw [if_pos z] at E2
          have z' : decide (R.fr ≤ g) = true := decide_eq_true z
          go_enter Try.func31, Try.ntmps31
          go_wp2_with fail
          go_quiet (fail)
          go_wp2_with fail
          refine (KE _ (R1.out _)).mono ?_
          rintro e2 w2 k
          have P := hide (k.more (M1.out _))
          obtain ⟨rfl, _, _⟩ := k
          go_wp2_with fail
          go_end0
          rw [E2.out]
          exact P.out
        · rw [if_neg z] at E2
          have z' : decide (R.fr ≤ g) = false := decide_eq_false z
          go_enter Try.func31, Try.ntmps31
          go_wp2_with fail
          go_quiet (fail)
          go_wp2_with fail
          go_end0
          rw [E2.out]
          exact ⟨rfl, R1.out _, M1.out _⟩
      · have em : mov1 s l = { s with cand := l, runs := 1 } := by unfold mov1; rw [if_neg r]; rfl
        rw [em] at KE E
        have E2 : Hid (movS R s l = if R.fr ≤ 1 then entS { s with cand := l, runs := 1 } l else { s with cand := l, runs := 1 }) := E.out
        clear E em
        have r' : (l != s.cand) = true := by simpa using fun z => r z.symm
        have R1 : Hid (∀ n, WatchAt ((((w.setCell ⟨b, 15, none⟩ (.int .i64 l)).setCell ⟨b, 16, none⟩ (.int .i64 0)).setCell ⟨b, 16, none⟩ (.int .i64 1)).drewN n) b R { s with cand := l, runs := 1 }) := fun n => (((H.out.set0 15 (by simp [wlx]) (.int .i64 l)).set0 16 (by simp [wlx]) (.int .i64 0)).set0 16 (by simp [wlx]) (.int .i64 1)).drewN n
        have M1 : Hid (∀ n, Mod [b] w ((((w.setCell ⟨b, 15, none⟩ (.int .i64 l)).setCell ⟨b, 16, none⟩ (.int .i64 0)).setCell ⟨b, 16, none⟩ (.int .i64 1)).drewN n)) := fun n => ((((Mod.refl [b] w).setCell (by simp) _).setCell (by simp) _).setCell (by simp) _).drewN n
        clear r
        by_cases z : R.fr ≤ 1
        · rw [if_pos z] at E2
          have z' : decide (R.fr ≤ 1) = true := decide_eq_true z
          go_enter Try.func31, Try.ntmps31
          go_wp2_with fail
          refine abs_wp (fun W => Hid (W = (((w.setCell ⟨b, 15, none⟩ (.int .i64 l)).setCell ⟨b, 16, none⟩ (.int .i64 0)).setCell ⟨b, 16, none⟩ (.int .i64 1))) ∧ W.cell? ⟨b, 16, none⟩ = some (.int .i64 1) ∧ W.cell? ⟨b, 8, none⟩ = some (.int .i64 R.fr) ∧ b < W.heap.size) ⟨rfl, (R1.out 0).at0 16 _ rfl, (R1.out 0).at0 8 _ rfl, (R1.out 0).lt⟩ ?_
          rintro W ⟨hW, d16, d8, lW⟩
          rw [← hW.out] at R1 M1
          go_quiet (fail)
          go_wp2_with fail
          refine (KE _ (R1.out _)).mono ?_
          rintro e2 w2 k
          have P := hide (k.more (M1.out _))
          obtain ⟨rfl, _, _⟩ := k
          go_wp2_with fail
          go_end0
          rw [E2.out]
          exact P.out
        · rw [if_neg z] at E2
          have z' : decide (R.fr ≤ 1) = false := decide_eq_false z
          go_enter Try.func31, Try.ntmps31
          go_wp2_with fail
          refine abs_wp (fun W => Hid (W = (((w.setCell ⟨b, 15, none⟩ (.int .i64 l)).setCell ⟨b, 16, none⟩ (.int .i64 0)).setCell ⟨b, 16, none⟩ (.int .i64 1))) ∧ W.cell? ⟨b, 16, none⟩ = some (.int .i64 1) ∧ W.cell? ⟨b, 8, none⟩ = some (.int .i64 R.fr) ∧ b < W.heap.size) ⟨rfl, (R1.out 0).at0 16 _ rfl, (R1.out 0).at0 8 _ rfl, (R1.out 0).lt⟩ ?_
          rintro W ⟨hW, d16, d8, lW⟩
          rw [← hW.out] at R1 M1
          go_quiet (fail)
          go_wp2_with fail
          go_end0
          rw [E2.out]
          exact ⟨rfl, R1.out _, M1.out _⟩
set_option maxRecDepth 100000 in
set_option maxHeartbeats 4000000 in
theorem due_spec {w : World} {b : Nat} {R : Ru} {s : St} (h : WatchAt w b R s) (at' : Int) :
    Calls Try.prog 48 #[.pointer (some ⟨b, 0, none⟩), .int .i64 at'] w fun e w' => e = .returned (.bool (dueB R s at')) ∧ ∃ n, w' = w.drewN n := by
  have lt := h.lt
  have c10 := h.at0 10 _ rfl
  have c11 := h.at0 11 _ rfl
  have c14 := h.at0 14 _ rfl
  clear h
  obtain ⟨g, hg⟩ : ∃ g, IntKind.i64.wrap (at' - s.when) = g := ⟨_, rfl⟩
  have E : Hid (dueB R s at' = ((s.st != 1) && (decide (0 < R.ag) && decide (R.ag ≤ g)))) := by
    show _ = _
    unfold dueB
    rw [hg, Bool.eq_iff_iff]
    simp
  by_cases p : s.st = 1
  · rw [p] at c11 E
    go_enter Try.func48, Try.ntmps48
    clear p
    go_wp2_with fail
    go_quiet (fail)
    go_wp2_with fail
    go_returns
    exact ⟨by rw [E.out]; rfl, _, rfl⟩
  · have p' : (s.st != 1) = true := by simpa using p
    rw [p'] at E
    by_cases q : 0 < R.ag
    · rw [decide_eq_true q] at E
      have q' : decide (0 < R.ag) = true := decide_eq_true q
      go_enter Try.func48, Try.ntmps48
      clear p q
      go_wp2_with fail
      go_quiet (fail)
      go_wp2_with fail
      go_returns
      exact ⟨by rw [E.out]; simp, _, rfl⟩
    · rw [decide_eq_false q] at E
      have q' : decide (0 < R.ag) = false := decide_eq_false q
      go_enter Try.func48, Try.ntmps48
      clear p q
      go_wp2_with fail
      go_quiet (fail)
      go_wp2_with fail
      go_returns
      exact ⟨by rw [E.out]; rfl, _, rfl⟩
end Go.Proofs.Ytnlefakicjojdaa
/- wide: Neg, Abs. -/
namespace Go.Proofs.Ytnlefakicjojdaa
set_option linter.unusedVariables false
open Go.RowKit W
set_option maxHeartbeats 1000000 in
theorem neg_spec (a b : Int) (i : IsW (a, b)) (w : World) :
    Calls Try.prog 22 #[.agg #[.int .i64 a, .int .u64 b]] w fun e w' => e = sumRes (-(V a b)) ∧ Below w.heap.size w w' := by
  have c := sub_spec 0 0 a b isW_0 i
  have e : V 0 0 - V a b = -(V a b) := by unfold V; omega
  rw [e] at c
  obtain ⟨r1, hr1⟩ : ∃ r, r = hi (resV (-(V a b))) := ⟨_, rfl⟩
  obtain ⟨r0, hr0⟩ : ∃ r, r = lo (resV (-(V a b))) := ⟨_, rfl⟩
  obtain ⟨re, hre⟩ : ∃ r, r = resE (-(V a b)) := ⟨_, rfl⟩
  unfold sumRes at c ⊢
  rw [← hr1, ← hr0, ← hre] at c ⊢
  clear hr1 hr0 hre e
  go_enter Try.func22, Try.ntmps22
  go_wp2_with fail
  refine (c _).mono ?_
  rintro e w1 ⟨rfl, hb⟩
  obtain ⟨khb0, fhb0, zhb0⟩ := live (.int .i64 0) hb (w.heap.size + 1) 0 (by simp; try omega) (by simp [go_sem]) (by simp [go_sem]); obtain ⟨khb1, fhb1, zhb1⟩ := live (.int .u64 0) hb (w.heap.size + 1) 1 (by simp; try omega) (by simp [go_sem]) (by simp [go_sem])
  have B0 : Below w.heap.size w w1 := Below.trans (by go_grown) (hb.mono (by simp; omega))
  go_wp2
  refine bodyPost_ret (by simp [results, Try.results22, go_sem, khb0, khb1]; try rfl) rfl ?_
  exact ⟨rfl, by go_grown⟩
theorem ab_pos {v : Int} (h : 0 ≤ v) : ab v = v := by unfold ab; rw [if_neg (by omega)]
theorem ab_neg {v : Int} (h : v < 0) : ab v = -v := by unfold ab; rw [if_pos h]
set_option maxHeartbeats 1000000 in
theorem abs_spec (a b : Int) (i : IsW (a, b)) (w : World) :
    Calls Try.prog 55 #[.agg #[.int .i64 a, .int .u64 b]] w fun e w' => e = sumRes (ab (V a b)) ∧ Below w.heap.size w w' := by
  have c0 := sign_spec a b i.b
  obtain ⟨r1, hr1⟩ : ∃ r, r = hi (resV (ab (V a b))) := ⟨_, rfl⟩
  obtain ⟨r0, hr0⟩ : ∃ r, r = lo (resV (ab (V a b))) := ⟨_, rfl⟩
  obtain ⟨re, hre⟩ : ∃ r, r = resE (ab (V a b)) := ⟨_, rfl⟩
  unfold sumRes
  rw [← hr1, ← hr0, ← hre]
  by_cases n : V a b < 0
  · rw [cmp_lt n] at c0
    have c := neg_spec a b i
    unfold sumRes at c
    rw [← ab_neg n, ← hr1, ← hr0, ← hre] at c
    clear hr1 hr0 hre n
    go_enter Try.func55, Try.ntmps55
    go_wp2_with fail
    refine (c0 _).mono ?_
    rintro e w1 ⟨rfl, hb⟩
    obtain ⟨khb0, fhb0, zhb0⟩ := live (.int .i64 a) hb (w.heap.size) 0 (by simp; try omega) (by simp [go_sem]) (by simp [go_sem]); obtain ⟨khb1, fhb1, zhb1⟩ := live (.int .u64 b) hb (w.heap.size) 1 (by simp; try omega) (by simp [go_sem]) (by simp [go_sem]); obtain ⟨khb2, fhb2, zhb2⟩ := live (.int .i64 0) hb (w.heap.size + 1) 0 (by simp; try omega) (by simp [go_sem]) (by simp [go_sem]); obtain ⟨khb3, fhb3, zhb3⟩ := live (.int .u64 0) hb (w.heap.size + 1) 1 (by simp; try omega) (by simp [go_sem]) (by simp [go_sem])
    have B0 : Below w.heap.size w w1 := Below.trans (by go_grown) (hb.mono (by simp; omega))
    clear hb
    go_wp2_with fail
    refine (c _).mono ?_
    rintro e w2 ⟨rfl, hc⟩
    obtain ⟨k2, f2, z2⟩ := live _ hc (w.heap.size + 1) 0 zhb2 khb2 fhb2
    obtain ⟨k3, f3, z3⟩ := live _ hc (w.heap.size + 1) 1 zhb3 khb3 fhb3
    have B1 : Below w.heap.size w w2 := B0.trans (hc.mono B0.size)
    clear hc B0 khb0 khb1 khb2 khb3 fhb0 fhb1 fhb2 fhb3
    go_wp2
    refine bodyPost_ret (by simp [results, Try.results55, go_sem, k2, k3]; try rfl) rfl ?_
    exact ⟨rfl, by go_grown⟩
  · have f : Fits (V a b) := fits_V i.a i.b
    have e1 : r1 = a := by rw [hr1, ab_pos (by omega), resV_fits f, hi_V i.b]
    have e0 : r0 = b := by rw [hr0, ab_pos (by omega), resV_fits f, lo_V i.b]
    have e2 : re = 0 := by rw [hre, ab_pos (by omega), resE_fits f]
    have c1 : ¬ cmpI (V a b) 0 < 0 := by rcases cmp_cases (V a b) 0 with h | h | h <;> omega
    clear hr1 hr0 hre n f
    subst e1 e0 e2
    obtain ⟨c, hc⟩ : ∃ c, c = cmpI (V r1 r0) 0 := ⟨_, rfl⟩
    rw [← hc] at c0 c1
    clear hc
    go_enter Try.func55, Try.ntmps55
    go_wp2_with fail
    refine (c0 _).mono ?_
    rintro e w1 ⟨rfl, hb⟩
    obtain ⟨khb0, fhb0, zhb0⟩ := live (.int .i64 r1) hb (w.heap.size) 0 (by simp; try omega) (by simp [go_sem]) (by simp [go_sem]); obtain ⟨khb1, fhb1, zhb1⟩ := live (.int .u64 r0) hb (w.heap.size) 1 (by simp; try omega) (by simp [go_sem]) (by simp [go_sem]); obtain ⟨khb2, fhb2, zhb2⟩ := live (.int .i64 0) hb (w.heap.size + 1) 0 (by simp; try omega) (by simp [go_sem]) (by simp [go_sem]); obtain ⟨khb3, fhb3, zhb3⟩ := live (.int .u64 0) hb (w.heap.size + 1) 1 (by simp; try omega) (by simp [go_sem]) (by simp [go_sem])
    have B0 : Below w.heap.size w w1 := Below.trans (by go_grown) (hb.mono (by simp; omega))
    clear hb
    go_wp2
    refine bodyPost_ret (by simp [results, Try.results55, go_sem, khb2, khb3]; try rfl) rfl ?_
    exact ⟨rfl, by go_grown⟩
end Go.Proofs.Ytnlefakicjojdaa
/- alarm: which rules may be. -/
namespace Go.Proofs.Ytnlefakicjojdaa
set_option linter.unusedVariables false
set_option linter.unusedSimpArgs false
open Go.RowKit W Go.Maps
instance (x : Int) : Decidable (Mod100 x) := by unfold Mod100; infer_instance
theorem fits_ab {x : Int} (f : Fits x) : Fits (ab x) ∨ x = -170141183460469231731687303715884105728 := by
  obtain ⟨f1, f2⟩ := f
  unfold ab
  by_cases h : x = -170141183460469231731687303715884105728
  · exact .inr h
  · left; split
    · exact ⟨by omega, by omega⟩
    · exact ⟨by omega, by omega⟩
set_option maxRecDepth 100000 in
set_option maxHeartbeats 4000000 in
theorem moderate_spec (a b : Int) (i : IsW (a, b)) (w : World) :
    Calls Try.prog 43 #[.agg #[.int .i64 a, .int .u64 b]] w fun e w' => e = .returned (.bool (decide (Mod100 (V a b)))) ∧ Below w.heap.size w w' := by
  have ka := abs_spec a b i
  have fv := fits_V i.a i.b
  rcases fits_ab fv with f | f
  · obtain ⟨x1, hx1⟩ : ∃ x, x = hi (ab (V a b)) := ⟨_, rfl⟩
    obtain ⟨x0, hx0⟩ : ∃ x, x = lo (ab (V a b)) := ⟨_, rfl⟩
    have ex : V x1 x0 = ab (V a b) := by rw [hx1, hx0]; exact V_hi_lo _
    have l0 : IsLo x0 := by rw [hx0]; exact isLo_lo _
    unfold sumRes at ka
    rw [resV_fits f, resE_fits f, ← hx1, ← hx0] at ka
    have kc := cmp_spec x1 x0 68719476736 0 l0 isLo_0
    rw [ex] at kc
    obtain ⟨m, hm⟩ : ∃ m, m = cmpI (ab (V a b)) (V 68719476736 0) := ⟨_, rfl⟩
    rw [← hm] at kc
    have E : Hid (decide (Mod100 (V a b)) = decide (m ≤ 0)) := by
      show _ = _
      rw [hm, cmp_le, Bool.eq_iff_iff]
      simp only [decide_eq_true_eq]
      unfold Mod100 ab
      rw [show V 68719476736 0 = 1267650600228229401496703205376 from rfl]
      split <;> constructor <;> intro q <;> omega
    clear hx1 hx0 ex f fv hm
    generalize decide (Mod100 (V a b)) = r at E
    go_enter Try.func43, Try.ntmps43
    go_wp2_with (first | (go_at_call 55; refine (ka _).mono ?_; rintro e w1 ⟨rfl, hb1⟩) | (go_at_call 45; refine (kc _).mono ?_; rintro e w2 ⟨rfl, hb2⟩))
    go_returns
    refine ⟨by rw [E.out]; rfl, ?_⟩
    have b1 : Below w.heap.size w w1 := Below.trans ((Below.refl _ _).alloc (Nat.le_refl _) _) (hb1.mono (by simp))
    have s1 := b1.size
    exact (b1.alloc s1 _).trans (hb2.mono (by simp; omega))
  · have ea : ¬ Fits (ab (V a b)) := by rw [f]; unfold ab; intro q; obtain ⟨q1, q2⟩ := q; simp at q2
    have e : decide (Mod100 (V a b)) = false := by rw [f]; unfold Mod100; simp
    rw [e]
    unfold sumRes at ka
    rw [resV_not ea, resE_not ea] at ka
    generalize hi 0 = h0 at ka
    generalize lo 0 = l0 at ka
    clear ea fv f e
    go_enter Try.func43, Try.ntmps43
    go_wp2_with (first | (go_at_call 55; refine (ka _).mono ?_; rintro e w1 ⟨rfl, hb1⟩))
    go_returns
    refine ⟨rfl, ?_⟩
    have b1 : Below w.heap.size w w1 := Below.trans ((Below.refl _ _).alloc (Nat.le_refl _) _) (hb1.mono (by simp))
    have s1 := b1.size
    exact b1.alloc s1 _
def mayB (R : Ru) : Bool :=
  decide (1 ≤ R.nm.size ∧ R.nm.size ≤ 200) && (decide (Mod100 R.wa) && (decide (Mod100 R.cr) && (decide (Mod100 R.sl) && (decide (0 ≤ R.sl) &&
    ((if R.ab then decide (R.wa ≤ R.cr) else decide (R.cr ≤ R.wa)) && decide (1 ≤ R.fr ∧ R.fr ≤ 1000 ∧ 0 ≤ R.an ∧ R.an ≤ 1000 ∧ 0 ≤ R.ag ∧ R.ag ≤ 1099511627775))))))
def ruV (R : Ru) : Value := .agg #[.string R.nm, .bool R.ab, .int .i64 R.w1, .int .u64 R.w0, .int .i64 R.c1, .int .u64 R.c0, .int .i64 R.s1, .int .u64 R.s0, .int .i64 R.fr, .int .i64 R.an, .int .i64 R.ag]
/-- A rule whose numbers are numbers. -/
structure RuW (R : Ru) : Prop where
  iw : IsW (R.w1, R.w0)
  ic : IsW (R.c1, R.c0)
  is : IsW (R.s1, R.s0)
theorem second_spec (t : Int) (w : World) : CalcN 29 #[.int .i64 t] w (.bool (decide (0 ≤ t ∧ t ≤ 1099511627775))) := by
  have e : decide (0 ≤ t ∧ t ≤ 1099511627775) = (decide (0 ≤ t) && decide (t ≤ 1099511627775)) := by rw [Bool.eq_iff_iff]; simp
  rw [e]
  go_enter Try.func29, Try.ntmps29
  go_wp2
  all_goals
    go_returns
    exact ⟨ret_bool (by first | rfl | (simp; omega)), rfl⟩
theorem nm_empty (p : ByteArray) : p.toList.isEmpty = decide (p.size = 0) := by
  rw [ByteArray.toList_eq]
  have q : p.data.toList.length = p.size := rfl
  rw [← q]
  cases p.data.toList with
  | nil => rfl
  | cons a l => simp
def ruL (R : Ru) : List Value := [.string R.nm, .bool R.ab, .int .i64 R.w1, .int .u64 R.w0, .int .i64 R.c1, .int .u64 R.c0, .int .i64 R.s1, .int .u64 R.s0, .int .i64 R.fr, .int .i64 R.an, .int .i64 R.ag]
theorem lit_le {x : Int} : decide (x < 0) = !decide (0 ≤ x) := by rw [Bool.eq_iff_iff]; simp
set_option maxRecDepth 100000 in
set_option maxHeartbeats 8000000 in
theorem may_spec (R : Ru) (i : RuW R) (w : World) :
    Calls Try.prog 23 #[ruV R] w fun e w' => e = .returned (.bool (mayB R)) ∧ Below w.heap.size w w' := by
  have k1 := moderate_spec R.w1 R.w0 i.iw
  have k2 := moderate_spec R.c1 R.c0 i.ic
  have k3 := moderate_spec R.s1 R.s0 i.is
  have k4 := sign_spec R.s1 R.s0 i.is.b
  have k5 := cmp_spec R.c1 R.c0 R.w1 R.w0 i.ic.b i.iw.b
  have k6 := second_spec R.ag
  have E : Hid (mayB R = (decide (1 ≤ R.nm.size ∧ R.nm.size ≤ 200) && (decide (Mod100 (V R.w1 R.w0)) && (decide (Mod100 (V R.c1 R.c0)) && (decide (Mod100 (V R.s1 R.s0)) && (!decide (cmpI (V R.s1 R.s0) 0 < 0) &&
    ((if R.ab then decide (0 ≤ cmpI (V R.c1 R.c0) (V R.w1 R.w0)) else decide (cmpI (V R.c1 R.c0) (V R.w1 R.w0) ≤ 0)) && (decide (1 ≤ R.fr ∧ R.fr ≤ 1000 ∧ 0 ≤ R.an ∧ R.an ≤ 1000) && decide (0 ≤ R.ag ∧ R.ag ≤ 1099511627775))))))))) := by
    show _ = _
    rw [cmp_ge, cmp_le, lit_le, cmp_ge]
    simp only [Bool.not_not]
    unfold mayB Ru.wa Ru.cr Ru.sl
    congr 6
    rw [Bool.eq_iff_iff]
    simp
    omega

  generalize decide (Mod100 (V R.w1 R.w0)) = m1 at *
  generalize decide (Mod100 (V R.c1 R.c0)) = m2 at *
  generalize decide (Mod100 (V R.s1 R.s0)) = m3 at *
  generalize cmpI (V R.s1 R.s0) 0 = y1 at *
  generalize cmpI (V R.c1 R.c0) (V R.w1 R.w0) = y2 at *
  generalize decide (0 ≤ R.ag ∧ R.ag ≤ 1099511627775) = m6 at *
  generalize mayB R = r at *
  have n1 := nm_empty R.nm
  have RB := hide (Row.new w (ruL R) 53 _ rfl)
  have BW : Below w.heap.size w (w.alloc (.cells (ruL R).toArray 53)) := (Below.refl _ _).alloc (Nat.le_refl _) _
  clear i
  by_cases z0 : R.nm.size = 0
  · rw [decide_eq_true z0] at n1
    have F : Hid (r = false) := by show _ = _; rw [E.out]; simp [z0]
    clear E z0 k1 k2 k3 k4 k5 k6
    unfold ruV
    go_enter Try.func23, Try.ntmps23
    go_wp2_with fail
    go_returns
    exact ⟨by rw [F.out]; rfl, BW⟩
  rw [decide_eq_false z0] at n1
  by_cases z1 : 200 < R.nm.size
  · have z1' : (200 : Int) < (R.nm.size : Int) := by omega
    have F : Hid (r = false) := by show _ = _; rw [E.out, decide_eq_false (by omega)]; rfl
    clear E z0 z1 k1 k2 k3 k4 k5 k6
    unfold ruV
    go_enter Try.func23, Try.ntmps23
    go_wp2_with fail
    go_returns
    exact ⟨by rw [F.out]; rfl, BW⟩
  have z1' : ¬ (200 : Int) < (R.nm.size : Int) := by omega
  rw [decide_eq_true (by omega), Bool.true_and] at E
  clear z0 z1
  unfold ruV
  go_enter Try.func23, Try.ntmps23
  go_wp2_with fail
  refine (k1 _).mono ?_
  rintro e v1 ⟨rfl, hb1⟩
  have R1 := hide (RB.out.later hb1); have B1 := BW.trans (hb1.mono BW.size); clear hb1; have d1_1 := R1.out.at0 1 _ rfl; have d1_2 := R1.out.at0 2 _ rfl; have d1_3 := R1.out.at0 3 _ rfl; have d1_4 := R1.out.at0 4 _ rfl; have d1_5 := R1.out.at0 5 _ rfl; have d1_6 := R1.out.at0 6 _ rfl; have d1_7 := R1.out.at0 7 _ rfl; have d1_8 := R1.out.at0 8 _ rfl; have d1_9 := R1.out.at0 9 _ rfl; have d1_10 := R1.out.at0 10 _ rfl; have lw1 := R1.out.lt
  cases m1
  · go_wp2_with fail
    go_returns
    exact ⟨by rw [E.out]; rfl, B1⟩
  rw [Bool.true_and] at E
  go_wp2_with fail
  refine (k2 _).mono ?_
  rintro e v2 ⟨rfl, hb2⟩
  have R2 := hide (R1.out.later hb2); have B2 := B1.trans (hb2.mono B1.size); clear hb2 d1_1 d1_2 d1_3 d1_4 d1_5 d1_6 d1_7 d1_8 d1_9 d1_10; have d2_1 := R2.out.at0 1 _ rfl; have d2_2 := R2.out.at0 2 _ rfl; have d2_3 := R2.out.at0 3 _ rfl; have d2_4 := R2.out.at0 4 _ rfl; have d2_5 := R2.out.at0 5 _ rfl; have d2_6 := R2.out.at0 6 _ rfl; have d2_7 := R2.out.at0 7 _ rfl; have d2_8 := R2.out.at0 8 _ rfl; have d2_9 := R2.out.at0 9 _ rfl; have d2_10 := R2.out.at0 10 _ rfl; have lw2 := R2.out.lt
  cases m2
  · go_wp2_with fail
    go_returns
    exact ⟨by rw [E.out]; rfl, B2⟩
  rw [Bool.true_and] at E
  go_wp2_with fail
  refine (k3 _).mono ?_
  rintro e v3 ⟨rfl, hb3⟩
  have R3 := hide (R2.out.later hb3); have B3 := B2.trans (hb3.mono B2.size); clear hb3 d2_1 d2_2 d2_3 d2_4 d2_5 d2_6 d2_7 d2_8 d2_9 d2_10; have d3_1 := R3.out.at0 1 _ rfl; have d3_2 := R3.out.at0 2 _ rfl; have d3_3 := R3.out.at0 3 _ rfl; have d3_4 := R3.out.at0 4 _ rfl; have d3_5 := R3.out.at0 5 _ rfl; have d3_6 := R3.out.at0 6 _ rfl; have d3_7 := R3.out.at0 7 _ rfl; have d3_8 := R3.out.at0 8 _ rfl; have d3_9 := R3.out.at0 9 _ rfl; have d3_10 := R3.out.at0 10 _ rfl; have lw3 := R3.out.lt
  cases m3
  · go_wp2_with fail
    go_returns
    exact ⟨by rw [E.out]; rfl, B3⟩
  rw [Bool.true_and] at E
  go_wp2_with fail
  refine (k4 _).mono ?_
  rintro e v4 ⟨rfl, hb4⟩
  have R4 := hide (R3.out.later hb4); have B4 := B3.trans (hb4.mono B3.size); clear hb4 d3_1 d3_2 d3_3 d3_4 d3_5 d3_6 d3_7 d3_8 d3_9 d3_10; have d4_1 := R4.out.at0 1 _ rfl; have d4_2 := R4.out.at0 2 _ rfl; have d4_3 := R4.out.at0 3 _ rfl; have d4_4 := R4.out.at0 4 _ rfl; have d4_5 := R4.out.at0 5 _ rfl; have d4_6 := R4.out.at0 6 _ rfl; have d4_7 := R4.out.at0 7 _ rfl; have d4_8 := R4.out.at0 8 _ rfl; have d4_9 := R4.out.at0 9 _ rfl; have d4_10 := R4.out.at0 10 _ rfl; have lw4 := R4.out.lt
  by_cases q4 : y1 < 0
  · rw [decide_eq_true q4] at E
    go_wp2_with fail
    go_returns
    exact ⟨by rw [E.out]; rfl, B4⟩
  rw [decide_eq_false q4] at E
  go_wp2_with fail
  refine (k5 _).mono ?_
  rintro e v5 ⟨rfl, hb5⟩
  have R5 := hide (R4.out.later hb5); have B5 := B4.trans (hb5.mono B4.size); clear hb5 d4_1 d4_2 d4_3 d4_4 d4_5 d4_6 d4_7 d4_8 d4_9 d4_10; have d5_1 := R5.out.at0 1 _ rfl; have d5_2 := R5.out.at0 2 _ rfl; have d5_3 := R5.out.at0 3 _ rfl; have d5_4 := R5.out.at0 4 _ rfl; have d5_5 := R5.out.at0 5 _ rfl; have d5_6 := R5.out.at0 6 _ rfl; have d5_7 := R5.out.at0 7 _ rfl; have d5_8 := R5.out.at0 8 _ rfl; have d5_9 := R5.out.at0 9 _ rfl; have d5_10 := R5.out.at0 10 _ rfl; have lw5 := R5.out.lt
  have E2 : Hid (r = ((if R.ab then decide (0 ≤ y2) else decide (y2 ≤ 0)) && (decide (1 ≤ R.fr ∧ R.fr ≤ 1000 ∧ 0 ≤ R.an ∧ R.an ≤ 1000) && m6))) := by show _ = _; rw [E.out]; rfl
  clear E
  by_cases q5 : (if R.ab then decide (0 ≤ y2) else decide (y2 ≤ 0)) = true
  · rw [q5, Bool.true_and] at E2
    have K6 : Hid (∀ e w', (e = Ending.returned (.bool m6) ∧ v5 = w') → True) := fun _ _ _ => trivial
    cases hab : R.ab
    all_goals
      rw [hab] at q5 d5_1
      simp at q5
      go_wp2_with (go_at_call 29; refine (k6 _).mono ?_; rintro e w6 ⟨rfl, rfl⟩)
      all_goals
        go_returns
        refine ⟨ret_bool ?_, B5⟩
        rw [E2.out]
        first
        | (rw [decide_eq_false (by omega)]; rfl)
        | (rw [decide_eq_true (by omega)]; rfl)
  · have F : Hid (r = false) := by show _ = _; rw [E2.out]; simp [q5]
    clear E2
    cases hab : R.ab
    all_goals
      rw [hab] at q5 d5_1
      simp at q5
      go_wp2_with fail
      go_returns
      exact ⟨by rw [F.out]; rfl, B5⟩
end Go.Proofs.Ytnlefakicjojdaa
/- alarm: say; find; Feed at a watch. -/
namespace Go.Proofs.Ytnlefakicjojdaa
set_option linter.unusedVariables false
set_option linter.unusedSimpArgs false
open Go.RowKit W Go.Maps
/-- What is said: nothing, or one word. -/
def AlOut (w : World) (v : Value) : Option (List Value) → Prop
  | none => v = .slice none 0 0
  | some l => ∃ g, v = .slice (some ⟨g, 0, none⟩) 1 1 ∧ Row w g 0 l
theorem Row.new' (Y : World) (l : List Value) (t : TypeId) (n : Nat) (e : Y.heap.size = n) : Row (Y.alloc (.cells l.toArray t)) n 0 l := by
  subst e; exact Row.new Y l t l rfl
def SayPost (w : World) (b : Nat) (R : Ru) (s : St) (o : Option (List Value)) (e : Ending) (w' : World) : Prop := ∃ v, e = .returned v ∧ AlOut w' v o ∧ (∀ g, v.ownBlock = some g → w.heap.size ≤ g) ∧ WatchAt w' b R s ∧ Mod [b] w w'
set_option maxRecDepth 100000 in
set_option maxHeartbeats 4000000 in
theorem say_no {w : World} {b : Nat} {R : Ru} {s : St} (h : WatchAt w b R s) (at' : Int) (is : Bool) (v1 v0 : Int) (n : sayB R s at' = false) :
    Calls Try.prog 32 #[.pointer (some ⟨b, 0, none⟩), .int .i64 at', .agg #[.bool is, .int .i64 v1, .int .u64 v0]] w (SayPost w b R s none) := by
  have H := hide h
  have lt := h.lt
  have c11 := h.at0 11 _ rfl
  have c13 := h.at0 13 _ rfl
  have c19 := h.at0 19 _ rfl
  have KD := fun (W : World) (k : WatchAt W b R s) => due_spec k at'
  clear h
  have N : Hid (¬ (s.mute ≤ at' ∧ (s.st = s.said → dueB R s at' = true))) := by
    show ¬ _
    unfold sayB at n
    simpa using n
  clear n
  generalize dueB R s at' = d at KD N
  by_cases m : at' < s.mute
  · go_enter Try.func32, Try.ntmps32
    go_wp2_with fail
    go_quiet (fail)
    go_wp2_with fail
    go_returns
    have BB : Below w.heap.size w ((w.alloc (.cells #[.bool is, .int .i64 v1, .int .u64 v0] 38)).drewN nq) := below_drewN ((Below.refl _ _).alloc (Nat.le_refl _) _) _
    exact ⟨_, rfl, rfl, (fun g e => by cases e), H.out.later BB, Mod.of_below BB⟩
  · have q : s.st = s.said ∧ d = false := by
      have n := N.out
      by_cases e : s.st = s.said
      · refine ⟨e, ?_⟩
        cases d
        · rfl
        · exact absurd ⟨by omega, fun _ => rfl⟩ n
      · exact absurd ⟨by omega, fun z => absurd z e⟩ n
    obtain ⟨q1, rfl⟩ := q
    have H2 : Hid (∀ n, WatchAt ((w.alloc (.cells #[.bool is, .int .i64 v1, .int .u64 v0] 38)).drewN n) b R s) := fun n => H.out.later (below_drewN ((Below.refl _ _).alloc (Nat.le_refl _) _) _)
    have B2 : Hid (∀ n, Below w.heap.size w ((w.alloc (.cells #[.bool is, .int .i64 v1, .int .u64 v0] 38)).drewN n)) := fun n => below_drewN ((Below.refl _ _).alloc (Nat.le_refl _) _) _
    rw [← q1] at c13
    clear N q1
    go_enter Try.func32, Try.ntmps32
    go_wp2_with fail
    go_quiet (fail)
    go_wp2_with fail
    refine (KD _ (H2.out _)).mono ?_
    rintro e w2 ⟨rfl, n2, rfl⟩
    go_wp2_with fail
    go_returns
    exact ⟨_, rfl, rfl, (fun g e => by cases e), H2.out _, Mod.of_below (B2.out _)⟩
set_option maxRecDepth 100000 in
set_option maxHeartbeats 4000000 in
theorem say_yes {w : World} {b : Nat} {R : Ru} {s : St} (h : WatchAt w b R s) (at' : Int) (is : Bool) (v1 v0 : Int) (n : sayB R s at' = true) :
    Calls Try.prog 32 #[.pointer (some ⟨b, 0, none⟩), .int .i64 at', .agg #[.bool is, .int .i64 v1, .int .u64 v0]] w (SayPost w b R { s with said := s.st, when := at' } (some [.string R.nm, .int .i64 at', .int .i64 s.said, .int .i64 s.st, .bool (decide (s.st = s.said)), .bool is, .int .i64 v1, .int .u64 v0])) := by
  have H := hide h
  have lt := h.lt
  have c11 := h.at0 11 _ rfl
  have c13 := h.at0 13 _ rfl
  have c19 := h.at0 19 _ rfl
  have KD := fun (W : World) (k : WatchAt W b R s) => due_spec k at'
  clear h
  have N : s.mute ≤ at' ∧ (s.st = s.said → dueB R s at' = true) := by
    unfold sayB at n
    exact of_decide_eq_true n
  clear n
  generalize dueB R s at' = d at KD N
  obtain ⟨n1, n2⟩ := N
  have m : ¬ at' < s.mute := by omega
  have H2 : Hid (∀ n, WatchAt ((w.alloc (.cells #[.bool is, .int .i64 v1, .int .u64 v0] 38)).drewN n) b R s) := fun n => H.out.later (below_drewN ((Below.refl _ _).alloc (Nat.le_refl _) _) _)
  have B2 : Hid (∀ n, Below w.heap.size w ((w.alloc (.cells #[.bool is, .int .i64 v1, .int .u64 v0] 38)).drewN n)) := fun n => below_drewN ((Below.refl _ _).alloc (Nat.le_refl _) _) _
  have C2 : Hid (∀ n, ((w.alloc (.cells #[.bool is, .int .i64 v1, .int .u64 v0] 38)).drewN n).cell? ⟨w.heap.size, 0, none⟩ = some (.bool is) ∧ ((w.alloc (.cells #[.bool is, .int .i64 v1, .int .u64 v0] 38)).drewN n).cell? ⟨w.heap.size, 1, none⟩ = some (.int .i64 v1) ∧ ((w.alloc (.cells #[.bool is, .int .i64 v1, .int .u64 v0] 38)).drewN n).cell? ⟨w.heap.size, 2, none⟩ = some (.int .u64 v0) ∧ w.heap.size < ((w.alloc (.cells #[.bool is, .int .i64 v1, .int .u64 v0] 38)).drewN n).heap.size) := fun n => ⟨by show (w.alloc _).cell? _ = _; simp [go_sem], by show (w.alloc _).cell? _ = _; simp [go_sem], by show (w.alloc _).cell? _ = _; simp [go_sem], by show _ < (w.alloc _).heap.size; simp⟩
  by_cases q : s.st = s.said
  · obtain rfl : d = true := n2 q
    rw [decide_eq_true q]
    rw [← q] at c13
    clear n1 n2 q
    go_enter Try.func32, Try.ntmps32
    go_wp2_with fail
    go_quiet (fail)
    go_wp2_with fail
    refine (KD _ (H2.out _)).mono ?_
    rintro e w2 ⟨rfl, n2, rfl⟩
    rw [show ((w.alloc (.cells #[.bool is, .int .i64 v1, .int .u64 v0] 38)).drewN nq).drewN n2 = (w.alloc (.cells #[.bool is, .int .i64 v1, .int .u64 v0] 38)).drewN (nq + n2) from World.drewN_drewN _ _ _]
    obtain ⟨W, hW⟩ : ∃ W, W = (w.alloc (.cells #[.bool is, .int .i64 v1, .int .u64 v0] 38)).drewN (nq + n2) := ⟨_, rfl⟩
    have HW := H2.out (nq + n2)
    have BW := B2.out (nq + n2)
    obtain ⟨e0, e1, e2, e3⟩ := C2.out (nq + n2)
    rw [← hW] at HW BW e0 e1 e2 e3 ⊢
    clear hW H2 B2 C2 c11 c13 c19
    have HH := hide HW
    have BH := hide BW
    have lW := HW.lt
    have c0 := HW.at0 0 _ rfl
    have c11 := HW.at0 11 _ rfl
    have c13 := HW.at0 13 _ rfl
    have c14 := HW.at0 14 _ rfl
    have f13 := HW.fr0 13 (by simp [wlx])
    have f14 := HW.fr0 14 (by simp [wlx])
    clear HW BW
    go_wp2_with fail
    go_region
    all_goals
      go_wp2_with fail
      go_returns
      refine ⟨_, rfl, ⟨_, rfl, ?_⟩, (fun g e => ?_), ?_, ?_⟩
      · first | exact (Row.new' _ _ _ _ (by simp)).drew | exact Row.new' _ _ _ _ (by simp) | exact (Row.new' _ _ _ _ (by simp)).drewN _
      · have := BH.out.size
        simp [Value.ownBlock] at e
        omega
      · have r := ((HH.out.set0 13 (by simp [wlx]) (.int .i64 s.st)).set0 14 (by simp [wlx]) (.int .i64 at'))
        have r2 := fun o1 o2 => r.later ((((Below.refl _ _).alloc (Nat.le_refl _) o1).alloc (by simp) o2))
        first | exact (r2 _ _).drew | exact r2 _ _ | exact (r2 _ _).drewN _
      · have r := (((((Mod.of_below (l := [b]) BH.out).setCell (p := ⟨b, 13, none⟩) (by simp) (.int .i64 s.st)).setCell (p := ⟨b, 14, none⟩) (by simp) (.int .i64 at')).alloc (.cells #[] 0)))
        repeat (first | exact Mod.of_below BH.out | refine Mod.drew ?_ | refine Mod.alloc ?_ _ | refine Mod.setCell ?_ (by simp) _)
  · have q' : (s.st == s.said) = false := by simpa using q
    rw [decide_eq_false q]
    clear n1 n2 q KD
    go_enter Try.func32, Try.ntmps32
    go_wp2_with fail
    go_quiet (fail)
    obtain ⟨W, hW⟩ : ∃ W, W = (w.alloc (.cells #[.bool is, .int .i64 v1, .int .u64 v0] 38)).drewN nq := ⟨_, rfl⟩
    have HW := H2.out nq
    have BW := B2.out nq
    obtain ⟨e0, e1, e2, e3⟩ := C2.out nq
    rw [← hW] at HW BW e0 e1 e2 e3 ⊢
    have c19' := HW.at0 19 _ rfl
    clear hW H2 B2 C2 c11 c13 c19
    have HH := hide HW
    have BH := hide BW
    have lW := HW.lt
    have c0 := HW.at0 0 _ rfl
    have c11 := HW.at0 11 _ rfl
    have c13 := HW.at0 13 _ rfl
    have c14 := HW.at0 14 _ rfl
    have f13 := HW.fr0 13 (by simp [wlx])
    have f14 := HW.fr0 14 (by simp [wlx])
    clear HW BW
    go_wp2_with fail
    go_region
    all_goals
      go_wp2_with fail
      go_returns
      refine ⟨_, rfl, ⟨_, rfl, ?_⟩, (fun g e => ?_), ?_, ?_⟩
      · first | exact (Row.new' _ _ _ _ (by simp)).drew | exact Row.new' _ _ _ _ (by simp) | exact (Row.new' _ _ _ _ (by simp)).drewN _
      · have := BH.out.size
        simp [Value.ownBlock] at e
        omega
      · have r := ((HH.out.set0 13 (by simp [wlx]) (.int .i64 s.st)).set0 14 (by simp [wlx]) (.int .i64 at'))
        have r2 := fun o1 o2 => r.later ((((Below.refl _ _).alloc (Nat.le_refl _) o1).alloc (by simp) o2))
        first | exact (r2 _ _).drew | exact r2 _ _ | exact (r2 _ _).drewN _
      · have r := (((((Mod.of_below (l := [b]) BH.out).setCell (p := ⟨b, 13, none⟩) (by simp) (.int .i64 s.st)).setCell (p := ⟨b, 14, none⟩) (by simp) (.int .i64 at')).alloc (.cells #[] 0)))
        repeat (first | exact Mod.of_below BH.out | refine Mod.drew ?_ | refine Mod.alloc ?_ _ | refine Mod.setCell ?_ (by simp) _)
end Go.Proofs.Ytnlefakicjojdaa
