/- alarm: how a value's level is found: beyond, near, fromFine, fromWarn, fromCrit. -/
import Derived.Test.YtnlefakicjojdaaWcmp
import Derived.Test.YtnlefakicjojdaaWsub
import Derived.Test.YtnlefakicjojdaaHid
namespace Go.Proofs.Ytnlefakicjojdaa
set_option linter.unusedVariables false
set_option linter.unusedSimpArgs false
open Go.RowKit W
/-- A rule as its cells hold it. -/
structure Ru where
  nm : ByteArray
  ab : Bool
  w1 : Int
  w0 : Int
  c1 : Int
  c0 : Int
  s1 : Int
  s0 : Int
  fr : Int
  an : Int
  ag : Int
def Ru.wa (R : Ru) : Int := V R.w1 R.w0
def Ru.cr (R : Ru) : Int := V R.c1 R.c0
def Ru.sl (R : Ru) : Int := V R.s1 R.s0
/-- Without its sign at most 2^100. -/
def Mod100 (x : Int) : Prop := -1267650600228229401496703205376 ≤ x ∧ x ≤ 1267650600228229401496703205376
/-- A rule whose numbers are far from where 128 bits end. -/
structure RuOk (R : Ru) : Prop where
  iw : IsW (R.w1, R.w0)
  ic : IsW (R.c1, R.c0)
  is : IsW (R.s1, R.s0)
  mw : Mod100 R.wa
  mc : Mod100 R.cr
  ms : Mod100 R.sl
  s0 : 0 ≤ R.sl
def bey (ab : Bool) (v t : Int) : Bool := if ab then decide (t ≤ v) else decide (v ≤ t)
def eas (ab : Bool) (t s : Int) : Int := if ab then t - s else t + s
def levF (R : Ru) (v : Int) : Int := if bey R.ab v R.cr then 3 else if bey R.ab v R.wa then 2 else 1
def levW (R : Ru) (v : Int) : Int := if levF R v = 1 ∧ bey R.ab v (eas R.ab R.wa R.sl) = true then 2 else levF R v
def levC (R : Ru) (v : Int) : Int := if bey R.ab v (eas R.ab R.cr R.sl) then 3 else levW R v
/-- The level of a value at a state. -/
def lev (R : Ru) (st v : Int) : Int := if st = 2 then levW R v else if st = 3 then levC R v else levF R v
theorem lev_is (R : Ru) (st v : Int) : lev R st v = 1 ∨ lev R st v = 2 ∨ lev R st v = 3 := by
  unfold lev levC levW levF
  repeat' split
  all_goals simp_all
/-- The rule's cells of a watch. -/
structure RuAt (w : World) (b : Nat) (R : Ru) : Prop where
  k1 : w.cell? ⟨b, 1, none⟩ = some (.bool R.ab)
  k2 : w.cell? ⟨b, 2, none⟩ = some (.int .i64 R.w1)
  k3 : w.cell? ⟨b, 3, none⟩ = some (.int .u64 R.w0)
  k4 : w.cell? ⟨b, 4, none⟩ = some (.int .i64 R.c1)
  k5 : w.cell? ⟨b, 5, none⟩ = some (.int .u64 R.c0)
  k6 : w.cell? ⟨b, 6, none⟩ = some (.int .i64 R.s1)
  k7 : w.cell? ⟨b, 7, none⟩ = some (.int .u64 R.s0)
  lt : b < w.heap.size
theorem RuAt.later {w w' : World} {b : Nat} {R : Ru} (h : RuAt w b R) (k : Below w.heap.size w w') : RuAt w' b R :=
  ⟨(k.cell (p := ⟨b, 1, none⟩) h.lt).trans h.k1, (k.cell (p := ⟨b, 2, none⟩) h.lt).trans h.k2, (k.cell (p := ⟨b, 3, none⟩) h.lt).trans h.k3, (k.cell (p := ⟨b, 4, none⟩) h.lt).trans h.k4, (k.cell (p := ⟨b, 5, none⟩) h.lt).trans h.k5, (k.cell (p := ⟨b, 6, none⟩) h.lt).trans h.k6, (k.cell (p := ⟨b, 7, none⟩) h.lt).trans h.k7, Nat.lt_of_lt_of_le h.lt k.size⟩
theorem cmp_ge (x y : Int) : decide (0 ≤ cmpI x y) = decide (y ≤ x) := by
  unfold cmpI; split
  · simp; omega
  · split
    · simp; omega
    · simp; omega
theorem cmp_le (x y : Int) : decide (cmpI x y ≤ 0) = decide (x ≤ y) := by
  unfold cmpI; split
  · simp; omega
  · split
    · simp; omega
    · simp; omega
set_option maxRecDepth 100000 in
set_option maxHeartbeats 4000000 in
theorem beyond_spec {w : World} {b : Nat} {ab : Bool} (k1 : w.cell? ⟨b, 1, none⟩ = some (.bool ab)) (lt : b < w.heap.size) (v1 v0 t1 t0 : Int) (iv : IsW (v1, v0)) (it : IsW (t1, t0)) :
    Calls Try.prog 63 #[.pointer (some ⟨b, 0, none⟩), .agg #[.int .i64 v1, .int .u64 v0], .agg #[.int .i64 t1, .int .u64 t0]] w fun e w' => e = .returned (.bool (bey ab (V v1 v0) (V t1 t0))) ∧ Below w.heap.size w w' := by
  have c := cmp_spec v1 v0 t1 t0 iv.b it.b
  have g1 := cmp_ge (V v1 v0) (V t1 t0)
  have g2 := cmp_le (V v1 v0) (V t1 t0)
  obtain ⟨m, hm⟩ : ∃ m, m = cmpI (V v1 v0) (V t1 t0) := ⟨_, rfl⟩
  rw [← hm] at c g1 g2
  cases ab
  · have G : Hid (bey false (V v1 v0) (V t1 t0) = decide (m ≤ 0)) := by show _ = _; unfold bey; rw [g2]; rfl
    clear g1 g2 hm
    obtain ⟨r, hr⟩ : ∃ r, r = bey false (V v1 v0) (V t1 t0) := ⟨_, rfl⟩
    rw [← hr] at G ⊢
    clear hr
    go_enter Try.func63, Try.ntmps63
    go_wp2_with (go_at_call 45; refine (c _).mono ?_; rintro e w' ⟨rfl, hb⟩)
    go_returns
    exact ⟨by rw [G.out]; rfl, by refine Below.trans ?_ (hb.mono ?_) <;> go_grown⟩
  · have G : Hid (bey true (V v1 v0) (V t1 t0) = decide (0 ≤ m)) := by show _ = _; unfold bey; rw [g1]; rfl
    clear g1 g2 hm
    obtain ⟨r, hr⟩ : ∃ r, r = bey true (V v1 v0) (V t1 t0) := ⟨_, rfl⟩
    rw [← hr] at G ⊢
    clear hr
    go_enter Try.func63, Try.ntmps63
    go_wp2_with (go_at_call 45; refine (c _).mono ?_; rintro e w' ⟨rfl, hb⟩)
    go_returns
    exact ⟨by rw [G.out]; rfl, by refine Below.trans ?_ (hb.mono ?_) <;> go_grown⟩
theorem add_fit (a b c d : Int) (i : IsW (a, b)) (j : IsW (c, d)) (f : Fits (V a b + V c d)) (w : World) :
    Calls Try.prog 64 #[.agg #[.int .i64 a, .int .u64 b], .agg #[.int .i64 c, .int .u64 d]] w fun e w' => ∃ x1 x0, e = .returned (.tuple #[.agg #[.int .i64 x1, .int .u64 x0], .int .i64 0]) ∧ IsW (x1, x0) ∧ V x1 x0 = V a b + V c d ∧ Below w.heap.size w w' := by
  refine (add_spec a b c d i j w).mono ?_
  rintro e w' ⟨rfl, k⟩
  exact ⟨_, _, by unfold sumRes; rw [resE_fits f], isW_res _, by rw [resV_fits f]; exact V_hi_lo _, k⟩
theorem sub_fit (a b c d : Int) (i : IsW (a, b)) (j : IsW (c, d)) (f : Fits (V a b - V c d)) (w : World) :
    Calls Try.prog 42 #[.agg #[.int .i64 a, .int .u64 b], .agg #[.int .i64 c, .int .u64 d]] w fun e w' => ∃ x1 x0, e = .returned (.tuple #[.agg #[.int .i64 x1, .int .u64 x0], .int .i64 0]) ∧ IsW (x1, x0) ∧ V x1 x0 = V a b - V c d ∧ Below w.heap.size w w' := by
  refine (sub_spec a b c d i j w).mono ?_
  rintro e w' ⟨rfl, k⟩
  exact ⟨_, _, by unfold sumRes; rw [resE_fits f], isW_res _, by rw [resV_fits f]; exact V_hi_lo _, k⟩
end Go.Proofs.Ytnlefakicjojdaa
