/- The reference of layer 1: its faces: WideSums. -/
import Derived.Test.YthcgkpmlfbjagaaLsum
import Derived.Test.YthcgkpmlfbjagaaWalive
namespace Go.Proofs.Ythcgkpmlfbjagaa
set_option linter.unusedVariables false
open Go.RowKit W Lb
/-- The elements of a list of wide numbers that came in. -/
def IsWides (w : World) (p : Option Addr) (len cap : Nat) (ws : List (Int × Int)) : Prop :=
  (len = 0 ∧ ws = []) ∨ ∃ b off, p = some ⟨b, off, none⟩ ∧ b < w.heap.size ∧ len ≤ 140737488355328 ∧ Holds w b off len ws
set_option maxRecDepth 100000 in
set_option maxHeartbeats 1000000 in
theorem sum_none (p : Option Addr) (cap : Nat) (w : World) :
    Calls Try.prog 34 #[.slice p 0 cap] w fun e w' => e = .returned (.tuple #[.agg #[.int .i64 0, .int .u64 0], .int .i64 0]) ∧ Below w.heap.size w w' := by
  go_enter Try.func34, Try.ntmps34
  go_wp2
  refine wp_loop_rounds 1 ?_
  rw [rounds_succ]
  go_wp2
  go_returns
  exact ⟨rfl, by go_grown⟩
set_option maxRecDepth 100000 in
set_option maxHeartbeats 1000000 in
theorem rsum_none (p : Option Addr) (cap : Nat) (w : World) :
    Calls Try.prog 35 #[.slice p 0 cap] w fun e w' => e = .returned (.tuple #[.agg #[.int .i64 0, .int .u64 0], .int .i64 0]) ∧ Below w.heap.size w w' := by
  have ko := fun w' => over_spec false none 0 [] 0 w' (isNum_zero w') (by simp)
  unfold sumRes at ko
  rw [show hi (resV 0) = 0 by decide, show lo (resV 0) = 0 by decide, show resE 0 = 0 by decide] at ko
  simp only [List.length_nil] at ko
  go_enter Try.func35, Try.ntmps35
  go_wp2_with fail
  refine wp_loop_rounds 1 ?_
  rw [rounds_succ]
  go_wp2_with fail
  refine (ko _).mono ?_
  rintro e w1 ⟨rfl, h1⟩
  obtain ⟨r0, g0, z0⟩ := live (.int .i64 0) h1 w.heap.size 0 (by simp; try omega) (by simp [go_sem]) (by simp [go_sem])
  obtain ⟨r1, g1, z1⟩ := live (.int .u64 0) h1 w.heap.size 1 (by simp; try omega) (by simp [go_sem]) (by simp [go_sem])
  have BE : Below w.heap.size w w1 := Below.trans (by go_grown) (h1.mono (by first | (simp; done) | omega | (simp; omega)))
  clear h1 ko
  go_wp2_with fail
  refine bodyPost_ret (by simp [results, Try.results35, go_sem, r0, r1, g0, g1, z0]; try rfl) rfl ?_
  refine ⟨rfl, ?_⟩
  repeat (first | exact Below.refl _ _ | assumption | refine Below.setCell ?_ (by first | (simp; done) | omega | (simp; omega)) _ | refine Below.drew ?_ | refine below_drewN ?_ _ | refine Below.alloc ?_ (by first | (simp; done) | omega | (simp; omega)) _)
set_option maxHeartbeats 4000000 in
theorem sums_walk (p : Option Addr) (len cap : Nat) (x1 x0 er : Int) (w : World)
    (k0 : ∀ w, Calls Try.prog 25 #[] w fun e w' => e = .returned (.bool true) ∧ Below w.heap.size w w')
    (k1 : ∀ w', Below w.heap.size w w' → Calls Try.prog 34 #[.slice p len cap] w' fun e u => e = .returned (.tuple #[.agg #[.int .i64 x1, .int .u64 x0], .int .i64 er]) ∧ Below w'.heap.size w' u)
    (k2 : ∀ w', Below w.heap.size w w' → Calls Try.prog 35 #[.slice p len cap] w' fun e u => e = .returned (.tuple #[.agg #[.int .i64 x1, .int .u64 x0], .int .i64 er]) ∧ Below w'.heap.size w' u)
    : Calls Try.prog 7 #[.slice p len cap] w fun e w' => e = .returned (.bool true) ∧ Below w.heap.size w w' := by
  go_enter Try.func7, Try.ntmps7
  go_wp2_with fail
  refine (k1 _ (Below.refl _ _)).mono ?_
  rintro e w1 ⟨rfl, h1⟩
  have B1 : Below w.heap.size w w1 := h1
  have y1 := B1.size
  clear h1 k1
  go_wp2_with fail
  refine (k2 _ (by go_grown)).mono ?_
  rintro e w2 ⟨rfl, h2⟩
  have B2 : Below w.heap.size w w2 := Below.trans (by go_grown) (h2.mono (by first | (simp; done) | omega | (simp; omega)))
  have y2 := B2.size
  have B0 := box2 h2 (w1.heap.size) (.int .i64 x1) (.int .u64 x0) (by first | assumption | (simp [go_sem]; done) | (simp [go_sem]; done)) (by first | assumption | (simp [go_sem]; done) | (simp [go_sem]; done)) (by first | assumption | (simp [go_sem]; done) | (simp [go_sem]; done)) (by first | assumption | (simp [go_sem]; done) | (simp [go_sem]; done)) (by first | assumption | omega | (simp; done) | (simp; omega))
  obtain ⟨B0c0, B0c1, B0f0, B0f1, B0z⟩ := B0
  clear h2 k2 B1
  go_wp2_with fail
  refine (k0 _).mono ?_
  rintro e w3 ⟨rfl, h3⟩
  have B3 : Below w.heap.size w w3 := Below.trans (by go_grown) (h3.mono (by first | (simp; done) | omega | (simp; omega)))
  go_wp2_with fail
  go_returns
  exact ⟨rfl, B3⟩
theorem cell_lt {w : World} {b o : Nat} {v : Value} (h : w.cell? ⟨b, o, none⟩ = some v) : b < w.heap.size := by
  unfold World.cell? at h
  apply Decidable.byContradiction; intro g
  rw [Array.getElem?_eq_none (by show w.heap.size ≤ b; omega)] at h
  exact absurd h (by simp)
theorem Holds.later {w w' : World} {b off len : Nat} {ws : List (Int × Int)} (h : Holds w b off len ws) (hb : b < w.heap.size) (k : Below w.heap.size w w') : Holds w' b off len ws :=
  ⟨h.size, fun j hj => (k.cell (p := ⟨b, off + j * 2, none⟩) hb).trans (h.chi j hj), fun j hj => (k.cell (p := ⟨b, off + j * 2 + 1, none⟩) hb).trans (h.clo j hj), h.fit⟩
theorem law_WideSums (p : Option Addr) (len cap : Nat) (ws : List (Int × Int)) (w : World) (H : IsWides w p len cap ws) :
    Calls Try.prog 7 #[.slice p len cap] w fun e w' => e = .returned (.bool true) ∧ Below w.heap.size w w' := by
  rcases H with ⟨rfl, rfl⟩ | ⟨b, off, rfl, hb, hl, H⟩
  · exact sums_walk p 0 cap 0 0 0 w alive_ok (fun w' _ => sum_none p cap w') (fun w' _ => rsum_none p cap w')
  · exact sums_walk _ len cap _ _ _ w alive_ok (fun w' k => sum_some b off len cap ws w' (Nat.lt_of_lt_of_le hb k.size) hl (H.later hb k)) (fun w' k => rsum_some b off len cap ws w' (Nat.lt_of_lt_of_le hb k.size) hl (H.later hb k))
end Go.Proofs.Ythcgkpmlfbjagaa
