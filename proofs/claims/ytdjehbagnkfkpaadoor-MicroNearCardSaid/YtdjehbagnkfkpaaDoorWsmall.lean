/- wide: Small. -/
import Derived.Test.YtdjehbagnkfkpaaDoorWof
namespace Go.Proofs.YtdjehbagnkfkpaaDoor
set_option linter.unusedVariables false
open Go.RowKit W
set_option maxHeartbeats 1000000 in
theorem small_yes (a b n : Int) (hn : IntKind.i64.wrap b = n) (c : ∀ w, Calls Tryd.prog 30 #[.int .i64 n] w fun e w' => e = .returned (.agg #[.int .i64 a, .int .u64 b]) ∧ Below w.heap.size w w') (w : World) :
    Calls Tryd.prog 26 #[.agg #[.int .i64 a, .int .u64 b]] w fun e w' => e = .returned (.tuple #[.int .i64 n, .bool true]) ∧ Below w.heap.size w w' := by
  go_enter Tryd.func26, Tryd.ntmps26
  go_wp2_with fail
  obtain ⟨W, hW⟩ : ∃ X, X = w.alloc (Obj.cells #[.int .i64 a, .int .u64 b] 33) := ⟨_, rfl⟩
  have cW0 : W.cell? ⟨w.heap.size, 0, none⟩ = some (.int .i64 a) := by rw [hW]; first | (simp [go_sem]; done)
  have fW0 : W.frozen? ⟨w.heap.size, 0, none⟩ = false := by rw [hW]; first | (simp [go_sem]; done)
  have zW0 : w.heap.size < W.heap.size := by rw [hW]; first | omega | (simp; done) | (simp; omega)
  have cW1 : W.cell? ⟨w.heap.size, 1, none⟩ = some (.int .u64 b) := by rw [hW]; first | (simp [go_sem]; done)
  have fW1 : W.frozen? ⟨w.heap.size, 1, none⟩ = false := by rw [hW]; first | (simp [go_sem]; done)
  have zW1 : w.heap.size < W.heap.size := by rw [hW]; first | omega | (simp; done) | (simp; omega)
  have BW : Below w.heap.size w W := by rw [hW]; go_grown
  rw [← hW]
  clear hW
  have K1 := (Keeps.start (Nat.le_refl W.heap.size)).drew
  go_region_held3 (fun w' => w'.cell? ⟨w.heap.size, 0, none⟩ = some (.int .i64 a) ∧ w'.cell? ⟨w.heap.size, 1, none⟩ = some (.int .u64 b) ∧ Keeps W.heap.size W w') ((refine (fun K => ⟨Keeps.cell K cW0 zW0, Keeps.cell K cW1 zW1, K⟩) (?_ : Keeps W.heap.size W _); (first | assumption | exact Keeps.alloc (by assumption) _)))
    (first | (go_at_call 30; refine (c _).mono ?_; rintro e w1 ⟨rfl, hb⟩; have K2 := Keeps.call (by assumption) hb))
  go_wp2
  go_returns
  exact ⟨rfl, BW.trans (K2.below.mono BW.size)⟩
set_option maxHeartbeats 1000000 in
theorem small_no (a b n h : Int) (hn : IntKind.i64.wrap b = n) (hne : (h == a) = false) (c : ∀ w, Calls Tryd.prog 30 #[.int .i64 n] w fun e w' => e = .returned (.agg #[.int .i64 h, .int .u64 b]) ∧ Below w.heap.size w w') (w : World) :
    Calls Tryd.prog 26 #[.agg #[.int .i64 a, .int .u64 b]] w fun e w' => e = .returned (.tuple #[.int .i64 0, .bool false]) ∧ Below w.heap.size w w' := by
  go_enter Tryd.func26, Tryd.ntmps26
  go_wp2_with fail
  obtain ⟨W, hW⟩ : ∃ X, X = w.alloc (Obj.cells #[.int .i64 a, .int .u64 b] 33) := ⟨_, rfl⟩
  have cW0 : W.cell? ⟨w.heap.size, 0, none⟩ = some (.int .i64 a) := by rw [hW]; first | (simp [go_sem]; done)
  have fW0 : W.frozen? ⟨w.heap.size, 0, none⟩ = false := by rw [hW]; first | (simp [go_sem]; done)
  have zW0 : w.heap.size < W.heap.size := by rw [hW]; first | omega | (simp; done) | (simp; omega)
  have cW1 : W.cell? ⟨w.heap.size, 1, none⟩ = some (.int .u64 b) := by rw [hW]; first | (simp [go_sem]; done)
  have fW1 : W.frozen? ⟨w.heap.size, 1, none⟩ = false := by rw [hW]; first | (simp [go_sem]; done)
  have zW1 : w.heap.size < W.heap.size := by rw [hW]; first | omega | (simp; done) | (simp; omega)
  have BW : Below w.heap.size w W := by rw [hW]; go_grown
  rw [← hW]
  clear hW
  have K1 := (Keeps.start (Nat.le_refl W.heap.size)).drew
  go_region_held3 (fun w' => w'.cell? ⟨w.heap.size, 0, none⟩ = some (.int .i64 a) ∧ w'.cell? ⟨w.heap.size, 1, none⟩ = some (.int .u64 b) ∧ Keeps W.heap.size W w') ((refine (fun K => ⟨Keeps.cell K cW0 zW0, Keeps.cell K cW1 zW1, K⟩) (?_ : Keeps W.heap.size W _); (first | assumption | exact Keeps.alloc (by assumption) _)))
    (first | (go_at_call 30; refine (c _).mono ?_; rintro e w1 ⟨rfl, hb⟩; have K2 := Keeps.call (by assumption) hb))
  go_wp2
  go_returns
  exact ⟨rfl, BW.trans (K2.below.mono BW.size)⟩
theorem small_spec (a b : Int) (i : IsW (a, b)) (w : World) :
    Calls Tryd.prog 26 #[.agg #[.int .i64 a, .int .u64 b]] w fun e w' => e = .returned (.tuple #[.int .i64 (smallV (V a b)), .bool (smallB (V a b))]) ∧ Below w.heap.size w w' := by
  obtain ⟨i1, i0⟩ := i
  have wm := wrap_s i0
  have j : IsHi (s b) := by obtain ⟨_, _⟩ := i0; unfold s; split <;> exact ⟨by omega, by omega⟩
  have c := wof_spec (s b) j
  have el : lo (s b) = b := by obtain ⟨_, _⟩ := i0; unfold lo s; split <;> omega
  unfold wideRes at c
  rw [el] at c
  by_cases e : hi (s b) = a
  · rw [e] at c
    have v : V a b = s b := by rw [← e]; obtain ⟨_, _⟩ := i0; unfold V hi s; split <;> omega
    have h1 : smallV (V a b) = s b := by unfold smallV; rw [v, if_pos j]
    have h2 : smallB (V a b) = true := by unfold smallB; rw [v]; exact decide_eq_true j
    rw [h1, h2]
    exact small_yes a b _ wm c w
  · have n : ¬ IsHi (V a b) := by
      rintro ⟨x, y⟩
      apply e
      obtain ⟨_, _⟩ := i0
      unfold V at x y; unfold hi s; split <;> omega
    have h1 : smallV (V a b) = 0 := by unfold smallV; rw [if_neg n]
    have h2 : smallB (V a b) = false := by unfold smallB; exact decide_eq_false n
    rw [h1, h2]
    exact small_no a b _ _ wm (by simpa using e) c w
end Go.Proofs.YtdjehbagnkfkpaaDoor
