/- The reference of layer 1: its faces: Of, Small; WideSigns. -/
import Derived.Test.YthcgkpmlfbjagaaLwrap
import Derived.Test.YthcgkpmlfbjagaaWneg
import Derived.Test.YthcgkpmlfbjagaaWsmall
import Derived.Test.YthcgkpmlfbjagaaWalive
namespace Go.Proofs.Ythcgkpmlfbjagaa
set_option linter.unusedVariables false
open Go.RowKit W Lb
theorem rof_spec (n : Int) (j : IsHi n) (w : World) :
    Calls Try.prog 20 #[.int .i64 n] w fun e w' => e = wideRes n ∧ Below w.heap.size w w' := by
  have e1 : IntKind.u64.wrap n = lo n := by rw [IntKind.wrap_u64]; rfl
  have e2 : hi n = if n < 0 then -1 else 0 := by obtain ⟨_, _⟩ := j; unfold hi; split <;> omega
  unfold wideRes
  rw [e2]
  clear e2
  generalize lo n = x at *
  by_cases h : n < 0
  · rw [if_pos h]
    go_enter Try.func20, Try.ntmps20
    go_wp2
    go_returns
    exact ⟨rfl, by go_grown⟩
  · rw [if_neg h]
    go_enter Try.func20, Try.ntmps20
    go_wp2
    go_returns
    exact ⟨rfl, by go_grown⟩
set_option maxHeartbeats 1000000 in
theorem rsmall_yes (a b n : Int) (hn : IntKind.i64.wrap b = n) (c : ∀ w, Calls Try.prog 20 #[.int .i64 n] w fun e w' => e = .returned (.agg #[.int .i64 a, .int .u64 b]) ∧ Below w.heap.size w w') (w : World) :
    Calls Try.prog 14 #[.agg #[.int .i64 a, .int .u64 b]] w fun e w' => e = .returned (.tuple #[.int .i64 n, .bool true]) ∧ Below w.heap.size w w' := by
  go_enter Try.func14, Try.ntmps14
  go_wp2_with fail
  obtain ⟨W, hW⟩ : ∃ X, X = w.alloc (Obj.cells #[.int .i64 a, .int .u64 b] 24) := ⟨_, rfl⟩
  have cW0 : W.cell? ⟨w.heap.size, 0, none⟩ = some (.int .i64 a) := by rw [hW]; first | (simp [go_sem]; done)
  have fW0 : W.frozen? ⟨w.heap.size, 0, none⟩ = false := by rw [hW]; first | (simp [go_sem]; done)
  have zW0 : w.heap.size < W.heap.size := by rw [hW]; first | omega | (simp; done) | (simp; omega)
  have cW1 : W.cell? ⟨w.heap.size, 1, none⟩ = some (.int .u64 b) := by rw [hW]; first | (simp [go_sem]; done)
  have fW1 : W.frozen? ⟨w.heap.size, 1, none⟩ = false := by rw [hW]; first | (simp [go_sem]; done)
  have zW1 : w.heap.size < W.heap.size := by rw [hW]; first | omega | (simp; done) | (simp; omega)
  have BW : Below w.heap.size w W := by rw [hW]; go_grown
  rw [← hW]
  clear hW
  have K1 := (Keeps.start (Nat.le_refl W.heap.size)).drew
  go_region_held3 (fun w' => w'.cell? ⟨w.heap.size, 0, none⟩ = some (.int .i64 a) ∧ w'.cell? ⟨w.heap.size, 1, none⟩ = some (.int .u64 b) ∧ Keeps W.heap.size W w') ((refine (fun K => ⟨Keeps.cell K cW0 zW0, Keeps.cell K cW1 zW1, K⟩) (?_ : Keeps W.heap.size W _); (first | assumption | exact Keeps.alloc (by assumption) _)))
    (first | (go_at_call 20; refine (c _).mono ?_; rintro e w1 ⟨rfl, hb⟩; have K2 := Keeps.call (by assumption) hb))
  go_wp2
  go_returns
  exact ⟨rfl, BW.trans (K2.below.mono BW.size)⟩
set_option maxHeartbeats 1000000 in
theorem rsmall_no (a b n h : Int) (hn : IntKind.i64.wrap b = n) (hne : (h == a) = false) (c : ∀ w, Calls Try.prog 20 #[.int .i64 n] w fun e w' => e = .returned (.agg #[.int .i64 h, .int .u64 b]) ∧ Below w.heap.size w w') (w : World) :
    Calls Try.prog 14 #[.agg #[.int .i64 a, .int .u64 b]] w fun e w' => e = .returned (.tuple #[.int .i64 0, .bool false]) ∧ Below w.heap.size w w' := by
  go_enter Try.func14, Try.ntmps14
  go_wp2_with fail
  obtain ⟨W, hW⟩ : ∃ X, X = w.alloc (Obj.cells #[.int .i64 a, .int .u64 b] 24) := ⟨_, rfl⟩
  have cW0 : W.cell? ⟨w.heap.size, 0, none⟩ = some (.int .i64 a) := by rw [hW]; first | (simp [go_sem]; done)
  have fW0 : W.frozen? ⟨w.heap.size, 0, none⟩ = false := by rw [hW]; first | (simp [go_sem]; done)
  have zW0 : w.heap.size < W.heap.size := by rw [hW]; first | omega | (simp; done) | (simp; omega)
  have cW1 : W.cell? ⟨w.heap.size, 1, none⟩ = some (.int .u64 b) := by rw [hW]; first | (simp [go_sem]; done)
  have fW1 : W.frozen? ⟨w.heap.size, 1, none⟩ = false := by rw [hW]; first | (simp [go_sem]; done)
  have zW1 : w.heap.size < W.heap.size := by rw [hW]; first | omega | (simp; done) | (simp; omega)
  have BW : Below w.heap.size w W := by rw [hW]; go_grown
  rw [← hW]
  clear hW
  have K1 := (Keeps.start (Nat.le_refl W.heap.size)).drew
  go_region_held3 (fun w' => w'.cell? ⟨w.heap.size, 0, none⟩ = some (.int .i64 a) ∧ w'.cell? ⟨w.heap.size, 1, none⟩ = some (.int .u64 b) ∧ Keeps W.heap.size W w') ((refine (fun K => ⟨Keeps.cell K cW0 zW0, Keeps.cell K cW1 zW1, K⟩) (?_ : Keeps W.heap.size W _); (first | assumption | exact Keeps.alloc (by assumption) _)))
    (first | (go_at_call 20; refine (c _).mono ?_; rintro e w1 ⟨rfl, hb⟩; have K2 := Keeps.call (by assumption) hb))
  go_wp2
  go_returns
  exact ⟨rfl, BW.trans (K2.below.mono BW.size)⟩
theorem rsmall_spec (a b : Int) (i : IsW (a, b)) (w : World) :
    Calls Try.prog 14 #[.agg #[.int .i64 a, .int .u64 b]] w fun e w' => e = .returned (.tuple #[.int .i64 (smallV (V a b)), .bool (smallB (V a b))]) ∧ Below w.heap.size w w' := by
  obtain ⟨i1, i0⟩ := i
  have wm := wrap_s i0
  have j : IsHi (s b) := by obtain ⟨_, _⟩ := i0; unfold s; split <;> exact ⟨by omega, by omega⟩
  have c := rof_spec (s b) j
  have el : lo (s b) = b := by obtain ⟨_, _⟩ := i0; unfold lo s; split <;> omega
  unfold wideRes at c
  rw [el] at c
  by_cases e : hi (s b) = a
  · rw [e] at c
    have v : V a b = s b := by rw [← e]; obtain ⟨_, _⟩ := i0; unfold V hi s; split <;> omega
    have h1 : smallV (V a b) = s b := by unfold smallV; rw [v, if_pos j]
    have h2 : smallB (V a b) = true := by unfold smallB; rw [v]; exact decide_eq_true j
    rw [h1, h2]
    exact rsmall_yes a b _ wm c w
  · have n : ¬ IsHi (V a b) := by
      rintro ⟨x, y⟩
      apply e
      obtain ⟨_, _⟩ := i0
      unfold V at x y; unfold hi s; split <;> omega
    have h1 : smallV (V a b) = 0 := by unfold smallV; rw [if_neg n]
    have h2 : smallB (V a b) = false := by unfold smallB; exact decide_eq_false n
    rw [h1, h2]
    exact rsmall_no a b _ _ wm (by simpa using e) c w
set_option maxRecDepth 100000 in
set_option maxHeartbeats 16000000 in
theorem signs_walk (a b c d m x1 x0 er t1 t0 et p1 p0 cv sv sm : Int) (sb : Bool)
    (k1 : ∀ w, Calls Try.prog 13 #[.agg #[.int .i64 a, .int .u64 b]] w fun e w' => e = .returned (.tuple #[.int .i64 sm, .bool sb]) ∧ Below w.heap.size w w')
    (k2 : ∀ w, Calls Try.prog 14 #[.agg #[.int .i64 a, .int .u64 b]] w fun e w' => e = .returned (.tuple #[.int .i64 sm, .bool sb]) ∧ Below w.heap.size w w')
    (k3 : ∀ w, Calls Try.prog 15 #[.agg #[.int .i64 a, .int .u64 b]] w fun e w' => e = .returned (.tuple #[.agg #[.int .i64 x1, .int .u64 x0], .int .i64 er]) ∧ Below w.heap.size w w')
    (k4 : ∀ w, Calls Try.prog 16 #[.agg #[.int .i64 a, .int .u64 b]] w fun e w' => e = .returned (.tuple #[.agg #[.int .i64 x1, .int .u64 x0], .int .i64 er]) ∧ Below w.heap.size w w')
    (k5 : ∀ w, Calls Try.prog 17 #[.agg #[.int .i64 a, .int .u64 b]] w fun e w' => e = .returned (.tuple #[.agg #[.int .i64 t1, .int .u64 t0], .int .i64 et]) ∧ Below w.heap.size w w')
    (k6 : ∀ w, Calls Try.prog 18 #[.agg #[.int .i64 a, .int .u64 b]] w fun e w' => e = .returned (.tuple #[.agg #[.int .i64 t1, .int .u64 t0], .int .i64 et]) ∧ Below w.heap.size w w')
    (k7 : ∀ w, Calls Try.prog 19 #[.int .i64 m] w fun e w' => e = .returned (.agg #[.int .i64 p1, .int .u64 p0]) ∧ Below w.heap.size w w')
    (k8 : ∀ w, Calls Try.prog 20 #[.int .i64 m] w fun e w' => e = .returned (.agg #[.int .i64 p1, .int .u64 p0]) ∧ Below w.heap.size w w')
    (k9 : ∀ w, Calls Try.prog 21 #[.agg #[.int .i64 a, .int .u64 b], .agg #[.int .i64 c, .int .u64 d]] w fun e w' => e = .returned (.int .i64 cv) ∧ Below w.heap.size w w')
    (k10 : ∀ w, Calls Try.prog 22 #[.agg #[.int .i64 a, .int .u64 b], .agg #[.int .i64 c, .int .u64 d]] w fun e w' => e = .returned (.int .i64 cv) ∧ Below w.heap.size w w')
    (k11 : ∀ w, Calls Try.prog 23 #[.agg #[.int .i64 a, .int .u64 b]] w fun e w' => e = .returned (.int .i64 sv) ∧ Below w.heap.size w w')
    (k12 : ∀ w, Calls Try.prog 24 #[.agg #[.int .i64 a, .int .u64 b]] w fun e w' => e = .returned (.int .i64 sv) ∧ Below w.heap.size w w')
    (k0 : ∀ w, Calls Try.prog 25 #[] w fun e w' => e = .returned (.bool true) ∧ Below w.heap.size w w')
    (w : World) : Calls Try.prog 3 #[.agg #[.int .i64 a, .int .u64 b], .agg #[.int .i64 c, .int .u64 d], .int .i64 m] w fun e w' => e = .returned (.bool true) ∧ Below w.heap.size w w' := by
  go_enter Try.func3, Try.ntmps3
  go_wp2_with fail
  refine (k1 _).mono ?_
  rintro e w1 ⟨rfl, h1⟩
  have B1 : Below w.heap.size w w1 := Below.trans (by go_grown) (h1.mono (by first | (simp; done) | omega | (simp; omega)))
  have y1 := B1.size
  have A0 := box2 h1 (w.heap.size) (.int .i64 a) (.int .u64 b) (by first | assumption | (simp [go_sem]; done) | (simp [go_sem]; done)) (by first | assumption | (simp [go_sem]; done) | (simp [go_sem]; done)) (by first | assumption | (simp [go_sem]; done) | (simp [go_sem]; done)) (by first | assumption | (simp [go_sem]; done) | (simp [go_sem]; done)) (by first | assumption | omega | (simp; done) | (simp; omega))
  have A1 := box2 h1 (w.heap.size + 1) (.int .i64 c) (.int .u64 d) (by first | assumption | (simp [go_sem]; done) | (simp [go_sem]; done)) (by first | assumption | (simp [go_sem]; done) | (simp [go_sem]; done)) (by first | assumption | (simp [go_sem]; done) | (simp [go_sem]; done)) (by first | assumption | (simp [go_sem]; done) | (simp [go_sem]; done)) (by first | assumption | omega | (simp; done) | (simp; omega))
  obtain ⟨A0c0, A0c1, A0f0, A0f1, A0z⟩ := A0
  obtain ⟨A1c0, A1c1, A1f0, A1f1, A1z⟩ := A1
  clear h1 k1
  go_wp2_with fail
  refine (k2 _).mono ?_
  rintro e w2 ⟨rfl, h2⟩
  have B2 : Below w.heap.size w w2 := Below.trans (by go_grown) (h2.mono (by first | (simp; done) | omega | (simp; omega)))
  have y2 := B2.size
  have B0 := box2 h2 (w.heap.size) (.int .i64 a) (.int .u64 b) (by first | assumption | (refine (Below.cell ?_ A0z).trans A0c0; go_grown; done) | (simp [go_sem, A0c0]; done) | (simp [go_sem, A0c0, A0z]; done) | (simp [go_sem, A0c0, A0c1, A0f0, A0f1, A0z, A1c0, A1c1, A1f0, A1f1, A1z]; done)) (by first | assumption | (refine (Below.cell ?_ A0z).trans A0c1; go_grown; done) | (simp [go_sem, A0c1]; done) | (simp [go_sem, A0c1, A0z]; done) | (simp [go_sem, A0c0, A0c1, A0f0, A0f1, A0z, A1c0, A1c1, A1f0, A1f1, A1z]; done)) (by first | assumption | (refine (Below.frozen ?_ A0z).trans A0f0; go_grown; done) | (simp [go_sem, A0f0]; done) | (simp [go_sem, A0f0, A0z]; done) | (simp [go_sem, A0c0, A0c1, A0f0, A0f1, A0z, A1c0, A1c1, A1f0, A1f1, A1z]; done)) (by first | assumption | (refine (Below.frozen ?_ A0z).trans A0f1; go_grown; done) | (simp [go_sem, A0f1]; done) | (simp [go_sem, A0f1, A0z]; done) | (simp [go_sem, A0c0, A0c1, A0f0, A0f1, A0z, A1c0, A1c1, A1f0, A1f1, A1z]; done)) (by first | assumption | omega | (simp; done) | (simp; omega))
  have B1 := box2 h2 (w.heap.size + 1) (.int .i64 c) (.int .u64 d) (by first | assumption | (refine (Below.cell ?_ A1z).trans A1c0; go_grown; done) | (simp [go_sem, A1c0]; done) | (simp [go_sem, A1c0, A1z]; done) | (simp [go_sem, A0c0, A0c1, A0f0, A0f1, A0z, A1c0, A1c1, A1f0, A1f1, A1z]; done)) (by first | assumption | (refine (Below.cell ?_ A1z).trans A1c1; go_grown; done) | (simp [go_sem, A1c1]; done) | (simp [go_sem, A1c1, A1z]; done) | (simp [go_sem, A0c0, A0c1, A0f0, A0f1, A0z, A1c0, A1c1, A1f0, A1f1, A1z]; done)) (by first | assumption | (refine (Below.frozen ?_ A1z).trans A1f0; go_grown; done) | (simp [go_sem, A1f0]; done) | (simp [go_sem, A1f0, A1z]; done) | (simp [go_sem, A0c0, A0c1, A0f0, A0f1, A0z, A1c0, A1c1, A1f0, A1f1, A1z]; done)) (by first | assumption | (refine (Below.frozen ?_ A1z).trans A1f1; go_grown; done) | (simp [go_sem, A1f1]; done) | (simp [go_sem, A1f1, A1z]; done) | (simp [go_sem, A0c0, A0c1, A0f0, A0f1, A0z, A1c0, A1c1, A1f0, A1f1, A1z]; done)) (by first | assumption | omega | (simp; done) | (simp; omega))
  clear A0c0 A0c1 A0f0 A0f1 A0z A1c0 A1c1 A1f0 A1f1 A1z
  obtain ⟨B0c0, B0c1, B0f0, B0f1, B0z⟩ := B0
  obtain ⟨B1c0, B1c1, B1f0, B1f1, B1z⟩ := B1
  clear h2 k2 B1
  go_wp2_with fail
  refine (k3 _).mono ?_
  rintro e w3 ⟨rfl, h3⟩
  have B3 : Below w.heap.size w w3 := Below.trans (by go_grown) (h3.mono (by first | (simp; done) | omega | (simp; omega)))
  have y3 := B3.size
  have C0 := box2 h3 (w.heap.size) (.int .i64 a) (.int .u64 b) (by first | assumption | (refine (Below.cell ?_ B0z).trans B0c0; go_grown; done) | (simp [go_sem, B0c0]; done) | (simp [go_sem, B0c0, B0z]; done) | (simp [go_sem, B0c0, B0c1, B0f0, B0f1, B0z, B1c0, B1c1, B1f0, B1f1, B1z]; done)) (by first | assumption | (refine (Below.cell ?_ B0z).trans B0c1; go_grown; done) | (simp [go_sem, B0c1]; done) | (simp [go_sem, B0c1, B0z]; done) | (simp [go_sem, B0c0, B0c1, B0f0, B0f1, B0z, B1c0, B1c1, B1f0, B1f1, B1z]; done)) (by first | assumption | (refine (Below.frozen ?_ B0z).trans B0f0; go_grown; done) | (simp [go_sem, B0f0]; done) | (simp [go_sem, B0f0, B0z]; done) | (simp [go_sem, B0c0, B0c1, B0f0, B0f1, B0z, B1c0, B1c1, B1f0, B1f1, B1z]; done)) (by first | assumption | (refine (Below.frozen ?_ B0z).trans B0f1; go_grown; done) | (simp [go_sem, B0f1]; done) | (simp [go_sem, B0f1, B0z]; done) | (simp [go_sem, B0c0, B0c1, B0f0, B0f1, B0z, B1c0, B1c1, B1f0, B1f1, B1z]; done)) (by first | assumption | omega | (simp; done) | (simp; omega))
  have C1 := box2 h3 (w.heap.size + 1) (.int .i64 c) (.int .u64 d) (by first | assumption | (refine (Below.cell ?_ B1z).trans B1c0; go_grown; done) | (simp [go_sem, B1c0]; done) | (simp [go_sem, B1c0, B1z]; done) | (simp [go_sem, B0c0, B0c1, B0f0, B0f1, B0z, B1c0, B1c1, B1f0, B1f1, B1z]; done)) (by first | assumption | (refine (Below.cell ?_ B1z).trans B1c1; go_grown; done) | (simp [go_sem, B1c1]; done) | (simp [go_sem, B1c1, B1z]; done) | (simp [go_sem, B0c0, B0c1, B0f0, B0f1, B0z, B1c0, B1c1, B1f0, B1f1, B1z]; done)) (by first | assumption | (refine (Below.frozen ?_ B1z).trans B1f0; go_grown; done) | (simp [go_sem, B1f0]; done) | (simp [go_sem, B1f0, B1z]; done) | (simp [go_sem, B0c0, B0c1, B0f0, B0f1, B0z, B1c0, B1c1, B1f0, B1f1, B1z]; done)) (by first | assumption | (refine (Below.frozen ?_ B1z).trans B1f1; go_grown; done) | (simp [go_sem, B1f1]; done) | (simp [go_sem, B1f1, B1z]; done) | (simp [go_sem, B0c0, B0c1, B0f0, B0f1, B0z, B1c0, B1c1, B1f0, B1f1, B1z]; done)) (by first | assumption | omega | (simp; done) | (simp; omega))
  clear B0c0 B0c1 B0f0 B0f1 B0z B1c0 B1c1 B1f0 B1f1 B1z
  obtain ⟨C0c0, C0c1, C0f0, C0f1, C0z⟩ := C0
  obtain ⟨C1c0, C1c1, C1f0, C1f1, C1z⟩ := C1
  clear h3 k3 B2
  go_wp2_with fail
  refine (k4 _).mono ?_
  rintro e w4 ⟨rfl, h4⟩
  have B4 : Below w.heap.size w w4 := Below.trans (by go_grown) (h4.mono (by first | (simp; done) | omega | (simp; omega)))
  have y4 := B4.size
  have D0 := box2 h4 (w.heap.size) (.int .i64 a) (.int .u64 b) (by first | assumption | (refine (Below.cell ?_ C0z).trans C0c0; go_grown; done) | (simp [go_sem, C0c0]; done) | (simp [go_sem, C0c0, C0z]; done) | (simp [go_sem, C0c0, C0c1, C0f0, C0f1, C0z, C1c0, C1c1, C1f0, C1f1, C1z]; done)) (by first | assumption | (refine (Below.cell ?_ C0z).trans C0c1; go_grown; done) | (simp [go_sem, C0c1]; done) | (simp [go_sem, C0c1, C0z]; done) | (simp [go_sem, C0c0, C0c1, C0f0, C0f1, C0z, C1c0, C1c1, C1f0, C1f1, C1z]; done)) (by first | assumption | (refine (Below.frozen ?_ C0z).trans C0f0; go_grown; done) | (simp [go_sem, C0f0]; done) | (simp [go_sem, C0f0, C0z]; done) | (simp [go_sem, C0c0, C0c1, C0f0, C0f1, C0z, C1c0, C1c1, C1f0, C1f1, C1z]; done)) (by first | assumption | (refine (Below.frozen ?_ C0z).trans C0f1; go_grown; done) | (simp [go_sem, C0f1]; done) | (simp [go_sem, C0f1, C0z]; done) | (simp [go_sem, C0c0, C0c1, C0f0, C0f1, C0z, C1c0, C1c1, C1f0, C1f1, C1z]; done)) (by first | assumption | omega | (simp; done) | (simp; omega))
  have D1 := box2 h4 (w.heap.size + 1) (.int .i64 c) (.int .u64 d) (by first | assumption | (refine (Below.cell ?_ C1z).trans C1c0; go_grown; done) | (simp [go_sem, C1c0]; done) | (simp [go_sem, C1c0, C1z]; done) | (simp [go_sem, C0c0, C0c1, C0f0, C0f1, C0z, C1c0, C1c1, C1f0, C1f1, C1z]; done)) (by first | assumption | (refine (Below.cell ?_ C1z).trans C1c1; go_grown; done) | (simp [go_sem, C1c1]; done) | (simp [go_sem, C1c1, C1z]; done) | (simp [go_sem, C0c0, C0c1, C0f0, C0f1, C0z, C1c0, C1c1, C1f0, C1f1, C1z]; done)) (by first | assumption | (refine (Below.frozen ?_ C1z).trans C1f0; go_grown; done) | (simp [go_sem, C1f0]; done) | (simp [go_sem, C1f0, C1z]; done) | (simp [go_sem, C0c0, C0c1, C0f0, C0f1, C0z, C1c0, C1c1, C1f0, C1f1, C1z]; done)) (by first | assumption | (refine (Below.frozen ?_ C1z).trans C1f1; go_grown; done) | (simp [go_sem, C1f1]; done) | (simp [go_sem, C1f1, C1z]; done) | (simp [go_sem, C0c0, C0c1, C0f0, C0f1, C0z, C1c0, C1c1, C1f0, C1f1, C1z]; done)) (by first | assumption | omega | (simp; done) | (simp; omega))
  have D2 := box2 h4 (w3.heap.size) (.int .i64 x1) (.int .u64 x0) (by first | assumption | (simp [go_sem]; done) | (simp [go_sem, C0c0, C0c1, C0f0, C0f1, C0z, C1c0, C1c1, C1f0, C1f1, C1z]; done)) (by first | assumption | (simp [go_sem]; done) | (simp [go_sem, C0c0, C0c1, C0f0, C0f1, C0z, C1c0, C1c1, C1f0, C1f1, C1z]; done)) (by first | assumption | (simp [go_sem]; done) | (simp [go_sem, C0c0, C0c1, C0f0, C0f1, C0z, C1c0, C1c1, C1f0, C1f1, C1z]; done)) (by first | assumption | (simp [go_sem]; done) | (simp [go_sem, C0c0, C0c1, C0f0, C0f1, C0z, C1c0, C1c1, C1f0, C1f1, C1z]; done)) (by first | assumption | omega | (simp; done) | (simp; omega))
  clear C0c0 C0c1 C0f0 C0f1 C0z C1c0 C1c1 C1f0 C1f1 C1z
  obtain ⟨D0c0, D0c1, D0f0, D0f1, D0z⟩ := D0
  obtain ⟨D1c0, D1c1, D1f0, D1f1, D1z⟩ := D1
  obtain ⟨D2c0, D2c1, D2f0, D2f1, D2z⟩ := D2
  clear h4 k4 B3
  go_wp2_with fail
  refine (k5 _).mono ?_
  rintro e w5 ⟨rfl, h5⟩
  have B5 : Below w.heap.size w w5 := Below.trans (by go_grown) (h5.mono (by first | (simp; done) | omega | (simp; omega)))
  have y5 := B5.size
  have E0 := box2 h5 (w.heap.size) (.int .i64 a) (.int .u64 b) (by first | assumption | (refine (Below.cell ?_ D0z).trans D0c0; go_grown; done) | (simp [go_sem, D0c0]; done) | (simp [go_sem, D0c0, D0z]; done) | (simp [go_sem, D0c0, D0c1, D0f0, D0f1, D0z, D1c0, D1c1, D1f0, D1f1, D1z, D2c0, D2c1, D2f0, D2f1, D2z]; done)) (by first | assumption | (refine (Below.cell ?_ D0z).trans D0c1; go_grown; done) | (simp [go_sem, D0c1]; done) | (simp [go_sem, D0c1, D0z]; done) | (simp [go_sem, D0c0, D0c1, D0f0, D0f1, D0z, D1c0, D1c1, D1f0, D1f1, D1z, D2c0, D2c1, D2f0, D2f1, D2z]; done)) (by first | assumption | (refine (Below.frozen ?_ D0z).trans D0f0; go_grown; done) | (simp [go_sem, D0f0]; done) | (simp [go_sem, D0f0, D0z]; done) | (simp [go_sem, D0c0, D0c1, D0f0, D0f1, D0z, D1c0, D1c1, D1f0, D1f1, D1z, D2c0, D2c1, D2f0, D2f1, D2z]; done)) (by first | assumption | (refine (Below.frozen ?_ D0z).trans D0f1; go_grown; done) | (simp [go_sem, D0f1]; done) | (simp [go_sem, D0f1, D0z]; done) | (simp [go_sem, D0c0, D0c1, D0f0, D0f1, D0z, D1c0, D1c1, D1f0, D1f1, D1z, D2c0, D2c1, D2f0, D2f1, D2z]; done)) (by first | assumption | omega | (simp; done) | (simp; omega))
  have E1 := box2 h5 (w.heap.size + 1) (.int .i64 c) (.int .u64 d) (by first | assumption | (refine (Below.cell ?_ D1z).trans D1c0; go_grown; done) | (simp [go_sem, D1c0]; done) | (simp [go_sem, D1c0, D1z]; done) | (simp [go_sem, D0c0, D0c1, D0f0, D0f1, D0z, D1c0, D1c1, D1f0, D1f1, D1z, D2c0, D2c1, D2f0, D2f1, D2z]; done)) (by first | assumption | (refine (Below.cell ?_ D1z).trans D1c1; go_grown; done) | (simp [go_sem, D1c1]; done) | (simp [go_sem, D1c1, D1z]; done) | (simp [go_sem, D0c0, D0c1, D0f0, D0f1, D0z, D1c0, D1c1, D1f0, D1f1, D1z, D2c0, D2c1, D2f0, D2f1, D2z]; done)) (by first | assumption | (refine (Below.frozen ?_ D1z).trans D1f0; go_grown; done) | (simp [go_sem, D1f0]; done) | (simp [go_sem, D1f0, D1z]; done) | (simp [go_sem, D0c0, D0c1, D0f0, D0f1, D0z, D1c0, D1c1, D1f0, D1f1, D1z, D2c0, D2c1, D2f0, D2f1, D2z]; done)) (by first | assumption | (refine (Below.frozen ?_ D1z).trans D1f1; go_grown; done) | (simp [go_sem, D1f1]; done) | (simp [go_sem, D1f1, D1z]; done) | (simp [go_sem, D0c0, D0c1, D0f0, D0f1, D0z, D1c0, D1c1, D1f0, D1f1, D1z, D2c0, D2c1, D2f0, D2f1, D2z]; done)) (by first | assumption | omega | (simp; done) | (simp; omega))
  have E2 := box2 h5 (w3.heap.size) (.int .i64 x1) (.int .u64 x0) (by first | assumption | (refine (Below.cell ?_ D2z).trans D2c0; go_grown; done) | (simp [go_sem, D2c0]; done) | (simp [go_sem, D2c0, D2z]; done) | (simp [go_sem, D0c0, D0c1, D0f0, D0f1, D0z, D1c0, D1c1, D1f0, D1f1, D1z, D2c0, D2c1, D2f0, D2f1, D2z]; done)) (by first | assumption | (refine (Below.cell ?_ D2z).trans D2c1; go_grown; done) | (simp [go_sem, D2c1]; done) | (simp [go_sem, D2c1, D2z]; done) | (simp [go_sem, D0c0, D0c1, D0f0, D0f1, D0z, D1c0, D1c1, D1f0, D1f1, D1z, D2c0, D2c1, D2f0, D2f1, D2z]; done)) (by first | assumption | (refine (Below.frozen ?_ D2z).trans D2f0; go_grown; done) | (simp [go_sem, D2f0]; done) | (simp [go_sem, D2f0, D2z]; done) | (simp [go_sem, D0c0, D0c1, D0f0, D0f1, D0z, D1c0, D1c1, D1f0, D1f1, D1z, D2c0, D2c1, D2f0, D2f1, D2z]; done)) (by first | assumption | (refine (Below.frozen ?_ D2z).trans D2f1; go_grown; done) | (simp [go_sem, D2f1]; done) | (simp [go_sem, D2f1, D2z]; done) | (simp [go_sem, D0c0, D0c1, D0f0, D0f1, D0z, D1c0, D1c1, D1f0, D1f1, D1z, D2c0, D2c1, D2f0, D2f1, D2z]; done)) (by first | assumption | omega | (simp; done) | (simp; omega))
  have E3 := box2 h5 (w4.heap.size) (.int .i64 x1) (.int .u64 x0) (by first | assumption | (simp [go_sem]; done) | (simp [go_sem, D0c0, D0c1, D0f0, D0f1, D0z, D1c0, D1c1, D1f0, D1f1, D1z, D2c0, D2c1, D2f0, D2f1, D2z]; done)) (by first | assumption | (simp [go_sem]; done) | (simp [go_sem, D0c0, D0c1, D0f0, D0f1, D0z, D1c0, D1c1, D1f0, D1f1, D1z, D2c0, D2c1, D2f0, D2f1, D2z]; done)) (by first | assumption | (simp [go_sem]; done) | (simp [go_sem, D0c0, D0c1, D0f0, D0f1, D0z, D1c0, D1c1, D1f0, D1f1, D1z, D2c0, D2c1, D2f0, D2f1, D2z]; done)) (by first | assumption | (simp [go_sem]; done) | (simp [go_sem, D0c0, D0c1, D0f0, D0f1, D0z, D1c0, D1c1, D1f0, D1f1, D1z, D2c0, D2c1, D2f0, D2f1, D2z]; done)) (by first | assumption | omega | (simp; done) | (simp; omega))
  clear D0c0 D0c1 D0f0 D0f1 D0z D1c0 D1c1 D1f0 D1f1 D1z D2c0 D2c1 D2f0 D2f1 D2z
  obtain ⟨E0c0, E0c1, E0f0, E0f1, E0z⟩ := E0
  obtain ⟨E1c0, E1c1, E1f0, E1f1, E1z⟩ := E1
  obtain ⟨E2c0, E2c1, E2f0, E2f1, E2z⟩ := E2
  obtain ⟨E3c0, E3c1, E3f0, E3f1, E3z⟩ := E3
  clear h5 k5 B4
  go_wp2_with fail
  refine (k6 _).mono ?_
  rintro e w6 ⟨rfl, h6⟩
  have B6 : Below w.heap.size w w6 := Below.trans (by go_grown) (h6.mono (by first | (simp; done) | omega | (simp; omega)))
  have y6 := B6.size
  have F0 := box2 h6 (w.heap.size) (.int .i64 a) (.int .u64 b) (by first | assumption | (refine (Below.cell ?_ E0z).trans E0c0; go_grown; done) | (simp [go_sem, E0c0]; done) | (simp [go_sem, E0c0, E0z]; done) | (simp [go_sem, E0c0, E0c1, E0f0, E0f1, E0z, E1c0, E1c1, E1f0, E1f1, E1z, E2c0, E2c1, E2f0, E2f1, E2z, E3c0, E3c1, E3f0, E3f1, E3z]; done)) (by first | assumption | (refine (Below.cell ?_ E0z).trans E0c1; go_grown; done) | (simp [go_sem, E0c1]; done) | (simp [go_sem, E0c1, E0z]; done) | (simp [go_sem, E0c0, E0c1, E0f0, E0f1, E0z, E1c0, E1c1, E1f0, E1f1, E1z, E2c0, E2c1, E2f0, E2f1, E2z, E3c0, E3c1, E3f0, E3f1, E3z]; done)) (by first | assumption | (refine (Below.frozen ?_ E0z).trans E0f0; go_grown; done) | (simp [go_sem, E0f0]; done) | (simp [go_sem, E0f0, E0z]; done) | (simp [go_sem, E0c0, E0c1, E0f0, E0f1, E0z, E1c0, E1c1, E1f0, E1f1, E1z, E2c0, E2c1, E2f0, E2f1, E2z, E3c0, E3c1, E3f0, E3f1, E3z]; done)) (by first | assumption | (refine (Below.frozen ?_ E0z).trans E0f1; go_grown; done) | (simp [go_sem, E0f1]; done) | (simp [go_sem, E0f1, E0z]; done) | (simp [go_sem, E0c0, E0c1, E0f0, E0f1, E0z, E1c0, E1c1, E1f0, E1f1, E1z, E2c0, E2c1, E2f0, E2f1, E2z, E3c0, E3c1, E3f0, E3f1, E3z]; done)) (by first | assumption | omega | (simp; done) | (simp; omega))
  have F1 := box2 h6 (w.heap.size + 1) (.int .i64 c) (.int .u64 d) (by first | assumption | (refine (Below.cell ?_ E1z).trans E1c0; go_grown; done) | (simp [go_sem, E1c0]; done) | (simp [go_sem, E1c0, E1z]; done) | (simp [go_sem, E0c0, E0c1, E0f0, E0f1, E0z, E1c0, E1c1, E1f0, E1f1, E1z, E2c0, E2c1, E2f0, E2f1, E2z, E3c0, E3c1, E3f0, E3f1, E3z]; done)) (by first | assumption | (refine (Below.cell ?_ E1z).trans E1c1; go_grown; done) | (simp [go_sem, E1c1]; done) | (simp [go_sem, E1c1, E1z]; done) | (simp [go_sem, E0c0, E0c1, E0f0, E0f1, E0z, E1c0, E1c1, E1f0, E1f1, E1z, E2c0, E2c1, E2f0, E2f1, E2z, E3c0, E3c1, E3f0, E3f1, E3z]; done)) (by first | assumption | (refine (Below.frozen ?_ E1z).trans E1f0; go_grown; done) | (simp [go_sem, E1f0]; done) | (simp [go_sem, E1f0, E1z]; done) | (simp [go_sem, E0c0, E0c1, E0f0, E0f1, E0z, E1c0, E1c1, E1f0, E1f1, E1z, E2c0, E2c1, E2f0, E2f1, E2z, E3c0, E3c1, E3f0, E3f1, E3z]; done)) (by first | assumption | (refine (Below.frozen ?_ E1z).trans E1f1; go_grown; done) | (simp [go_sem, E1f1]; done) | (simp [go_sem, E1f1, E1z]; done) | (simp [go_sem, E0c0, E0c1, E0f0, E0f1, E0z, E1c0, E1c1, E1f0, E1f1, E1z, E2c0, E2c1, E2f0, E2f1, E2z, E3c0, E3c1, E3f0, E3f1, E3z]; done)) (by first | assumption | omega | (simp; done) | (simp; omega))
  have F2 := box2 h6 (w3.heap.size) (.int .i64 x1) (.int .u64 x0) (by first | assumption | (refine (Below.cell ?_ E2z).trans E2c0; go_grown; done) | (simp [go_sem, E2c0]; done) | (simp [go_sem, E2c0, E2z]; done) | (simp [go_sem, E0c0, E0c1, E0f0, E0f1, E0z, E1c0, E1c1, E1f0, E1f1, E1z, E2c0, E2c1, E2f0, E2f1, E2z, E3c0, E3c1, E3f0, E3f1, E3z]; done)) (by first | assumption | (refine (Below.cell ?_ E2z).trans E2c1; go_grown; done) | (simp [go_sem, E2c1]; done) | (simp [go_sem, E2c1, E2z]; done) | (simp [go_sem, E0c0, E0c1, E0f0, E0f1, E0z, E1c0, E1c1, E1f0, E1f1, E1z, E2c0, E2c1, E2f0, E2f1, E2z, E3c0, E3c1, E3f0, E3f1, E3z]; done)) (by first | assumption | (refine (Below.frozen ?_ E2z).trans E2f0; go_grown; done) | (simp [go_sem, E2f0]; done) | (simp [go_sem, E2f0, E2z]; done) | (simp [go_sem, E0c0, E0c1, E0f0, E0f1, E0z, E1c0, E1c1, E1f0, E1f1, E1z, E2c0, E2c1, E2f0, E2f1, E2z, E3c0, E3c1, E3f0, E3f1, E3z]; done)) (by first | assumption | (refine (Below.frozen ?_ E2z).trans E2f1; go_grown; done) | (simp [go_sem, E2f1]; done) | (simp [go_sem, E2f1, E2z]; done) | (simp [go_sem, E0c0, E0c1, E0f0, E0f1, E0z, E1c0, E1c1, E1f0, E1f1, E1z, E2c0, E2c1, E2f0, E2f1, E2z, E3c0, E3c1, E3f0, E3f1, E3z]; done)) (by first | assumption | omega | (simp; done) | (simp; omega))
  have F3 := box2 h6 (w4.heap.size) (.int .i64 x1) (.int .u64 x0) (by first | assumption | (refine (Below.cell ?_ E3z).trans E3c0; go_grown; done) | (simp [go_sem, E3c0]; done) | (simp [go_sem, E3c0, E3z]; done) | (simp [go_sem, E0c0, E0c1, E0f0, E0f1, E0z, E1c0, E1c1, E1f0, E1f1, E1z, E2c0, E2c1, E2f0, E2f1, E2z, E3c0, E3c1, E3f0, E3f1, E3z]; done)) (by first | assumption | (refine (Below.cell ?_ E3z).trans E3c1; go_grown; done) | (simp [go_sem, E3c1]; done) | (simp [go_sem, E3c1, E3z]; done) | (simp [go_sem, E0c0, E0c1, E0f0, E0f1, E0z, E1c0, E1c1, E1f0, E1f1, E1z, E2c0, E2c1, E2f0, E2f1, E2z, E3c0, E3c1, E3f0, E3f1, E3z]; done)) (by first | assumption | (refine (Below.frozen ?_ E3z).trans E3f0; go_grown; done) | (simp [go_sem, E3f0]; done) | (simp [go_sem, E3f0, E3z]; done) | (simp [go_sem, E0c0, E0c1, E0f0, E0f1, E0z, E1c0, E1c1, E1f0, E1f1, E1z, E2c0, E2c1, E2f0, E2f1, E2z, E3c0, E3c1, E3f0, E3f1, E3z]; done)) (by first | assumption | (refine (Below.frozen ?_ E3z).trans E3f1; go_grown; done) | (simp [go_sem, E3f1]; done) | (simp [go_sem, E3f1, E3z]; done) | (simp [go_sem, E0c0, E0c1, E0f0, E0f1, E0z, E1c0, E1c1, E1f0, E1f1, E1z, E2c0, E2c1, E2f0, E2f1, E2z, E3c0, E3c1, E3f0, E3f1, E3z]; done)) (by first | assumption | omega | (simp; done) | (simp; omega))
  have F4 := box2 h6 (w5.heap.size) (.int .i64 t1) (.int .u64 t0) (by first | assumption | (simp [go_sem]; done) | (simp [go_sem, E0c0, E0c1, E0f0, E0f1, E0z, E1c0, E1c1, E1f0, E1f1, E1z, E2c0, E2c1, E2f0, E2f1, E2z, E3c0, E3c1, E3f0, E3f1, E3z]; done)) (by first | assumption | (simp [go_sem]; done) | (simp [go_sem, E0c0, E0c1, E0f0, E0f1, E0z, E1c0, E1c1, E1f0, E1f1, E1z, E2c0, E2c1, E2f0, E2f1, E2z, E3c0, E3c1, E3f0, E3f1, E3z]; done)) (by first | assumption | (simp [go_sem]; done) | (simp [go_sem, E0c0, E0c1, E0f0, E0f1, E0z, E1c0, E1c1, E1f0, E1f1, E1z, E2c0, E2c1, E2f0, E2f1, E2z, E3c0, E3c1, E3f0, E3f1, E3z]; done)) (by first | assumption | (simp [go_sem]; done) | (simp [go_sem, E0c0, E0c1, E0f0, E0f1, E0z, E1c0, E1c1, E1f0, E1f1, E1z, E2c0, E2c1, E2f0, E2f1, E2z, E3c0, E3c1, E3f0, E3f1, E3z]; done)) (by first | assumption | omega | (simp; done) | (simp; omega))
  clear E0c0 E0c1 E0f0 E0f1 E0z E1c0 E1c1 E1f0 E1f1 E1z E2c0 E2c1 E2f0 E2f1 E2z E3c0 E3c1 E3f0 E3f1 E3z
  obtain ⟨F0c0, F0c1, F0f0, F0f1, F0z⟩ := F0
  obtain ⟨F1c0, F1c1, F1f0, F1f1, F1z⟩ := F1
  obtain ⟨F2c0, F2c1, F2f0, F2f1, F2z⟩ := F2
  obtain ⟨F3c0, F3c1, F3f0, F3f1, F3z⟩ := F3
  obtain ⟨F4c0, F4c1, F4f0, F4f1, F4z⟩ := F4
  clear h6 k6 B5
  go_upto_region 7 with (fail)
  refine abs_wp (fun W => W.cell? ⟨w.heap.size, 0, none⟩ = some (.int .i64 a) ∧ W.cell? ⟨w.heap.size, 1, none⟩ = some (.int .u64 b) ∧ W.cell? ⟨w.heap.size + 1, 0, none⟩ = some (.int .i64 c) ∧ W.cell? ⟨w.heap.size + 1, 1, none⟩ = some (.int .u64 d) ∧ W.cell? ⟨w3.heap.size, 0, none⟩ = some (.int .i64 x1) ∧ W.cell? ⟨w3.heap.size, 1, none⟩ = some (.int .u64 x0) ∧ W.cell? ⟨w4.heap.size, 0, none⟩ = some (.int .i64 x1) ∧ W.cell? ⟨w4.heap.size, 1, none⟩ = some (.int .u64 x0) ∧ W.cell? ⟨w5.heap.size, 0, none⟩ = some (.int .i64 t1) ∧ W.cell? ⟨w5.heap.size, 1, none⟩ = some (.int .u64 t0) ∧ W.cell? ⟨w6.heap.size, 0, none⟩ = some (.int .i64 t1) ∧ W.cell? ⟨w6.heap.size, 1, none⟩ = some (.int .u64 t0) ∧ w.heap.size < W.heap.size ∧ w.heap.size + 1 < W.heap.size ∧ w3.heap.size < W.heap.size ∧ w4.heap.size < W.heap.size ∧ w5.heap.size < W.heap.size ∧ w6.heap.size < W.heap.size ∧ Below w.heap.size w W) ?_ ?_
  · refine ⟨?_, ?_, ?_, ?_, ?_, ?_, ?_, ?_, ?_, ?_, ?_, ?_, ?_, ?_, ?_, ?_, ?_, ?_, ?_⟩
    all_goals first | assumption | (simp [go_sem, F0c0, F0f0, F0c1, F0f1, F1c0, F1f0, F1c1, F1f1, F2c0, F2f0, F2c1, F2f1, F3c0, F3f0, F3c1, F3f1, F4c0, F4f0, F4c1, F4f1, F0z, F1z, F2z, F3z, F4z]; done) | (simp; done) | omega | (simp; omega) | (go_grown; done)
  rintro W ⟨c0, c1, c2, c3, c4, c5, c6, c7, c8, c9, c10, c11, z0, z1, z3, z4, z5, z6, BW⟩
  clear F0c0 F0c1 F0f0 F0f1 F0z F1c0 F1c1 F1f0 F1f1 F1z F2c0 F2c1 F2f0 F2f1 F2z F3c0 F3c1 F3f0 F3f1 F3z F4c0 F4c1 F4f0 F4f1 F4z B6
  have K0 := Keeps.start (Nat.le_refl W.heap.size)
  have K1 := K0.drew
  go_region_held3 (fun w' => w'.cell? ⟨w.heap.size, 0, none⟩ = some (.int .i64 a) ∧ w'.cell? ⟨w.heap.size, 1, none⟩ = some (.int .u64 b) ∧ w'.cell? ⟨w.heap.size + 1, 0, none⟩ = some (.int .i64 c) ∧ w'.cell? ⟨w.heap.size + 1, 1, none⟩ = some (.int .u64 d) ∧ w'.cell? ⟨w3.heap.size, 0, none⟩ = some (.int .i64 x1) ∧ w'.cell? ⟨w3.heap.size, 1, none⟩ = some (.int .u64 x0) ∧ w'.cell? ⟨w4.heap.size, 0, none⟩ = some (.int .i64 x1) ∧ w'.cell? ⟨w4.heap.size, 1, none⟩ = some (.int .u64 x0) ∧ w'.cell? ⟨w5.heap.size, 0, none⟩ = some (.int .i64 t1) ∧ w'.cell? ⟨w5.heap.size, 1, none⟩ = some (.int .u64 t0) ∧ w'.cell? ⟨w6.heap.size, 0, none⟩ = some (.int .i64 t1) ∧ w'.cell? ⟨w6.heap.size, 1, none⟩ = some (.int .u64 t0) ∧ Keeps W.heap.size W w') ((refine (fun K => ⟨Keeps.cell K c0 z0, Keeps.cell K c1 z0, Keeps.cell K c2 z1, Keeps.cell K c3 z1, Keeps.cell K c4 z3, Keeps.cell K c5 z3, Keeps.cell K c6 z4, Keeps.cell K c7 z4, Keeps.cell K c8 z5, Keeps.cell K c9 z5, Keeps.cell K c10 z6, Keeps.cell K c11 z6, K⟩) (?_ : Keeps W.heap.size W _); (repeat (first | assumption | refine Keeps.alloc ?_ _ | refine Keeps.drew ?_ | refine Keeps.setCell ?_ (by first | (simp; done) | omega | (simp; omega)) _))))
    (first
    | (go_at_call 19; (with_reducible refine (k7 _).mono ?_); rintro e v20 ⟨rfl, hb20⟩; have K20 := Keeps.call (B := W.heap.size) (W := W) (by repeat (first | assumption | refine Keeps.alloc ?_ _ | refine Keeps.drew ?_ | refine Keeps.setCell ?_ (by first | (simp; done) | omega | (simp; omega)) _)) hb20)
    | (go_at_call 20; (with_reducible refine (k8 _).mono ?_); rintro e v21 ⟨rfl, hb21⟩; have K21 := Keeps.call (B := W.heap.size) (W := W) (by repeat (first | assumption | refine Keeps.alloc ?_ _ | refine Keeps.drew ?_ | refine Keeps.setCell ?_ (by first | (simp; done) | omega | (simp; omega)) _)) hb21)
    | (go_at_call 21; (with_reducible refine (k9 _).mono ?_); rintro e v22 ⟨rfl, hb22⟩; have K22 := Keeps.call (B := W.heap.size) (W := W) (by repeat (first | assumption | refine Keeps.alloc ?_ _ | refine Keeps.drew ?_ | refine Keeps.setCell ?_ (by first | (simp; done) | omega | (simp; omega)) _)) hb22)
    | (go_at_call 22; (with_reducible refine (k10 _).mono ?_); rintro e v23 ⟨rfl, hb23⟩; have K23 := Keeps.call (B := W.heap.size) (W := W) (by repeat (first | assumption | refine Keeps.alloc ?_ _ | refine Keeps.drew ?_ | refine Keeps.setCell ?_ (by first | (simp; done) | omega | (simp; omega)) _)) hb23)
    | (go_at_call 23; (with_reducible refine (k11 _).mono ?_); rintro e v24 ⟨rfl, hb24⟩; have K24 := Keeps.call (B := W.heap.size) (W := W) (by repeat (first | assumption | refine Keeps.alloc ?_ _ | refine Keeps.drew ?_ | refine Keeps.setCell ?_ (by first | (simp; done) | omega | (simp; omega)) _)) hb24)
    | (go_at_call 24; (with_reducible refine (k12 _).mono ?_); rintro e v25 ⟨rfl, hb25⟩; have K25 := Keeps.call (B := W.heap.size) (W := W) (by repeat (first | assumption | refine Keeps.alloc ?_ _ | refine Keeps.drew ?_ | refine Keeps.setCell ?_ (by first | (simp; done) | omega | (simp; omega)) _)) hb25)
    | (go_at_call 25; (with_reducible refine (k0 _).mono ?_); rintro e v26 ⟨rfl, hb26⟩; have K26 := Keeps.call (B := W.heap.size) (W := W) (by repeat (first | assumption | refine Keeps.alloc ?_ _ | refine Keeps.drew ?_ | refine Keeps.setCell ?_ (by first | (simp; done) | omega | (simp; omega)) _)) hb26))
  all_goals
    go_wp2_with fail
    go_returns
    exact ⟨rfl, BW.trans (K26.below.mono BW.size)⟩
theorem law_WideSigns (a0 b0 a1 b1 a2 : Int) (wa0 : (Lit.int .i64 a0).wf = true) (wb0 : (Lit.int .u64 b0).wf = true) (wa1 : (Lit.int .i64 a1).wf = true) (wb1 : (Lit.int .u64 b1).wf = true) (w2 : (Lit.int .i64 a2).wf = true) (w : World) :
    Calls Try.prog 3 #[.agg #[.int .i64 a0, .int .u64 b0], .agg #[.int .i64 a1, .int .u64 b1], .int .i64 a2] w fun e w' => e = .returned (.bool true) ∧ Below w.heap.size w w' := by
  have i : IsW (a0, b0) := ⟨hi_of_wf wa0, lo_of_wf wb0⟩
  have j : IsW (a1, b1) := ⟨hi_of_wf wa1, lo_of_wf wb1⟩
  have m := hi_of_wf w2
  exact signs_walk a0 b0 a1 b1 a2 _ _ _ _ _ _ _ _ _ _ _ _ (small_spec a0 b0 i) (rsmall_spec a0 b0 i) (neg_spec a0 b0 i) (rneg_spec a0 b0 i) (abs_spec a0 b0 i) (rabs_spec a0 b0 i) (wof_spec a2 m) (rof_spec a2 m) (cmp_spec a0 b0 a1 b1 i.b j.b) (rcmp_spec a0 b0 a1 b1 i j) (sign_spec a0 b0 i.b) (rsign_spec a0 b0 i) alive_ok w
end Go.Proofs.Ythcgkpmlfbjagaa
